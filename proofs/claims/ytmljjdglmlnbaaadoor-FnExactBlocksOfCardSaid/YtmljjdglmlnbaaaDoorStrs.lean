/- Contracts and plain facts that a law of this seat leans on. Conditions: as each theorem types them. -/
import Derived.Test.YtmljjdglmlnbaaaDoorKit
import Derived.BigQuiet
import Derived.Deep.QuietTactic
import Derived.Deep.RegionHeld3
namespace Go.Proofs.YtmljjdglmlnbaaaDoor.Strs
open Go.ChangeShapes Go.WideShapes Go.ChangeAt Go.RowKit
set_option linter.unusedVariables false

theorem ret_str {a b : ByteArray} (h : a = b) : Ending.returned (.string a) = .returned (.string b) := by rw [h]
/-- The last digit of k, as a string. -/
def digOne (k : Nat) : ByteArray := ⟨#[UInt8.ofNat (48 + k % 10)]⟩
theorem digOne_size (k : Nat) (o : ByteArray) : (digOne k ++ o).size = o.size + 1 ∧ (digOne k).size ≤ 1 := by
  have : (digOne k).size = 1 := rfl
  rw [ByteArray.size_append, this]; omega
def mtext (k : Nat) (o : ByteArray) : ByteArray :=
  if h : k = 0 then o else mtext (k / 10) (digOne k ++ o)
termination_by k
decreasing_by omega
/-- The mark of number k. -/
def markT (k : Nat) : ByteArray := ⟨#[109]⟩ ++ mtext k ⟨#[]⟩
theorem mtext_zero (o : ByteArray) : mtext 0 o = o := by rw [mtext]; simp
theorem mtext_step (k : Nat) (o : ByteArray) (h : k ≠ 0) : mtext k o = mtext (k / 10) (digOne k ++ o) := by
  rw [mtext]; simp [h]
/-- A slice value that is nil, or whose cells hold the strings xs. -/
def Holds (w : World) (v : Value) (xs : List ByteArray) : Prop :=
  ∃ (a : Option Addr) (cap : Nat), v = .slice a xs.length cap ∧ (xs ≠ [] → ∃ b o, a = some ⟨b, o, none⟩ ∧ b < w.heap.size ∧ ∀ j, j < xs.length → w.cell? ⟨b, o + j, none⟩ = some (.string (xs.getD j ⟨#[]⟩)))
theorem holds_of_own {w : World} {base : Nat} {e : TypeId} {v : Value} {n : Nat} {xs : List ByteArray} (h : w.ownsRow base e 1 v n (xs.map Value.string)) : Holds w v xs := by
  have hl := h.1
  simp at hl
  rcases h.2 with ⟨rfl, h0⟩ | ⟨g, cap, cur, rfl, hb, hg, hn, _, _, htake⟩
  · have : xs = [] := by cases xs with | nil => rfl | cons a l => simp at hl; omega
    subst this
    exact ⟨none, 0, rfl, fun hh => absurd rfl hh⟩
  · refine ⟨some ⟨g, 0, none⟩, cap, by rw [hl], fun _ => ⟨g, 0, rfl, (Array.getElem?_eq_some_iff.1 hg).1, fun j hj => ?_⟩⟩
    rw [Nat.zero_add, h.cellAt j (by omega)]
    simp [List.getD, List.getElem?_eq_getElem hj]
theorem holds_below {w w' : World} {B : Nat} {v : Value} {xs : List ByteArray} (h : Holds w v xs) (hb : Below w.heap.size w w') : Holds w' v xs := by
  obtain ⟨a, cap, rfl, hc⟩ := h
  refine ⟨a, cap, rfl, fun hh => ?_⟩
  obtain ⟨b, o, rfl, hlt, hcell⟩ := hc hh
  exact ⟨b, o, rfl, Nat.lt_of_lt_of_le hlt hb.size, fun j hj => by rw [hb.cell (p := ⟨b, o + j, none⟩) hlt]; exact hcell j hj⟩

set_option maxRecDepth 100000 in
set_option maxHeartbeats 400000 in
/-- Two slices that read alike are found equal; only draws are made. -/
theorem eq_any (w : World) (va vb : Value) (xs : List ByteArray) (hn : xs.length ≤ 1073741824) (ha : Holds w va xs) (hb : Holds w vb xs) :
    Calls Tryd.prog 30 #[va, vb] w fun e w' => e = .returned (.bool true) ∧ ∃ m, w' = w.drewN m := by
  obtain ⟨a, ca, rfl, hca⟩ := ha
  obtain ⟨b, cb, rfl, hcb⟩ := hb
  by_cases h0 : xs = []
  · subst h0
    simp only [List.length_nil]
    clear hca hcb
    go_enter Tryd.func30, Tryd.ntmps30
    go_wp2
    refine wp_loop_rounds 1 ?_
    rw [rounds_succ]
    go_wp2
    go_ret
    exact ⟨rfl, 0, rfl⟩
  · obtain ⟨b1, o1, rfl, _, hc1⟩ := hca h0
    obtain ⟨b2, o2, rfl, _, hc2⟩ := hcb h0
    have HC1 := Lib.hid hc1
    have HC2 := Lib.hid hc2
    clear hca hcb hc1 hc2 h0
    obtain ⟨L, hL⟩ : ∃ L, L = xs.length := ⟨_, rfl⟩
    rw [← hL] at hn ⊢
    have HL := Lib.hid hL
    clear hL
    go_enter Tryd.func30, Tryd.ntmps30
    go_wp2
    go_loopw [5] (fun i wr => ∃ k m : Nat, k ≤ L ∧ i = .int .i64 k ∧ wr = w.drewN m) (fun i _ => L - (intOf i).toNat)
    case atStart => exact ⟨0, 0, Nat.zero_le _, rfl, rfl⟩
    case round =>
      obtain ⟨k, m, hk, rfl, rfl⟩ := hrel
      by_cases hlt : k < L
      · have g1 := HC1.out k (by rw [← HL.out]; exact hlt)
        have g2 := HC2.out k (by rw [← HL.out]; exact hlt)
        generalize xs.getD k ⟨#[]⟩ = x at g1 g2
        go_wp2
        go_quiet (fail)
        go_wp2
        go_roundw
        case rel => exact ⟨k + 1, _, by omega, by go_num, by first | rfl | exact World.drewN_drewN ..⟩
        case measure => simp [intOf]; omega
      · go_wp2
        go_ret
        exact ⟨rfl, m, rfl⟩

/-- n marks from number k on. -/
def marks (k n : Nat) : List ByteArray := (List.range n).map fun i => markT (k + i)
theorem marks_length (k n : Nat) : (marks k n).length = n := by simp [marks]
theorem marks_getD (k n j : Nat) (h : j < n) : (marks k n).getD j ⟨#[]⟩ = markT (k + j) := by
  simp [marks, List.getD, h]
theorem marks_succ (k n : Nat) : marks k (n + 1) = marks k n ++ [markT (k + n)] := by simp [marks, List.range_succ]
theorem grow_below {w a b : World} {row : Option Nat} (h : w.grownBy a row) (hb : Below a.heap.size a b) : w.grownBy b row :=
  ⟨hb.os.trans h.os, hb.tape.trans h.tape, hb.output.trans h.output, Nat.le_trans h.size hb.size, fun k hk hne => (hb.block k (Nat.lt_of_lt_of_le hk h.size)).trans (h.block k hk hne)⟩
theorem grow_trans {w a b : World} {row : Option Nat} (h : w.grownBy a row) (hb : a.grownBy b row) : w.grownBy b row :=
  ⟨hb.os.trans h.os, hb.tape.trans h.tape, hb.output.trans h.output, Nat.le_trans h.size hb.size, fun k hk hne => (hb.block k (Nat.lt_of_lt_of_le hk h.size) hne).trans (h.block k hk hne)⟩
theorem own_below {w w' : World} {base : Nat} {e : TypeId} {size : Nat} {v : Value} {n : Nat} {xs : List Value} (h : w.ownsRow base e size v n xs) (hb : Below w.heap.size w w') : w'.ownsRow base e size v n xs := by
  refine ⟨h.1, ?_⟩
  rcases h.2 with hn | ⟨g, cap, cur, rfl, hbb, hg, rest⟩
  · exact .inl hn
  · exact .inr ⟨g, cap, cur, rfl, hbb, (hb.block g (Array.getElem?_eq_some_iff.1 hg).1).trans hg, rest⟩
theorem set_mark (k i : Nat) (xs : List ByteArray) (h : i < xs.length) : ((marks k i ++ xs.drop i).map Value.string).set i (.string (markT (k + i))) = (marks k (i + 1) ++ xs.drop (i + 1)).map Value.string := by
  rw [← List.map_set, List.set_append_right _ _ (by simp [marks_length]), marks_length, Nat.sub_self, marks_succ, List.drop_eq_getElem_cons h]
  simp only [List.map_cons, List.set_cons_zero, List.map_append, List.append_assoc, List.singleton_append]

theorem below_of_drew {w wr w1 : World} (hb : Below wr.drew.heap.size wr.drew w1) (hsz : w.heap.size ≤ wr.heap.size) : Below w.heap.size wr w1 :=
  ⟨hb.os, hb.tape, hb.output, hb.size, fun k hk => hb.block k (Nat.lt_of_lt_of_le hk hsz)⟩

end Go.Proofs.YtmljjdglmlnbaaaDoor.Strs
