/- A part. -/
import Derived.Test.YthppbcnejapbiaaGreatDoorKit
import Derived.BigQuiet
import Derived.Deep.QuietTactic
import Derived.Deep.RegionHeld3
namespace Go.Proofs.YthppbcnejapbiaaGreatDoor.Strs
set_option maxHeartbeats 400000
set_option maxRecDepth 100000
open Go.ChangeShapes Go.WideShapes Go.ChangeAt Go.RowKit
set_option linter.unusedVariables false
theorem ret_str {a b : ByteArray} (h : a = b) : Ending.returned (.string a) = .returned (.string b) := by rw [h]
def digOne (k : Nat) : ByteArray := ⟨#[UInt8.ofNat (48 + k % 10)]⟩
theorem digOne_size (k : Nat) (o : ByteArray) : (digOne k ++ o).size = o.size + 1 /\ (digOne k).size <= 1 := by
 have : (digOne k).size = 1 := rfl
 rw [ByteArray.size_append, this]; omega
def mtext (k : Nat) (o : ByteArray) : ByteArray :=
 if h : k = 0 then o else mtext (k / 10) (digOne k ++ o)
termination_by k
decreasing_by omega
def markT (k : Nat) : ByteArray := ⟨#[109]⟩ ++ mtext k ⟨#[]⟩
theorem mtext_zero (o : ByteArray) : mtext 0 o = o := by rw [mtext]; simp
theorem mtext_step (k : Nat) (o : ByteArray) (h : k ≠ 0) : mtext k o = mtext (k / 10) (digOne k ++ o) := by
 rw [mtext]; simp [h]
theorem conv_one (w : World) (b : Nat) (n : Int) (hc : w.cell? ⟨b, 0, none⟩ = some (.int .u8 n)) :
  Sem.run Tryz.prog (convert 118 9 (.slice (some ⟨b, 0, none⟩) 1 1)) w = .ok (.string ⟨#[UInt8.ofNat n.toNat]⟩) w := by
 rw [run_convert_bytes_string w 118 9 5 _ 1 1 Tryz.underlying118 Tryz.underlying5 Tryz.underlying9,
  run_bytesToString w ⟨b, 0, none⟩ 1 1 [n] (by simp [loadCells, loadCellsFrom, go_sem, hc])]
 rfl
theorem mark_any (k0 : Nat) (w : World) (h1 : 1 <= k0) (h2 : k0 <= 1073741824) :
  Calls Tryz.prog 60 #[.int .i64 k0] w fun e w' => e = .returned (.string (markT k0)) /\ Below w.heap.size w w' := by
 have hk0 : ¬ k0 = 0 := by omega
 go_enter Tryz.func60, Tryz.ntmps60
 go_wp2
 go_loopw [0, 3] (fun kv ov wr => ∃ (k : Nat) (o : ByteArray), kv = .int .i64 k /\ ov = .string o /\ k + o.size <= k0 /\ mtext k o = mtext k0 ⟨#[]⟩ /\ Below w.heap.size w wr /\ w.heap.size <= wr.heap.size) (fun kv _ _ => (intOf kv).toNat)
 case atStart => exact ⟨k0, ⟨#[]⟩, rfl, rfl, Nat.le_refl _, rfl, Below.refl _ _, Nat.le_refl _⟩
 case round =>
  obtain ⟨k, o, rfl, rfl, hko, hm, hbel, hsz⟩ := hrel
  have HM := Lib.hid hm
  have HB := Lib.hid hbel
  clear hm hbel
  by_cases hk : 0 < k
  ·have hone := digOne_size k o
   have HO := Lib.hid hone
   clear hone
   have hconv : Sem.run Tryz.prog (convert 118 9 (.slice (some ⟨wr.heap.size, 0, none⟩) 1 1)) (wr.alloc (.cells #[.int .u8 (48 + (k : Int) % 10)] 5)) = .ok (.string (digOne k)) (wr.alloc (.cells #[.int .u8 (48 + (k : Int) % 10)] 5)) := by
    rw [conv_one _ _ (48 + (k : Int) % 10) (cell_one_new _ _ _ 0 _ rfl)]
    rw [show (48 + (k : Int) % 10).toNat = 48 + k % 10 from by omega]; rfl
   have h1z := HO.out.2
   go_wp2
   go_roundw
   case rel => exact ⟨k / 10, digOne k ++ o, by go_num, rfl, by rw [HO.out.1]; omega, by rw [<- HM.out, mtext_step k o (by omega)], HB.out.alloc hsz _, by simp; omega⟩
   case measure => simp [intOf]; omega
  ·obtain rfl : k = 0 := by omega
   have h1z : (⟨#[109]⟩ : ByteArray).size <= 1 := Nat.le_refl _
   go_wp2
   go_ret
   have e := HM.out
   rw [mtext_zero] at e
   exact ⟨ret_str (by rw [markT, <- e]), HB.out⟩
def Holds (w : World) (v : Value) (xs : List ByteArray) : Prop :=
 ∃ (a : Option Addr) (cap : Nat), v = .slice a xs.length cap /\ (xs ≠ [] -> ∃ b o, a = some ⟨b, o, none⟩ /\ b < w.heap.size /\ ∀ j, j < xs.length -> w.cell? ⟨b, o + j, none⟩ = some (.string (xs.getD j ⟨#[]⟩)))
theorem holds_of_own {w : World} {base : Nat} {e : TypeId} {v : Value} {n : Nat} {xs : List ByteArray} (h : w.ownsRow base e 1 v n (xs.map Value.string)) : Holds w v xs := by
 have hl := h.1
 simp at hl
 rcases h.2 with ⟨rfl, h0⟩ | ⟨g, cap, cur, rfl, hb, hg, hn, _, _, htake⟩
 ·have : xs = [] := by cases xs with | nil => rfl | cons a l => simp at hl; omega
  subst this
  exact ⟨none, 0, rfl, fun hh => absurd rfl hh⟩
 ·refine ⟨some ⟨g, 0, none⟩, cap, by rw [hl], fun _ => ⟨g, 0, rfl, (Array.getElem?_eq_some_iff.1 hg).1, fun j hj => ?_⟩⟩
  rw [Nat.zero_add, h.cellAt j (by omega)]
  simp [List.getD, List.getElem?_eq_getElem hj]
theorem holds_below {w w' : World} {B : Nat} {v : Value} {xs : List ByteArray} (h : Holds w v xs) (hb : Below w.heap.size w w') : Holds w' v xs := by
 obtain ⟨a, cap, rfl, hc⟩ := h
 refine ⟨a, cap, rfl, fun hh => ?_⟩
 obtain ⟨b, o, rfl, hlt, hcell⟩ := hc hh
 exact ⟨b, o, rfl, Nat.lt_of_lt_of_le hlt hb.size, fun j hj => by rw [hb.cell (p := ⟨b, o + j, none⟩) hlt]; exact hcell j hj⟩
theorem eq_any (w : World) (va vb : Value) (xs : List ByteArray) (hn : xs.length <= 1073741824) (ha : Holds w va xs) (hb : Holds w vb xs) :
  Calls Tryz.prog 53 #[va, vb] w fun e w' => e = .returned (.bool true) /\ ∃ m, w' = w.drewN m := by
 obtain ⟨a, ca, rfl, hca⟩ := ha
 obtain ⟨b, cb, rfl, hcb⟩ := hb
 by_cases h0 : xs = []
 ·subst h0
  simp only [List.length_nil]
  clear hca hcb
  go_enter Tryz.func53, Tryz.ntmps53
  go_wp2
  refine wp_loop_rounds 1 ?_
  rw [rounds_succ]
  go_wp2
  go_ret
  exact ⟨rfl, 0, rfl⟩
 ·obtain ⟨b1, o1, rfl, _, hc1⟩ := hca h0
  obtain ⟨b2, o2, rfl, _, hc2⟩ := hcb h0
  have HC1 := Lib.hid hc1
  have HC2 := Lib.hid hc2
  clear hca hcb hc1 hc2 h0
  obtain ⟨L, hL⟩ : ∃ L, L = xs.length := ⟨_, rfl⟩
  rw [<- hL] at hn ⊢
  have HL := Lib.hid hL
  clear hL
  go_enter Tryz.func53, Tryz.ntmps53
  go_wp2
  go_loopw [5] (fun i wr => ∃ k m : Nat, k <= L /\ i = .int .i64 k /\ wr = w.drewN m) (fun i _ => L - (intOf i).toNat)
  case atStart => exact ⟨0, 0, Nat.zero_le _, rfl, rfl⟩
  case round =>
   obtain ⟨k, m, hk, rfl, rfl⟩ := hrel
   by_cases hlt : k < L
   ·have g1 := HC1.out k (by rw [<- HL.out]; exact hlt)
    have g2 := HC2.out k (by rw [<- HL.out]; exact hlt)
    generalize xs.getD k ⟨#[]⟩ = x at g1 g2
    go_wp2
    go_quiet (fail)
    go_wp2
    go_roundw
    case rel => exact ⟨k + 1, _, by omega, by go_num, by first | rfl | exact World.drewN_drewN ..⟩
    case measure => simp [intOf]; omega
   ·go_wp2
    go_ret
    exact ⟨rfl, m, rfl⟩
def marks (k n : Nat) : List ByteArray := (List.range n).map fun i => markT (k + i)
theorem marks_length (k n : Nat) : (marks k n).length = n := by simp [marks]
theorem marks_getD (k n j : Nat) (h : j < n) : (marks k n).getD j ⟨#[]⟩ = markT (k + j) := by
 simp [marks, List.getD, h]
theorem marks_succ (k n : Nat) : marks k (n + 1) = marks k n ++ [markT (k + n)] := by simp [marks, List.range_succ]
theorem grow_below {w a b : World} {row : Option Nat} (h : w.grownBy a row) (hb : Below a.heap.size a b) : w.grownBy b row :=
 ⟨hb.os.trans h.os, hb.tape.trans h.tape, hb.output.trans h.output, Nat.le_trans h.size hb.size, fun k hk hne => (hb.block k (Nat.lt_of_lt_of_le hk h.size)).trans (h.block k hk hne)⟩
theorem grow_trans {w a b : World} {row : Option Nat} (h : w.grownBy a row) (hb : a.grownBy b row) : w.grownBy b row :=
 ⟨hb.os.trans h.os, hb.tape.trans h.tape, hb.output.trans h.output, Nat.le_trans h.size hb.size, fun k hk hne => (hb.block k (Nat.lt_of_lt_of_le hk h.size) hne).trans (h.block k hk hne)⟩
theorem own_below {w w' : World} {base : Nat} {e : TypeId} {size : Nat} {v : Value} {n : Nat} {xs : List Value} (h : w.ownsRow base e size v n xs) (hb : Below w.heap.size w w') : w'.ownsRow base e size v n xs := by
 refine ⟨h.1, ?_⟩
 rcases h.2 with hn | ⟨g, cap, cur, rfl, hbb, hg, rest⟩
 ·exact .inl hn
 ·exact .inr ⟨g, cap, cur, rfl, hbb, (hb.block g (Array.getElem?_eq_some_iff.1 hg).1).trans hg, rest⟩
theorem set_mark (k i : Nat) (xs : List ByteArray) (h : i < xs.length) : ((marks k i ++ xs.drop i).map Value.string).set i (.string (markT (k + i))) = (marks k (i + 1) ++ xs.drop (i + 1)).map Value.string := by
 rw [<- List.map_set, List.set_append_right _ _ (by simp [marks_length]), marks_length, Nat.sub_self, marks_succ, List.drop_eq_getElem_cons h]
 simp only [List.map_cons, List.set_cons_zero, List.map_append, List.append_assoc, List.singleton_append]
theorem mark_all (w : World) (base : Nat) (v : Value) (n k : Nat) (xs : List ByteArray) (hk : 1 <= k) (hn : k + n <= 1073741824) (hown : w.ownsRow base 9 1 v n (xs.map Value.string)) :
  Calls Tryz.prog 59 #[v, .int .i64 k] w fun e w' => e = .returned (.int .i64 ((k : Int) + n)) /\ w'.ownsRow base 9 1 v n ((marks k n).map Value.string) /\ w.grownBy w' v.ownBlock := by
 have hl := hown.1
 simp at hl
 by_cases h0 : n = 0
 ·subst h0
  obtain rfl : xs = [] := by cases xs with | nil => rfl | cons a l => simp at hl
  obtain ⟨a, cap, rfl⟩ : ∃ a cap, v = .slice a 0 cap := by
   rcases hown.2 with ⟨rfl, _⟩ | ⟨g, cap, cur, rfl, _⟩
   ·exact ⟨_, _, rfl⟩
   ·exact ⟨_, _, rfl⟩
  have HO := Lib.hid hown
  clear hown hl
  go_enter Tryz.func59, Tryz.ntmps59
  go_wp2
  refine wp_loop_rounds 1 ?_
  rw [rounds_succ]
  go_wp2
  go_ret
  exact ⟨by simp, HO.out, World.grownBy.refl _ _⟩
 ·obtain ⟨g, cap, rfl, hbg⟩ : ∃ g cap, v = .slice (some ⟨g, 0, none⟩) n cap /\ g < w.heap.size := by
   rcases hown.2 with ⟨_, hz⟩ | ⟨g, cap, cur, rfl, _, hg, _⟩
   ·exact absurd hz h0
   ·exact ⟨g, cap, rfl, (Array.getElem?_eq_some_iff.1 hg).1⟩
  have HO := Lib.hid hown
  have HX := Lib.hid hl
  clear hown hl h0
  go_enter Tryz.func59, Tryz.ntmps59
  go_wp2
  go_loopw [1, 5] (fun kv iv wr => ∃ i : Nat, i <= n /\ iv = .int .i64 i /\ kv = .int .i64 ((k + i : Nat)) /\ wr.ownsRow base 9 1 (.slice (some ⟨g, 0, none⟩) n cap) n ((marks k i ++ xs.drop i).map Value.string) /\ w.grownBy wr (some g)) (fun _ iv _ => n - (intOf iv).toNat)
  case atStart => exact ⟨0, Nat.zero_le _, rfl, rfl, by simpa [marks] using HO.out, World.grownBy.refl _ _⟩
  case round =>
   obtain ⟨i, hi, rfl, rfl, hown, hgr⟩ := hrel
   have HOWN := Lib.hid hown
   have HGR := Lib.hid hgr
   clear hown hgr
   by_cases hlt : i < n
   ·have hx : i < xs.length := by rw [HX.out]; exact hlt
    go_wp2_with fail
    rw [show ((k : Int) + (i : Int)) = ((k + i : Nat) : Int) from by omega]
    refine (mark_any (k + i) _ (by omega) (by omega)).mono ?_
    rintro e w1 ⟨rfl, hb1⟩
    have hown1 := own_below HOWN.out hb1
    have hgr1 := grow_below HGR.out hb1
    have hc := hown1.cellAt i (by omega)
    have hf := hown1.frozenAt i
    have hst := hown1.stored i (.string (markT (k + i)))
    rw [set_mark k i xs hx] at hst
    have HST := Lib.hid hst.1
    have HGR1 := Lib.hid (grow_trans hgr1 hst.2)
    obtain ⟨x, hc'⟩ : ∃ x, w1.cell? ⟨g, i, none⟩ = some x := by
     rw [hc]
     have : i < ((marks k i ++ xs.drop i).map Value.string).length := by
      simp [marks_length]; omega
     exact ⟨_, List.getElem?_eq_getElem this⟩
    clear hown1 hgr1 hc hst hb1
    generalize markT (k + i) = M at HST HGR1 ⊢
    go_wp2
    go_roundw
    case rel => exact ⟨i + 1, by omega, by go_num, by go_num, HST.out, HGR1.out⟩
    case measure => simp [intOf]; omega
   ·obtain rfl : i = n := by omega
    have e : ((marks k i ++ xs.drop i).map Value.string) = (marks k i).map Value.string := by rw [List.drop_of_length_le (by rw [HX.out]; exact Nat.le_refl _), List.append_nil]
    have HE := Lib.hid e
    clear e
    go_wp2
    go_ret
    exact ⟨by simp, by rw [<- HE.out]; exact HOWN.out, HGR.out⟩
theorem below_of_drew {w wr w1 : World} (hb : Below wr.drew.heap.size wr.drew w1) (hsz : w.heap.size <= wr.heap.size) : Below w.heap.size wr w1 :=
 ⟨hb.os, hb.tape, hb.output, hb.size, fun k hk => hb.block k (Nat.lt_of_lt_of_le hk hsz)⟩
theorem held_all (w : World) (v : Value) (n k : Nat) (hk : 1 <= k) (hn : k + n <= 1073741824) (h : Holds w v (marks k n)) :
  Calls Tryz.prog 69 #[v, .int .i64 k] w fun e w' => e = .returned (.int .i64 ((k : Int) + n)) /\ Below w.heap.size w w' := by
 obtain ⟨a, cap, rfl, hc⟩ := h
 rw [marks_length]
 by_cases h0 : n = 0
 ·subst h0
  clear hc
  go_enter Tryz.func69, Tryz.ntmps69
  go_wp2
  refine wp_loop_rounds 1 ?_
  rw [rounds_succ]
  go_wp2
  go_ret
  exact ⟨by simp, Below.refl _ _⟩
 ·obtain ⟨b, o, rfl, hlt, hcell⟩ := hc (by intro e; have := marks_length k n; rw [e] at this; simp at this; omega)
  rw [marks_length] at hcell
  have HC := Lib.hid hcell
  clear hc hcell
  go_enter Tryz.func69, Tryz.ntmps69
  go_wp2
  go_loopw [1, 5] (fun kv iv wr => ∃ i : Nat, i <= n /\ iv = .int .i64 i /\ kv = .int .i64 ((k + i : Nat)) /\ Below w.heap.size w wr) (fun _ iv _ => n - (intOf iv).toNat)
  case atStart => exact ⟨0, Nat.zero_le _, rfl, rfl, Below.refl _ _⟩
  case round =>
   obtain ⟨i, hi, rfl, rfl, hbel⟩ := hrel
   have HBEL := Lib.hid hbel
   have hsz := hbel.size
   clear hbel
   by_cases hil : i < n
   ·have g1 : wr.cell? ⟨b, o + i, none⟩ = some (.string (markT (k + i))) := by
     rw [HBEL.out.cell (p := ⟨b, o + i, none⟩) hlt, HC.out i hil, marks_getD k n i hil]
    generalize hM : markT (k + i) = M at g1
    have HM := Lib.hid hM
    clear hM
    go_wp2
    go_region_held3 (fun w' => w'.cell? ⟨b, o + i, none⟩ = some (.string M)) (go_keep)
     (first | (go_at_call 60; refine (mark_any (k + i) _ (by omega) (by omega)).mono ?_; rintro e w1 ⟨rfl, hb1⟩; rw [HM.out]; have g2 : w1.cell? ⟨b, o + i, none⟩ = some (.string M) := by (rw [hb1.cell (p := ⟨b, o + i, none⟩) (by simp; omega)]; simpa using g1)))
    go_wp2
    go_roundw
    case rel => exact ⟨i + 1, by omega, by go_num, by go_num, HBEL.out.trans (below_of_drew hb1 hsz)⟩
    case measure => simp [intOf]; omega
   ·obtain rfl : i = n := by omega
    go_wp2
    go_ret
    exact ⟨by simp, HBEL.out⟩
end Go.Proofs.YthppbcnejapbiaaGreatDoor.Strs
