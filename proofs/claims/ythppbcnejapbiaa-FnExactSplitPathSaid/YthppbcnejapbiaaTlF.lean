/- The face of a slice of strings that may begin behind the first element of a row of the call's own: what it owns, its marks. Conditions: as each theorem types them. -/
import Derived.Test.YthppbcnejapbiaaSF
namespace Go.Proofs.Ythppbcnejapbiaa.TlF
open Go.ChangeShapes Go.WideShapes Go.ChangeAt Go.RowKit Go.Deep
open Foot
open Strs (total budgetOf markT mark_any grow_trans grow_below set_mark)
set_option linter.unusedVariables false

abbrev L := SF.L
/-- All but the first of a row. -/
def Tail (w : World) (base : Nat) (v : Value) (l : L) : Prop := ∃ g cap x, v = .slice (some ⟨g, 1, none⟩) l.length cap ∧ w.ownsRow base 9 1 (.slice (some ⟨g, 0, none⟩) (l.length + 1) (cap + 1)) (l.length + 1) (x :: SF.cells l)
def Own (w : World) (base : Nat) (v : Value) (l : L) (S : List Nat) : Prop := SF.Own w base v l S ∨ (Tail w base v l ∧ S = fpR v)
section
variable {w w' : World} {base : Nat} {v : Value} {l : L} {S T : List Nat}
theorem tail_holds (h : Tail w base v l) : SF.Holds w v l := by
  obtain ⟨g, cap, x, rfl, hown⟩ := h
  refine ⟨some ⟨g, 1, none⟩, cap, rfl, fun _ => ⟨g, 1, rfl, ?_, fun j hj => ?_⟩⟩
  · exact (hown.lt g rfl).2
  · rw [hown.cellAt (1 + j) (by omega), Nat.add_comm 1 j, List.getElem?_cons_succ]
    simp [SF.cells, List.getD, List.getElem?_eq_getElem hj]
theorem own_holds (h : Own w base v l S) : SF.Holds w v l := h.elim SF.own_holds (fun h => tail_holds h.1)
theorem own_chg (h : Own w base v l S) (hc : Chg w w' T) (ha : Apart S T) : Own w' base v l S := by
  rcases h with h | ⟨⟨g, cap, x, rfl, hown⟩, hs⟩
  · exact .inl (SF.own_chg h hc ha)
  · refine .inr ⟨⟨g, cap, x, rfl, row_chg hown hc ?_⟩, hs⟩
    rw [hs] at ha
    exact ha
theorem own_below (h : Own w base v l S) (hb : Below w.heap.size w w') : Own w' base v l S := own_chg h (Chg.of_below hb (Nat.le_refl _) []) (fun k _ hh => by cases hh)
theorem own_mono {base' : Nat} (h : Own w base v l S) (hb : base' ≤ base) : Own w base' v l S := by
  rcases h with h | ⟨⟨g, cap, x, rfl, hown⟩, hs⟩
  · exact .inl (SF.own_mono h hb)
  · exact .inr ⟨⟨g, cap, x, rfl, row_mono hown hb⟩, hs⟩
theorem own_lies (h : Own w base v l S) : Lies S base w.heap.size := by
  rcases h with h | ⟨⟨g, cap, x, rfl, hown⟩, rfl⟩
  · exact SF.own_lies h
  · exact row_lies (v := .slice (some ⟨g, 0, none⟩) (l.length + 1) (cap + 1)) hown
theorem own_form (h : Own w base v l S) : ∃ a c, v = .slice a l.length c := by
  rcases h with h | ⟨⟨g, cap, x, rfl, hown⟩, rfl⟩
  · exact SF.own_form h
  · exact ⟨_, _, rfl⟩
end
def cost (l : L) : Nat := SF.cost l
def wid (l : L) : Nat := SF.wid l
def marks (k : Nat) (l : L) : L := SF.marks k l
theorem eq_any (w : World) (va vb : Value) (l : L) (hc : cost l ≤ 1073741824) (h : SF.Holds w va l) (h' : SF.Holds w vb l) :
    Calls Try.prog 7 #[va, vb] w fun e w' => e = .returned (.bool true) ∧ Below w.heap.size w w' := SF.eq_any w va vb l hc h h'
theorem held_any (w : World) (v : Value) (l : L) (k : Nat) (hk : 1 ≤ k) (hn : k + wid l ≤ 1073741824) (h : SF.Holds w v (marks k l)) :
    Calls Try.prog 9 #[v, .int .i64 k] w fun e w' => e = .returned (.int .i64 (k + wid l : Nat)) ∧ Below w.heap.size w w' := SF.held_any w v l k hk hn h
theorem set_tail (k i : Nat) (x : Value) (xs : List ByteArray) (h : i < xs.length) : (x :: (Strs.marks k i ++ xs.drop i).map Value.string).set (i + 1) (.string (markT (k + i))) = x :: (Strs.marks k (i + 1) ++ xs.drop (i + 1)).map Value.string := by
  rw [List.set_cons_succ, set_mark k i xs h]

set_option maxRecDepth 100000 in
set_option maxHeartbeats 400000 in
/-- The rest of a row is marked. -/
theorem mark_tail (w : World) (base g n cap k : Nat) (x : Value) (xs : List ByteArray) (hk : 1 ≤ k) (hn : k + n ≤ 1073741824) (hlen : xs.length = n) (hown : w.ownsRow base 9 1 (.slice (some ⟨g, 0, none⟩) (n + 1) (cap + 1)) (n + 1) (x :: xs.map Value.string)) :
    Calls Try.prog 8 #[.slice (some ⟨g, 1, none⟩) n cap, .int .i64 k] w fun e w' => e = .returned (.int .i64 ((k : Int) + n)) ∧ w'.ownsRow base 9 1 (.slice (some ⟨g, 0, none⟩) (n + 1) (cap + 1)) (n + 1) (x :: (Strs.marks k n).map Value.string) ∧ w.grownBy w' (some g) := by
  have hbg : g < w.heap.size := (hown.lt g rfl).2
  have HO := Lib.hid hown
  have HX := Lib.hid hlen
  clear hown hlen
  go_enter Try.func8, Try.ntmps8
  go_wp2
  go_loopw [1, 5] (fun kv iv wr => ∃ i : Nat, i ≤ n ∧ iv = .int .i64 i ∧ kv = .int .i64 ((k + i : Nat)) ∧ wr.ownsRow base 9 1 (.slice (some ⟨g, 0, none⟩) (n + 1) (cap + 1)) (n + 1) (x :: (Strs.marks k i ++ xs.drop i).map Value.string) ∧ w.grownBy wr (some g)) (fun _ iv _ => n - (intOf iv).toNat)
  case atStart => exact ⟨0, Nat.zero_le _, rfl, rfl, by simpa [Strs.marks] using HO.out, World.grownBy.refl _ _⟩
  case round =>
    obtain ⟨i, hi, rfl, rfl, hown, hgr⟩ := hrel
    have HOWN := Lib.hid hown
    have HGR := Lib.hid hgr
    clear hown hgr
    by_cases hlt : i < n
    · have hx : i < xs.length := by rw [HX.out]; exact hlt
      go_wp2_with fail
      rw [show ((k : Int) + (i : Int)) = ((k + i : Nat) : Int) from by omega]
      refine (mark_any (k + i) _ (by omega) (by omega)).mono ?_
      rintro e w1 ⟨rfl, hb1⟩
      have hown1 := Strs.own_below HOWN.out hb1
      have hgr1 := grow_below HGR.out hb1
      have hc := hown1.cellAt (1 + i) (by omega)
      have hf := hown1.frozenAt (1 + i)
      have hst := hown1.stored (i + 1) (.string (markT (k + i)))
      rw [set_tail k i x xs hx, show (⟨g, i + 1, none⟩ : Addr) = ⟨g, 1 + i, none⟩ from by rw [Nat.add_comm]] at hst
      have HST := Lib.hid hst.1
      have HGR1 := Lib.hid (grow_trans hgr1 hst.2)
      obtain ⟨y, hc'⟩ : ∃ y, w1.cell? ⟨g, 1 + i, none⟩ = some y := by
        rw [hc]
        have : 1 + i < (x :: (Strs.marks k i ++ xs.drop i).map Value.string).length := by
          simp [Strs.marks_length]; omega
        exact ⟨_, List.getElem?_eq_getElem this⟩
      clear hown1 hgr1 hc hst hb1
      generalize markT (k + i) = M at HST HGR1 ⊢
      go_wp2
      go_roundw
      case rel => exact ⟨i + 1, by omega, by go_num, by go_num, HST.out, HGR1.out⟩
      case measure => simp [intOf]; omega
    · obtain rfl : i = n := by omega
      have e : ((Strs.marks k i ++ xs.drop i).map Value.string) = (Strs.marks k i).map Value.string := by rw [List.drop_of_length_le (by rw [HX.out]; exact Nat.le_refl _), List.append_nil]
      have HE := Lib.hid e
      clear e
      go_wp2
      go_ret
      exact ⟨by simp, by rw [← HE.out]; exact HOWN.out, HGR.out⟩
theorem mark_any (w : World) (base : Nat) (v : Value) (l : L) (S : List Nat) (k : Nat) (hk : 1 ≤ k) (hn : k + wid l ≤ 1073741824) (h : Own w base v l S) :
    Calls Try.prog 8 #[v, .int .i64 k] w fun e w' => e = .returned (.int .i64 (k + wid l : Nat)) ∧ Own w' base v (marks k l) S ∧ Chg w w' S := by
  rcases h with h | ⟨⟨g, cap, x, rfl, hown⟩, rfl⟩
  · exact (SF.mark_any w base v l S k hk hn h).mono fun e w' ⟨he, ho, hc⟩ => ⟨he, .inl ho, hc⟩
  · refine (mark_tail w base g l.length cap k x l hk hn rfl hown).mono ?_
    rintro e w' ⟨rfl, ho, hg⟩
    refine ⟨by congr 2, .inr ⟨⟨g, cap, x, by rw [marks, SF.marks_length], ?_⟩, rfl⟩, Chg.of_grown hg⟩
    rw [marks, SF.marks_length]
    exact ho
end Go.Proofs.Ythppbcnejapbiaa.TlF
