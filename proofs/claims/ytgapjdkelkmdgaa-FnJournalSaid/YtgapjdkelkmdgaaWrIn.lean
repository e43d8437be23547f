/- What an argument that is a slice of writes offers; marking a row of writes that lies in a range of blocks. Conditions: as each theorem types them. -/
import Derived.Test.YtgapjdkelkmdgaaDkOpen
import Derived.Test.YtgapjdkelkmdgaaOwn
namespace Go.Proofs.Ytgapjdkelkmdgaa.Wr
open Go.ChangeShapes Go.WideShapes Go.ChangeAt Go.RowKit
open Dk (RowIn Turned)
open Strs (own_below budgetOf total)
set_option linter.unusedVariables false

/-- What an argument that is a slice of writes offers. -/
structure LIn (w : World) (v : Value) (l : List Wt) : Prop where
  len : l.length ≤ maxLen
  sz : ∀ y ∈ l, y.2.size ≤ maxLen
  holds : Holds w v l
set_option maxRecDepth 100000 in
theorem list_of {H : Type} {enc : TypeId × Value → H} {W : World} {b0 : Nat} {v : Value} {x : DataW H} {p : List MemPlace} (hv : Value.okWide Try.prog W .any b0 48 v) (h : DataW.Trod enc Try.prog W 0 (fun _ => true) true 48 v x p) :
    ∃ l : List Wt, LIn W v l := by
  obtain ⟨a0, l0, c0, rfl⟩ := okWide_slice Try.underlying48 hv
  obtain ⟨fuel, hf⟩ := h
  obtain ⟨ws, q1, q2, q3⟩ := Dk.wrs_of hf
  exact ⟨ws, q1, q2, q3⟩
/-- What reading the list costs. -/
def lcost (l : List Wt) : Nat := l.length + total (datas l)
theorem budget_pos {l : List Wt} {r : Nat} (h : lcost l ≤ r) : budgetOf (datas l) r = ((r - lcost l : Nat) : Int) := by
  unfold lcost at h
  rw [budgetOf, if_pos (by rw [datas_length]; exact h), datas_length, lcost, Nat.sub_sub]
theorem budget_neg {l : List Wt} {r : Nat} (h : ¬ lcost l ≤ r) : budgetOf (datas l) r = -1 := by
  unfold lcost at h
  rw [budgetOf, if_neg (by rw [datas_length]; exact h)]

theorem mark_in (w : World) (lo hi : Nat) (v : Value) (xs : List Wt) (k : Nat) (hk : 1 ≤ k) (hn : k + 2 * xs.length ≤ 1073741824) (hhi : hi ≤ w.heap.size) (h : RowIn w lo hi 39 2 v xs.length (wcells xs)) :
    Calls Try.prog 36 #[v, .int .i64 k] w fun e w' => e = .returned (.int .i64 (k + 2 * xs.length : Nat)) ∧ RowIn w' lo hi 39 2 v (marks k xs.length).length (wcells (marks k xs.length)) ∧ Turned w w' lo hi := by
  refine (mark_all w lo v xs.length k xs hk hn h.1).mono ?_
  rintro e w' ⟨rfl, hown, hg⟩
  refine ⟨by congr 2, ⟨by rw [marks_length]; exact hown, h.2⟩, Turned.of_grown hg (fun q hq => ⟨(h.1.lt q hq).1, h.2 q hq⟩)⟩
theorem held_in (w : World) (v : Value) (n k : Nat) (hk : 1 ≤ k) (hn : k + 2 * n ≤ 1073741824) (h : Holds w v (marks k n)) :
    Calls Try.prog 37 #[v, .int .i64 k] w fun e w' => e = .returned (.int .i64 (k + 2 * n : Nat)) ∧ Below w.heap.size w w' := by
  refine (held_all w v n k hk hn h).mono ?_
  rintro e w' ⟨rfl, hb⟩
  exact ⟨by congr 2, hb⟩
end Go.Proofs.Ytgapjdkelkmdgaa.Wr
