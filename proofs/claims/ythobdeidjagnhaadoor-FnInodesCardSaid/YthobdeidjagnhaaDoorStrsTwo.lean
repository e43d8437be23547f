/- Contracts and plain facts that a law of this seat leans on. Conditions: as each theorem types them. -/
import Derived.Test.YthobdeidjagnhaaDoorStrs
namespace Go.Proofs.YthobdeidjagnhaaDoor.Strs
open Go.ChangeShapes Go.WideShapes Go.ChangeAt Go.RowKit
set_option linter.unusedVariables false

def total (xs : List ByteArray) : Nat := (xs.map ByteArray.size).sum
theorem total_take_succ (xs : List ByteArray) (k : Nat) (h : k < xs.length) : total (xs.take (k + 1)) = total (xs.take k) + (xs.getD k ⟨#[]⟩).size := by
  unfold total
  rw [List.take_succ_eq_append_getElem h, List.map_append, List.sum_append]
  simp [List.getD, List.getElem?_eq_getElem h]
theorem total_take_le (xs : List ByteArray) : ∀ k, total (xs.take k) ≤ total xs := by
  intro k
  have : total xs = total (xs.take k) + total (xs.drop k) := by
    unfold total
    rw [← List.sum_append, ← List.map_append, List.take_append_drop]
  omega
/-- What is left of a budget behind xs; -1 if it does not suffice. -/
def budgetOf (xs : List ByteArray) (left : Nat) : Int := if xs.length + total xs ≤ left then ((left - xs.length - total xs : Nat) : Int) else -1
theorem ret_int {k : IntKind} {a b : Int} (h : a = b) : Ending.returned (.int k a) = .returned (.int k b) := by rw [h]

theorem strInfo : (Tryd.prog.info? 9).map (fun i => (i.zero, i.size, i.bytes)) = some (some (.string ⟨#[]⟩), 1, 16) := by kernel_rfl
theorem cellsT : Tryd.prog.cellsOf 9 = 1 := by kernel_rfl
theorem take_set_succ (l : List Value) (i : Nat) (u : Value) (h : i < l.length) : (l.set i u).take (i + 1) = l.take i ++ [u] := by
  rw [List.take_succ_eq_append_getElem (by simpa using h), List.take_set_of_le (Nat.le_refl _)]
  simp

end Go.Proofs.YthobdeidjagnhaaDoor.Strs
