/- Contracts and plain facts that a law of this seat leans on. Conditions: as each theorem types them. -/
import Derived.Test.YthppbcnejapbiaaWr
namespace Go.Proofs.Ythppbcnejapbiaa.Wr
open Go.ChangeShapes Go.WideShapes Go.ChangeAt Go.RowKit
open Strs (own_below ret_int budgetOf total total_take_succ total_take_le take_set_succ)
set_option linter.unusedVariables false

/-- The data of the writes. -/
def datas (ws : List Wt) : List ByteArray := ws.map (·.2)
theorem datas_length (ws : List Wt) : (datas ws).length = ws.length := by simp [datas]
theorem datas_getD (ws : List Wt) (k : Nat) (h : k < ws.length) : (datas ws).getD k ⟨#[]⟩ = (ws.getD k d0).2 := by
  simp [datas, List.getD, List.getElem?_eq_getElem h]

theorem wcells_take (ws : List Wt) (k : Nat) : wcells (ws.take k) = (wcells ws).take (k * 2) := by
  induction ws generalizing k with
  | nil => simp [wcells]
  | cons a l ih =>
    cases k with
    | zero => simp [wcells]
    | succ k =>
      rw [List.take_succ_cons, show wcells (a :: l.take k) = wcell a ++ wcells (l.take k) from rfl, ih, show wcells (a :: l) = wcell a ++ wcells l from rfl, show (k + 1) * 2 = k * 2 + 1 + 1 from by omega]
      simp [wcell]
theorem take_set2 (l : List Value) (i : Nat) (u v : Value) (h : i * 2 + 1 < l.length) : ((l.set (i * 2) u).set (i * 2 + 1) v).take ((i + 1) * 2) = l.take (i * 2) ++ [u, v] := by
  rw [show (i + 1) * 2 = i * 2 + 1 + 1 from by omega, List.take_succ_eq_append_getElem (by simpa using h), List.take_set_of_le (Nat.le_refl _), List.take_succ_eq_append_getElem (by simp; omega), List.take_set_of_le (Nat.le_refl _)]
  simp

end Go.Proofs.Ythppbcnejapbiaa.Wr
