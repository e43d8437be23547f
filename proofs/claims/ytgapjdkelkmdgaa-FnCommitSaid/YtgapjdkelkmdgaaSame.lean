/- Contracts and plain facts that a law of this seat leans on. Conditions: as each theorem types them. -/
import Derived.Test.YtgapjdkelkmdgaaApp
import Derived.Deep.RegionHeld3
import Derived.Lib.SlicesS
import Derived.Laws.StructEq
namespace Go.Proofs.Ytgapjdkelkmdgaa.Same
open Go.ChangeShapes Go.WideShapes Go.ChangeAt Go.RowKit
open Wr (Wt wcells d0)
open Dk (D Holds AtS AtW atS atW ret_bool)
set_option linter.unusedVariables false

theorem ext_getD {α : Type} {d : α} {xs ys : List α} (hl : xs.length = ys.length) (h : ∀ j, j < xs.length → xs.getD j d = ys.getD j d) : xs = ys := by
  refine List.ext_getElem hl fun i h1 h2 => ?_
  have := h i h1
  simpa [List.getD, List.getElem?_eq_getElem h1, List.getElem?_eq_getElem h2] using this
theorem below_draws {w : World} (m : Nat) : Below w.heap.size w (w.drewN m) := Joins.below_draws _ w m

set_option maxRecDepth 100000 in
/-- '!=' at two writes. -/
theorem neq_wr (x y : Wt) (w : World) : Sem.run Try.prog (binOp .neq 39 (.agg #[.int .i64 x.1, .string x.2]) (.agg #[.int .i64 y.1, .string y.2])) w = .ok (.bool (!decide (x = y))) w := by
  have u3 := Try.underlying3
  have u9 := Try.underlying9
  have a3 := Try.isAgg3
  have z3 := Try.sizeOf3
  have a9 := Try.isAgg9
  have z9 := Try.sizeOf9
  have hS : Try.prog.underlying 39 = some (.struct (Try.prog.fieldsOf 39)) := by kernel_rfl
  have hp : Try.prog.stoodInHeld 39 = false := by kernel_rfl
  rw [run_neq_struct, show (10000 : Nat) = 9999 + 1 from rfl, run_equalIn_agg w 9999 39 _ _ hS hp]
  simp only [Program.fieldsOf, Try.underlying39]
  go_simp
  by_cases h1 : x.1 = y.1
  · by_cases h2 : x.2 = y.2
    · have : x = y := Prod.ext h1 h2
      subst this
      simp
    · have : x ≠ y := fun h => h2 (by rw [h])
      simp [h1, this]
      exact fun he => h2 ((Lib.bytes_beq_iff x.2 y.2).1 (by rw [he]; simp))
  · have : x ≠ y := fun h => h1 (by rw [h])
    simp [h1, this]
theorem guard_wr (o : BinOp) (x y : Operand) (xs ys : Array Value) (w : World) : Sem.run Try.prog (eqGuard o 39 x y (.agg xs) (.agg ys)) w = .ok () w := run_eqGuard_agg w o 39 x y xs ys (by kernel_rfl)

end Go.Proofs.Ytgapjdkelkmdgaa.Same
