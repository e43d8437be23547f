/- Contracts and plain facts that a law of this seat leans on. Conditions: as each theorem types them. -/
import Derived.Test.YtmljjdglmlnbaaaAclS
import Derived.Deep.RegionHeld3
import Derived.Deep.RegionLaw
import Derived.StillTailTactics
namespace Go.Proofs.Ytmljjdglmlnbaaa.AclB
open Go.ChangeShapes Go.WideShapes Go.ChangeAt Go.RowKit
open AclV AclS
open Dk (ret_bool blk_new)
set_option linter.unusedVariables false

theorem cells_new (w : World) (cs : Array Value) (t : TypeId) (j : Nat) (u : Value) (hj : cs[j]? = some u) : (w.alloc (.cells cs t)).cell? ⟨w.heap.size, j, none⟩ = some u := by
  rw [World.cell?_alloc_at _ _ _ _ rfl]; simpa using hj
theorem before_val (n0 n1 n2 m0 m1 m2 : Int) : ltB (n0, n1, n2) (m0, m1, m2) = decide ((if cmpV n0 m0 = 0 then cmpV n1 m1 else cmpV n0 m0) < 0) := by
  simp only [ltB, cmpV]
  by_cases h1 : n0 < m0
  · simp [h1]
  · by_cases h2 : m0 < n0
    · have h3 : ¬ n0 = m0 := by omega
      simp [h1, h2, h3]
    · have h3 : n0 = m0 := by omega
      by_cases h4 : n1 < m1
      · simp [h3, h4]
      · by_cases h5 : m1 < n1 <;> simp [h3, h4, h5]
end Go.Proofs.Ytmljjdglmlnbaaa.AclB
