/- Contracts and plain facts that a law of this seat leans on. Conditions: as each theorem types them. -/
import Derived.Test.YtmljjdglmlnbaaaPutNumber
import Derived.Test.YtmljjdglmlnbaaaAclV
import Derived.Test.YtmljjdglmlnbaaaDkAt
import Derived.Deep.RegionHeld3
namespace Go.Proofs.Ytmljjdglmlnbaaa.AclS
open Go.ChangeShapes Go.WideShapes Go.ChangeAt Go.RowKit
open AclV
open Dk (ret_bool blk_new)
set_option linter.unusedVariables false

theorem in_any (n lo hi : Int) (w : World) :
    Calls Try.prog 12 #[.int .i64 n, .int .i64 lo, .int .i64 hi] w fun e w' => e = .returned (.bool (decide (lo ≤ n) && decide (n ≤ hi))) ∧ w = w' := by
  by_cases h : lo ≤ n ∧ n ≤ hi
  · refine (PutNumber.in_yes n lo hi w h.1 h.2).mono ?_
    rintro e w' ⟨rfl, rfl⟩
    exact ⟨ret_bool (by simp [h.1, h.2]), rfl⟩
  · refine (PutNumber.in_no n lo hi w (by omega)).mono ?_
    rintro e w' ⟨rfl, rfl⟩
    exact ⟨ret_bool (by simp; omega), rfl⟩
/-- An entry names this tag and this id. -/
def forB (x : At) (t i : Int) : Bool := decide (x.1 = t) && decide (x.2.1 = i)
/-- How two ints compare. -/
def cmpV (a b : Int) : Int := if a < b then -1 else if b < a then 1 else 0
end Go.Proofs.Ytmljjdglmlnbaaa.AclS
