/- Contracts and plain facts that a law of this seat leans on. Conditions: as each theorem types them. -/
import Derived.Test.YtafmpllkehbmeaaGreatDoorNi
import Derived.Test.YtafmpllkehbmeaaGreatDoorBx
import Derived.Test.YtafmpllkehbmeaaGreatDoorCredV
namespace Go.Proofs.YtafmpllkehbmeaaGreatDoor.Cr
open Go.ChangeShapes Go.WideShapes Go.ChangeAt Go.RowKit Go.Deep
open Bx
open CredV (Cr)
open Strs (ret_int own_below)
open Ni (HoldsN)
set_option linter.unusedVariables false

def costOf (n left : Nat) : Int := if n ≤ left then ((left - n : Nat) : Int) else -1
theorem cost_pos {n left : Nat} (h : n ≤ left) : costOf n left = ((left - n : Nat) : Int) := if_pos h
theorem cost_neg {n left : Nat} (h : ¬ n ≤ left) : costOf n left = -1 := if_neg h

/-- What an argument of that type offers. -/
structure In (w : World) (gv : Value) (l : List Int) : Prop where
  len : l.length ≤ maxLen
  holds : HoldsN w gv l
end Go.Proofs.YtafmpllkehbmeaaGreatDoor.Cr
