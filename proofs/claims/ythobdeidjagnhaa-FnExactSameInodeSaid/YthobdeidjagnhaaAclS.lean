/- Contracts and plain facts that a law of this seat leans on. Conditions: as each theorem types them. -/
import Derived.Test.YthobdeidjagnhaaPutNumber
import Derived.Test.YthobdeidjagnhaaAclV
import Derived.Test.YthobdeidjagnhaaDkAt
import Derived.Deep.RegionHeld3
namespace Go.Proofs.Ythobdeidjagnhaa.AclS
open Go.ChangeShapes Go.WideShapes Go.ChangeAt Go.RowKit
open AclV
open Dk (ret_bool blk_new)
set_option linter.unusedVariables false

/-- An entry names this tag and this id. -/
def forB (x : At) (t i : Int) : Bool := decide (x.1 = t) && decide (x.2.1 = i)
/-- How two ints compare. -/
def cmpV (a b : Int) : Int := if a < b then -1 else if b < a then 1 else 0
end Go.Proofs.Ythobdeidjagnhaa.AclS
