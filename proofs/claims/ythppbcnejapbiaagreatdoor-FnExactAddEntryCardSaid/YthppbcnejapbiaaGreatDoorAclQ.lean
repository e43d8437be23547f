/- A part. -/
import Derived.Test.YthppbcnejapbiaaGreatDoorAclI
namespace Go.Proofs.YthppbcnejapbiaaGreatDoor.AclQ
open Go.ChangeShapes Go.WideShapes Go.ChangeAt Go.RowKit
open AclV AclS AclB
open Strs (ret_int)
set_option linter.unusedVariables false
end Go.Proofs.YthppbcnejapbiaaGreatDoor.AclQ
