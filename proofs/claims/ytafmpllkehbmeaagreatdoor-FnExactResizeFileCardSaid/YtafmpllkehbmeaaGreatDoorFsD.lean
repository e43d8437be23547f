/- Contracts and plain facts that a law of this seat leans on. Conditions: as each theorem types them. -/
import Derived.Test.YtafmpllkehbmeaaGreatDoorFsC
namespace Go.Proofs.YtafmpllkehbmeaaGreatDoor.FsD
open Go.ChangeShapes Go.WideShapes Go.ChangeAt Go.RowKit
open Foot Bx
open InoV (I usedV hasB)
open FsV (F cnt first pick useI useB usersB okF)
open Dk (ret_bool)
open MpB (Is)
open FsC (poolV usI)
set_option linter.unusedVariables false

end Go.Proofs.YtafmpllkehbmeaaGreatDoor.FsD
