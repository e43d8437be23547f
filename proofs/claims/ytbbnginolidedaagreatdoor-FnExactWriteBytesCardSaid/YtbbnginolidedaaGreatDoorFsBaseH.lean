/- Helper texts joined, one behind another (a claim has at most 60 files): what each proves, its own head says: YtbbnginolidedaaGreatDoorCoRs. -/
import Derived.Test.YtbbnginolidedaaGreatDoorFsBaseD
import Derived.Test.YtbbnginolidedaaGreatDoorFsBaseC
import Derived.Deep.RegionLaw
import Derived.Deep.RegionHeld3

-- YtbbnginolidedaaGreatDoorCoRs
/- Contract: the program's ResizeFile. Conditions: the cost, the size is a 64-bit number. -/
namespace Go.Proofs.YtbbnginolidedaaGreatDoor.CoRs
open Go.ChangeShapes Go.WideShapes Go.ChangeAt Go.RowKit
open Foot Bx
open InoV (I usedV needV)
open FsV (F okF e0 z32 usersB)
open FsY FsZ FoB CoN
open RowG (cellsB cellsB_length)
set_option linter.unusedVariables false
open CoFr (good_of)
end Go.Proofs.YtbbnginolidedaaGreatDoor.CoRs
