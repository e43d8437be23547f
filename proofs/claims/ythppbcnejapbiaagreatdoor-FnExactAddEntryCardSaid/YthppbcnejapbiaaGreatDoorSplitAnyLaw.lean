/- A part. -/
import Derived.Test.YthppbcnejapbiaaGreatDoorSplitAnyImpl
import Derived.Test.YthppbcnejapbiaaGreatDoorStrs
namespace Go.Proofs.YthppbcnejapbiaaGreatDoor.SplitAny
open Go.ChangeShapes Go.WideShapes Go.ChangeAt Go.RowKit
open Go.ChangeMaps (open_string shut_string)
open Strs (Holds holds_of_own holds_below eq_any mark_all held_all marks marks_length own_below)
set_option linter.unusedVariables false
end Go.Proofs.YthppbcnejapbiaaGreatDoor.SplitAny
