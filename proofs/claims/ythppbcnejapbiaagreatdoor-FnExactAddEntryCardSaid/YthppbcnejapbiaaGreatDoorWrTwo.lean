/- A part. -/
import Derived.Test.YthppbcnejapbiaaGreatDoorWr
namespace Go.Proofs.YthppbcnejapbiaaGreatDoor.Wr
open Go.ChangeShapes Go.WideShapes Go.ChangeAt Go.RowKit
open Strs (own_below ret_int budgetOf total total_take_succ total_take_le take_set_succ)
set_option linter.unusedVariables false
end Go.Proofs.YthppbcnejapbiaaGreatDoor.Wr
