/- A part. -/
import Derived.Test.YthppbcnejapbiaaGreatDoorKit
import Derived.BigQuiet
import Derived.Deep.QuietTactic
import Derived.Laws.RangeAny
namespace Go.Proofs.YthppbcnejapbiaaGreatDoor.IsDigits
open Go.ChangeShapes Go.WideShapes Go.ChangeAt Go.RowKit
open Go.ChangeMaps (open_string shut_string)
set_option linter.unusedVariables false
end Go.Proofs.YthppbcnejapbiaaGreatDoor.IsDigits
