/- A part. -/
import Derived.Test.YthppbcnejapbiaaGreatDoorSplitAny
namespace Go.Proofs.YthppbcnejapbiaaGreatDoor.SplitC
open SplitAny (cutL parts)
set_option linter.unusedVariables false
end Go.Proofs.YthppbcnejapbiaaGreatDoor.SplitC
