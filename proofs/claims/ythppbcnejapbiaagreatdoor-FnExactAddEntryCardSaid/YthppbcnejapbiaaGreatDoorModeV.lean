/- A part. -/
import Derived.Test.YthppbcnejapbiaaGreatDoorAclV
namespace Go.Proofs.YthppbcnejapbiaaGreatDoor.ModeV
open Go
set_option linter.unusedVariables false
def modeB (m : Int) : Bool := decide (0 <= m) && decide (m <= 2047)
theorem mode_iff (m : Int) : modeB m = true ↔ 0 <= m /\ m <= 2047 := by simp [modeB]
def stickyB (m : Int) : Bool := decide (m.toNat / 512 % 2 = 1)
end Go.Proofs.YthppbcnejapbiaaGreatDoor.ModeV
