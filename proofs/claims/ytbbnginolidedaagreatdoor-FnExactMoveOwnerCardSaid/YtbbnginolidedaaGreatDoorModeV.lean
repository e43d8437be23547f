/- Modes as values: their text, the permission of a class; a mode is known by its text. Plain facts, no condition. -/
import Derived.Test.YtbbnginolidedaaGreatDoorAclV
namespace Go.Proofs.YtbbnginolidedaaGreatDoor.ModeV
open Go
set_option linter.unusedVariables false

def modeB (m : Int) : Bool := decide (0 ≤ m) && decide (m ≤ 2047)
theorem mode_iff (m : Int) : modeB m = true ↔ 0 ≤ m ∧ m ≤ 2047 := by simp [modeB]
/-- The sticky bit of a mode. -/
def stickyB (m : Int) : Bool := decide (m.toNat / 512 % 2 = 1)
end Go.Proofs.YtbbnginolidedaaGreatDoor.ModeV
