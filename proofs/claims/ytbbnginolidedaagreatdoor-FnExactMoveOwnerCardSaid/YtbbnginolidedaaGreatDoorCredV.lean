/- Credentials as values; who may do what: what the lists, the classes and the mask say. Plain facts, no condition. -/
import Derived.Test.YtbbnginolidedaaGreatDoorModeV
import Derived.Test.YtbbnginolidedaaGreatDoorAclQ
namespace Go.Proofs.YtbbnginolidedaaGreatDoor.CredV
open Go
open AclV ModeV
set_option linter.unusedVariables false

/-- Credentials: user, group, further groups. -/
abbrev Cr := Int × Int × List Int
def userB (n : Int) : Bool := decide (0 ≤ n) && decide (n ≤ 3)
theorem user_iff (n : Int) : userB n = true ↔ 0 ≤ n ∧ n ≤ 3 := by simp [userB]
/-- A group of the credentials. -/
def inB (c : Cr) (g : Int) : Bool := decide (c.2.1 = g) || c.2.2.any fun x => decide (x = g)
end Go.Proofs.YtbbnginolidedaaGreatDoor.CredV
