/- Contracts and plain facts that a law of this seat leans on. Conditions: as each theorem types them. -/
import Derived.Test.YtbbnginolidedaaGreatDoorAclI
namespace Go.Proofs.YtbbnginolidedaaGreatDoor.AclQ
open Go.ChangeShapes Go.WideShapes Go.ChangeAt Go.RowKit
open AclV AclS AclB
open Strs (ret_int)
set_option linter.unusedVariables false

/-- The first k entries are not asked for. -/
def NoneTo (l : List At) (p : At → Bool) (k : Nat) : Prop := ∀ i, i < k → p (l.getD i a0) = false
theorem none_zero (l : List At) (p : At → Bool) : NoneTo l p 0 := fun i h => absurd h (Nat.not_lt_zero _)
theorem none_succ {l : List At} {p : At → Bool} {k : Nat} (h : NoneTo l p k) (hk : p (l.getD k a0) = false) : NoneTo l p (k + 1) := fun i hi => by
  rcases Nat.lt_or_ge i k with hji | hji
  · exact h i hji
  · rw [show i = k from by omega]; exact hk
end Go.Proofs.YtbbnginolidedaaGreatDoor.AclQ
