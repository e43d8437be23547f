/- A part. -/
import Derived.Test.YthppbcnejapbiaaGreatDoorSplitAny
namespace Go.Proofs.YthppbcnejapbiaaGreatDoor.SplitAny
open Go.ChangeShapes Go.WideShapes Go.ChangeAt Go.RowKit
open Go.ChangeMaps (open_string shut_string)
set_option linter.unusedVariables false
theorem own_nil (w : World) (base : Nat) (e : TypeId) : w.ownsRow base e 1 (.slice none 0 0) 0 [] := ⟨rfl, .inl ⟨rfl, rfl⟩⟩
end Go.Proofs.YthppbcnejapbiaaGreatDoor.SplitAny
