/- A part. -/
import Derived.Test.YthppbcnejapbiaaGreatDoorDk
namespace Go.Proofs.YthppbcnejapbiaaGreatDoor.Dk
open Go.ChangeShapes Go.WideShapes Go.ChangeAt Go.RowKit
open Wr (Wt d0)
set_option linter.unusedVariables false
def Fits (n : Nat) (x : Wt) : Prop := (0 <= x.1 /\ x.1 < n) /\ x.2.size = 32
instance (n : Nat) (x : Wt) : Decidable (Fits n x) := by unfold Fits; infer_instance
def Ok (d : D) : Prop := (d.1.length <= 400 /\ d.2.length <= 400) /\ (∀ i, i < d.1.length -> (d.1.getD i ⟨#[]⟩).size = 32) /\ ∀ i, i < d.2.length -> Fits d.1.length (d.2.getD i d0)
instance (d : D) : Decidable (Ok d) := by unfold Ok; infer_instance
theorem ret_bool {a b : Bool} (h : a = b) : Ending.returned (.bool a) = .returned (.bool b) := by rw [h]
end Go.Proofs.YthppbcnejapbiaaGreatDoor.Dk
