/- A part. -/
import Derived.Test.YthppbcnejapbiaaGreatDoorCards
import Derived.Test.YthppbcnejapbiaaGreatDoorTie
import Derived.SevenTiedAt
import Derived.JoinedOf
namespace Go.Proofs.YthppbcnejapbiaaGreatDoor.Cls
open Go
theorem laid : laidOutB Tryz.pinned.checked.prog = true := by kernel_rfl
theorem maps : mapsRowed Tryz.pinned.checked.prog = true := by kernel_rfl
theorem stops : (Tryz.pinned.checked.prog.stops == []) = true := by kernel_rfl
theorem stopKnobs : (Tryz.pinned.checked.prog.stopKnobs == []) = true := by kernel_rfl
theorem keys : (Rows.fnExactMayAccessRow.plainKeys == Tryz.pinned.checked.prog.plainKeys) = true := by kernel_rfl
theorem heard : Tryz.pinned.checked.prog.stopsHeard = true := by kernel_rfl
theorem enters : Tryz.pinned.checked.prog.mayEnter = true := by kernel_rfl
theorem lifts : (Rows.fnExactMayAccessRow.lifted == Tryz.pinned.checked.prog.liftsFinal) = true := by kernel_rfl
theorem makes : (Tryz.pinned.checked.prog.make == some Rows.fnExactMayAccessRow.make) = true := by kernel_rfl
theorem main : Tryz.pinned.checked.prog.mainIs = some (Rows.fnExactMayAccessCard.stood.harness.1, Rows.fnExactMayAccessCard.stood.harness.2.toList) := by kernel_rfl
theorem looks : Rows.fnExactMayAccessCard.stood.looks = Tryz.pinned.checked.prog.looks [] := by kernel_rfl
end Go.Proofs.YthppbcnejapbiaaGreatDoor.Cls
