/- Modes as values: their text, the permission of a class; a mode is known by its text. Plain facts, no condition. -/
import Derived.Test.YthppbcnejapbiaaGreatDoorAclV
namespace Go.Proofs.YthppbcnejapbiaaGreatDoor.ModeV
open Go
set_option linter.unusedVariables false

def modeB (m : Int) : Bool := decide (0 ≤ m) && decide (m ≤ 2047)
theorem mode_iff (m : Int) : modeB m = true ↔ 0 ≤ m ∧ m ≤ 2047 := by simp [modeB]
/-- The permission of a class in a mode. -/
def permOfV (m k : Int) : Int := if modeB m = true ∧ 0 ≤ k ∧ k ≤ 2 then (if k = 0 then m / 64 else if k = 1 then m / 8 else m) % 8 else 0
theorem permOf_range (m k : Int) : 0 ≤ permOfV m k ∧ permOfV m k ≤ 7 := by
  unfold permOfV
  split
  · split
    · omega
    · split <;> omega
  · omega
theorem permOf_at {m : Int} (h : modeB m = true) : permOfV m 0 = m / 64 % 8 ∧ permOfV m 1 = m / 8 % 8 ∧ permOfV m 2 = m % 8 := by
  refine ⟨?_, ?_, ?_⟩
  · rw [permOfV, if_pos ⟨h, by omega, by omega⟩, if_pos rfl]
  · rw [permOfV, if_pos ⟨h, by omega, by omega⟩, if_neg (by omega), if_pos rfl]
  · rw [permOfV, if_pos ⟨h, by omega, by omega⟩, if_neg (by omega), if_neg (by omega)]
/-- The sticky bit of a mode. -/
def stickyB (m : Int) : Bool := decide (m.toNat / 512 % 2 = 1)
end Go.Proofs.YthppbcnejapbiaaGreatDoor.ModeV
