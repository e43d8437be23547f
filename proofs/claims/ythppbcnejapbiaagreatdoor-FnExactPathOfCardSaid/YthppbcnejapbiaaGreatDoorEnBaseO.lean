/- Helper texts joined, one behind another (a claim has at most 60 files): what each proves, its own head says: YthppbcnejapbiaaGreatDoorOpF. -/
import Derived.Test.YthppbcnejapbiaaGreatDoorFsBaseA
import Derived.Test.YthppbcnejapbiaaGreatDoorFsBaseC

-- YthppbcnejapbiaaGreatDoorOpF
/- The cells of a file system's value, and of the inodes of a valid one. Conditions: as each theorem types them. -/
namespace Go.Proofs.YthppbcnejapbiaaGreatDoor.OpF
open Go.ChangeShapes Go.WideShapes Go.ChangeAt Go.RowKit
open FsV (F okF)
open FsY (ino)
set_option linter.unusedVariables false

/-- The cells of a valid file system, and of its inodes. -/
theorem open_fs {w : World} {v : Value} {f : F} (hok : okF f = true) (h : FsF.Holds w v f) : ∃ (T : Int) (qa : Option Addr) (Q qc b o ic : Nat) (da : Option Addr) (D dc : Nat), v = .agg #[.int .i64 T, .slice qa Q qc, .slice (some ⟨b, o, none⟩) 20 ic, .slice da D dc] ∧ b < w.heap.size ∧ 20 ≤ ic ∧ ∀ k, k < 20 → ∃ r0 r1 r2, IF.Cell w b (o + k * 10) (ino f k) r0 r1 r2 ∧ IF.Parts w (ino f k) r0 r1 r2 := by
  have hM20 : f.inodes.length = 20 := (FsV.parts_of (FsV.ok_parts hok).2.1).2.1
  obtain ⟨r0, r1, r2, rfl, g0, g1, g2⟩ := h
  obtain ⟨qa, qc, rfl⟩ := QF.form g0
  obtain ⟨da, dc, rfl⟩ := SF.form g2
  obtain ⟨a9, c9, rfl, l9, hat⟩ := g1
  rw [hM20] at l9 hat ⊢
  obtain ⟨b, o, rfl, hb, _⟩ := hat 0 (by decide)
  refine ⟨_, qa, _, qc, b, o, c9, da, _, dc, rfl, hb, l9, fun k hk => ?_⟩
  obtain ⟨b', o', e, _, r0, r1, r2, hC, hP⟩ := hat k hk
  cases e
  exact ⟨r0, r1, r2, hC, hP⟩
/-- The cells of a file system, whatever it is. -/
theorem form_fs {w : World} {v : Value} {f : F} (h : FsF.Holds w v f) : ∃ (T : Int) (qa : Option Addr) (Q qc : Nat) (ia : Option Addr) (M ic : Nat) (da : Option Addr) (D dc : Nat), v = .agg #[.int .i64 T, .slice qa Q qc, .slice ia M ic, .slice da D dc] := by
  obtain ⟨c0, c1a, c1n, c1c, c2a, c2n, c2c, c3a, c3n, c3c, e⟩ := FsF.form h
  exact ⟨_, _, _, _, _, _, _, _, _, _, e⟩
end Go.Proofs.YthppbcnejapbiaaGreatDoor.OpF
