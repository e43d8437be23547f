/- Contracts and plain facts that a law of this seat leans on. Conditions: as each theorem types them. -/
import Derived.Test.YthppbcnejapbiaaGreatDoorDkAt
import Derived.SliceStrings
namespace Go.Proofs.YthppbcnejapbiaaGreatDoor.Dk
open Go.ChangeShapes Go.WideShapes Go.ChangeAt Go.RowKit Go.Deep
open Wr (Wt wcells datas d0)
set_option linter.unusedVariables false
section
variable {H : Type} {enc : TypeId × Value → H} {W : World}

theorem cell_block {w : World} {p : Addr} {v : Value} (h : w.cell? p = some v) : p.block < w.heap.size := by
  simp only [World.cell?] at h
  split at h
  · rename_i heq; exact (Array.getElem?_eq_some_iff.1 heq).1
  · cases h

/-- What an argument that is a disk offers. -/
structure In (w : World) (vs vp : Value) (d : D) : Prop where
  l1 : d.1.length ≤ maxLen
  z1 : ∀ y ∈ d.1, y.size ≤ maxLen
  l2 : d.2.length ≤ maxLen
  z2 : ∀ y ∈ d.2, y.2.size ≤ maxLen
  holds : Holds w vs vp d
end
theorem cost_pos {d : D} {left : Nat} (h : cost d ≤ left) : costOf d left = ((left - cost d : Nat) : Int) := if_pos h
theorem cost_neg {d : D} {left : Nat} (h : ¬ cost d ≤ left) : costOf d left = -1 := if_neg h
end Go.Proofs.YthppbcnejapbiaaGreatDoor.Dk
