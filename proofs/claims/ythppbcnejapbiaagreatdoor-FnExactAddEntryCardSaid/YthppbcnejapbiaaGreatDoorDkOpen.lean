/- A part. -/
import Derived.Test.YthppbcnejapbiaaGreatDoorDkAt
import Derived.SliceStrings
namespace Go.Proofs.YthppbcnejapbiaaGreatDoor.Dk
open Go.ChangeShapes Go.WideShapes Go.ChangeAt Go.RowKit Go.Deep
open Wr (Wt d0)
set_option linter.unusedVariables false
section
variable {H : Type} {enc : TypeId × Value -> H} {W : World}
theorem cell_block {w : World} {p : Addr} {v : Value} (h : w.cell? p = some v) : p.block < w.heap.size := by
 simp only [World.cell?] at h
 split at h
 ·rename_i heq; exact (Array.getElem?_eq_some_iff.1 heq).1
 ·cases h
structure In (w : World) (vs vp : Value) (d : D) : Prop where
 l1 : d.1.length <= maxLen
 z1 : ∀ y ∈ d.1, y.size <= maxLen
 l2 : d.2.length <= maxLen
 z2 : ∀ y ∈ d.2, y.2.size <= maxLen
 holds : Holds w vs vp d
end
end Go.Proofs.YthppbcnejapbiaaGreatDoor.Dk
