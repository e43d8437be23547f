/- A part. -/
import Derived.Test.YthppbcnejapbiaaGreatDoorStrsTwo
namespace Go.Proofs.YthppbcnejapbiaaGreatDoor.Wr
open Go.ChangeShapes Go.WideShapes Go.ChangeAt Go.RowKit
open Strs (markT mark_any grow_below grow_trans own_below below_of_drew ret_int)
set_option linter.unusedVariables false
abbrev Wt := Int × ByteArray
def d0 : Wt := (0, ⟨#[]⟩)
def Holds (w : World) (v : Value) (ws : List Wt) : Prop :=
 ∃ (a : Option Addr) (cap : Nat), v = .slice a ws.length cap /\ (ws ≠ [] -> ∃ b o, a = some ⟨b, o, none⟩ /\ b < w.heap.size /\ ∀ j, j < ws.length -> w.cell? ⟨b, o + j * 2, none⟩ = some (.int .i64 (ws.getD j d0).1) /\ w.cell? ⟨b, o + j * 2 + 1, none⟩ = some (.string (ws.getD j d0).2))
def marks (k n : Nat) : List Wt := (List.range n).map fun i => (((k + 2 * i : Nat) : Int), markT (k + 2 * i + 1))
end Go.Proofs.YthppbcnejapbiaaGreatDoor.Wr
