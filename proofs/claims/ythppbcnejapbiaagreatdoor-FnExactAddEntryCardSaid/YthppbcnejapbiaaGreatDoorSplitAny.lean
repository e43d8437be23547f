/- A part. -/
import Derived.Test.YthppbcnejapbiaaGreatDoorKit
import Derived.BigQuiet
import Derived.Deep.QuietTactic
namespace Go.Proofs.YthppbcnejapbiaaGreatDoor.SplitAny
open Go.ChangeShapes Go.WideShapes Go.ChangeAt Go.RowKit
open Go.ChangeMaps (open_string shut_string)
set_option linter.unusedVariables false
def cutL (s b : ByteArray) : Nat -> List ByteArray × Nat
 | 0 => ([], 0)
 | k + 1 => if b.data.toList.contains (s.data.toList.getD k 0) = true then ((cutL s b k).1 ++ [s.extract (cutL s b k).2 k], k + 1) else cutL s b k
def parts (s b : ByteArray) : List ByteArray := (cutL s b s.size).1 ++ [s.extract (cutL s b s.size).2 s.size]
theorem strInfo : (Tryz.prog.info? 9).map (fun i => (i.zero, i.size, i.bytes)) = some (some (.string ⟨#[]⟩), 1, 16) := by kernel_rfl
def St (s b : ByteArray) (w : World) (base k : Nat) (v f : Value) (wr : World) : Prop :=
 f = .int .i64 (cutL s b k).2 /\ wr.ownsRow base 9 1 v (cutL s b k).1.length ((cutL s b k).1.map Value.string) /\ Below w.heap.size w wr /\ base <= wr.heap.size
theorem st_below {w wq w1 : World} {base n : Nat} {o : Obj} {v : Value} {xs : List Value} {e : TypeId} (hown : wq.ownsRow base e 1 v n xs) (hbel : Below w.heap.size w wq) (hbs : base <= wq.heap.size) (hB : w.heap.size <= base) (hg : (wq.alloc o).grownBy w1 v.ownBlock) : Below w.heap.size w w1 /\ base <= w1.heap.size := by
 have h1 : Below w.heap.size w (wq.alloc o) := hbel.alloc (Nat.le_trans hB hbs) _
 refine ⟨h1.grown hg (by simp; omega) (fun k hk => Nat.le_trans hB (hown.lt k hk).1), ?_⟩
 have := hg.size
 simp at this
 omega
end Go.Proofs.YthppbcnejapbiaaGreatDoor.SplitAny
