/- Contracts and plain facts that a law of this seat leans on. Conditions: as each theorem types them. -/
import Derived.Test.YthppbcnejapbiaaGreatDoorWrTwo
import Derived.Test.YthppbcnejapbiaaGreatDoorSplitAnyLaw
import Derived.Lib.SmallJoins
import Derived.RangeFuncRecord
namespace Go.Proofs.YthppbcnejapbiaaGreatDoor.Dk
open Go.ChangeShapes Go.WideShapes Go.ChangeAt Go.RowKit
open Strs (ret_int budgetOf total own_below)
open Wr (Wt wcells wcells_length datas datas_length)
set_option linter.unusedVariables false

/-- The blocks of lo up to hi may have turned; every other one is as it was. -/
structure Turned (w w' : World) (lo hi : Nat) : Prop where
  os : w'.os = w.os
  tape : w'.tape = w.tape
  output : w'.output = w.output
  size : w.heap.size ≤ w'.heap.size
  block : ∀ k, k < w.heap.size → (k < lo ∨ hi ≤ k) → w'.heap[k]? = w.heap[k]?
theorem Turned.of_below {w w' : World} {B : Nat} (h : Below B w w') (hB : w.heap.size ≤ B) (lo hi : Nat) : Turned w w' lo hi :=
  ⟨h.os, h.tape, h.output, h.size, fun k hk _ => h.block k (Nat.lt_of_lt_of_le hk hB)⟩
theorem Turned.below {w w' : World} {lo hi B : Nat} (h : Turned w w' lo hi) (hB : B ≤ lo) (hs : B ≤ w.heap.size) : Below B w w' :=
  ⟨h.os, h.tape, h.output, h.size, fun k hk => h.block k (Nat.lt_of_lt_of_le hk hs) (.inl (Nat.lt_of_lt_of_le hk hB))⟩
theorem Turned.refl (w : World) (lo hi : Nat) : Turned w w lo hi := ⟨rfl, rfl, rfl, Nat.le_refl _, fun _ _ _ => rfl⟩
theorem Turned.trans {a b c : World} {lo hi : Nat} (h1 : Turned a b lo hi) (h2 : Turned b c lo hi) : Turned a c lo hi :=
  ⟨h2.os.trans h1.os, h2.tape.trans h1.tape, h2.output.trans h1.output, Nat.le_trans h1.size h2.size, fun k hk hc => (h2.block k (Nat.lt_of_lt_of_le hk h1.size) hc).trans (h1.block k hk hc)⟩
theorem Turned.of_grown {w w' : World} {row : Option Nat} {lo hi : Nat} (h : w.grownBy w' row) (hr : ∀ k, row = some k → lo ≤ k ∧ k < hi) : Turned w w' lo hi :=
  ⟨h.os, h.tape, h.output, h.size, fun k hk hc => h.block k hk (fun e => by have := hr k e.symm; omega)⟩
/-- A row within the blocks of lo up to hi. -/
def RowIn (w : World) (lo hi : Nat) (e : TypeId) (size : Nat) (v : Value) (n : Nat) (xs : List Value) : Prop :=
  w.ownsRow lo e size v n xs ∧ ∀ k, v.ownBlock = some k → k < hi
theorem RowIn.below {w w' : World} {lo hi : Nat} {e : TypeId} {size : Nat} {v : Value} {n : Nat} {xs : List Value} (h : RowIn w lo hi e size v n xs) (hb : Below w.heap.size w w') : RowIn w' lo hi e size v n xs := ⟨own_below h.1 hb, h.2⟩
theorem RowIn.wide {w : World} {lo hi lo' hi' : Nat} {e : TypeId} {size : Nat} {v : Value} {n : Nat} {xs : List Value} (h : RowIn w lo hi e size v n xs) (h1 : lo' ≤ lo) (h2 : hi ≤ hi') : RowIn w lo' hi' e size v n xs :=
  ⟨⟨h.1.1, h.1.2.elim .inl (fun ⟨g, cap, cur, hv, hg, r⟩ => .inr ⟨g, cap, cur, hv, Nat.le_trans h1 hg, r⟩)⟩, fun k hk => Nat.lt_of_lt_of_le (h.2 k hk) h2⟩

/-- A disk: its sectors, its pending writes. -/
abbrev D := List ByteArray × List Wt
/-- The two slices hold the disk d. -/
def Holds (w : World) (vs vp : Value) (d : D) : Prop := Strs.Holds w vs d.1 ∧ Wr.Holds w vp d.2
theorem Holds.below {w w' : World} {vs vp : Value} {d : D} (h : Holds w vs vp d) (hb : Below w.heap.size w w') : Holds w' vs vp d := ⟨Strs.holds_below (B := 0) h.1 hb, Wr.holds_below (B := 0) h.2 hb⟩
/-- A variable of a struct's type, boxed: its block, whole. -/
theorem blk_new (w : World) (o : Obj) : (w.alloc o).heap[w.heap.size]? = some o := World.alloc_heap_new w o
theorem blk_two {w : World} {b : Nat} {x y : Value} {t : TypeId} (h : w.heap[b]? = some (.cells #[x, y] t (0, 0))) :
    w.cell? ⟨b, 0, none⟩ = some x ∧ w.cell? ⟨b, 1, none⟩ = some y ∧ w.frozen? ⟨b, 0, none⟩ = false ∧ w.frozen? ⟨b, 1, none⟩ = false :=
  ⟨by rw [Joins.cell_of_block h]; rfl, by rw [Joins.cell_of_block h]; rfl, Joins.unfrozen_of_block h 0, Joins.unfrozen_of_block h 1⟩
theorem slice_of {w : World} {lo : Nat} {e : TypeId} {size : Nat} {v : Value} {n : Nat} {xs : List Value} (h : w.ownsRow lo e size v n xs) : ∃ a c, v = .slice a n c := by
  rcases h.2 with ⟨rfl, h0⟩ | ⟨g, cap, cur, rfl, _⟩
  · exact ⟨none, 0, by rw [h0]⟩
  · exact ⟨_, _, rfl⟩

/-- A boxed variable of two cells. -/
def Box (w : World) (b : Nat) (x y : Value) (t : TypeId) : Prop := w.heap[b]? = some (.cells #[x, y] t (0, 0))
theorem Box.below {w w' : World} {b : Nat} {x y : Value} {t : TypeId} (h : Box w b x y t) (hb : Below w.heap.size w w') : Box w' b x y t := (hb.block b (Array.getElem?_eq_some_iff.1 h).1).trans h
theorem Box.cells {w : World} {b : Nat} {x y : Value} {t : TypeId} (h : Box w b x y t) : w.cell? ⟨b, 0, none⟩ = some x ∧ w.cell? ⟨b, 1, none⟩ = some y := ⟨(blk_two h).1, (blk_two h).2.1⟩
theorem Box.lt {w : World} {b : Nat} {x y : Value} {t : TypeId} (h : Box w b x y t) : b < w.heap.size := (Array.getElem?_eq_some_iff.1 h).1

def cost (d : D) : Nat := d.1.length + total d.1 + (d.2.length + total (datas d.2))
def costOf (d : D) (left : Nat) : Int := if cost d ≤ left then ((left - cost d : Nat) : Int) else -1

/-- The disk's marks, from number k on. -/
def marks (k : Nat) (d : D) : D := (Strs.marks k d.1.length, Wr.marks (k + d.1.length) d.2.length)
end Go.Proofs.YthppbcnejapbiaaGreatDoor.Dk
