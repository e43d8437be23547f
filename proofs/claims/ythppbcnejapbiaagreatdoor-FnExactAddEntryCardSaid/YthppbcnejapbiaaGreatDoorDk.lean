/- A part. -/
import Derived.Test.YthppbcnejapbiaaGreatDoorWrTwo
import Derived.Test.YthppbcnejapbiaaGreatDoorSplitAnyLaw
import Derived.Lib.SmallJoins
import Derived.RangeFuncRecord
namespace Go.Proofs.YthppbcnejapbiaaGreatDoor.Dk
open Go.ChangeShapes Go.WideShapes Go.ChangeAt Go.RowKit
open Strs (ret_int budgetOf total own_below)
open Wr (Wt)
set_option linter.unusedVariables false
structure Turned (w w' : World) (lo hi : Nat) : Prop where
 os : w'.os = w.os
 tape : w'.tape = w.tape
 output : w'.output = w.output
 size : w.heap.size <= w'.heap.size
 block : ∀ k, k < w.heap.size -> (k < lo \/ hi <= k) -> w'.heap[k]? = w.heap[k]?
abbrev D := List ByteArray × List Wt
def Holds (w : World) (vs vp : Value) (d : D) : Prop := Strs.Holds w vs d.1 /\ Wr.Holds w vp d.2
theorem own_two {w : World} {lo lo' : Nat} {e e' : TypeId} {size size' : Nat} {v v' : Value} {n n' : Nat} {xs xs' : List Value} (h : w.ownsRow lo e size v n xs) (h' : w.ownsRow lo' e' size' v' n' xs') (hne : e ≠ e') : v.ownBlock = none \/ v.ownBlock ≠ v'.ownBlock := by
 rcases h.2 with ⟨rfl, _⟩ | ⟨g, cap, cur, rfl, _, hg, _⟩
 ·exact .inl rfl
 ·refine .inr fun hh => ?_
  rcases h'.2 with ⟨rfl, _⟩ | ⟨g', cap', cur', rfl, _, hg', _⟩
  ·cases hh
  ·have : g = g' := by simpa [Value.ownBlock] using hh
   subst this
   rw [hg] at hg'
   simp at hg'
   exact hne hg'.2
theorem blk_new (w : World) (o : Obj) : (w.alloc o).heap[w.heap.size]? = some o := World.alloc_heap_new w o
theorem blk_alloc {w : World} {b : Nat} {o : Obj} (h : w.heap[b]? = some o) (o' : Obj) : (w.alloc o').heap[b]? = some o := (Below.heap_alloc w o' b (Array.getElem?_eq_some_iff.1 h).1).trans h
theorem blk_grown {w w' : World} {row : Option Nat} {b : Nat} {o : Obj} (h : w.heap[b]? = some o) (hg : w.grownBy w' row) (hne : some b ≠ row) : w'.heap[b]? = some o := (hg.block b (Array.getElem?_eq_some_iff.1 h).1 hne).trans h
theorem slice_of {w : World} {lo : Nat} {e : TypeId} {size : Nat} {v : Value} {n : Nat} {xs : List Value} (h : w.ownsRow lo e size v n xs) : ∃ a c, v = .slice a n c := by
 rcases h.2 with ⟨rfl, h0⟩ | ⟨g, cap, cur, rfl, _⟩
 ·exact ⟨none, 0, by rw [h0]⟩
 ·exact ⟨_, _, rfl⟩
def marks (k : Nat) (d : D) : D := (Strs.marks k d.1.length, Wr.marks (k + d.1.length) d.2.length)
end Go.Proofs.YthppbcnejapbiaaGreatDoor.Dk
