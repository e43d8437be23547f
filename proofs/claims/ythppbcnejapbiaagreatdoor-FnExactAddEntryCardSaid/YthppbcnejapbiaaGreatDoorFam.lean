/- A part. -/
import Derived.Test.YthppbcnejapbiaaGreatDoorKit
import Derived.BigQuiet
import Derived.Deep.QuietTactic
namespace Go.Proofs.YthppbcnejapbiaaGreatDoor.Fam
open Go.ChangeShapes Go.WideShapes Go.ChangeAt Go.RowKit
set_option linter.unusedVariables false
def Ix (W : World) : Type := {w' : World // Below W.heap.size W w'}
instance ix_some (W : World) : Nonempty (Ix W) := ⟨⟨W, Below.refl _ _⟩⟩
def wld (W : World) (n : Ix W) : World := n.1
theorem wld_below (W : World) (n : Ix W) : Below W.heap.size W (wld W n) := n.2
theorem cell {W : World} {p : Addr} {v : Value} (hp : p.block < W.heap.size) (h : W.cell? p = some v) : ∀ n : Ix W, (wld W n).cell? p = some v := fun n => by
 rw [(wld_below W n).cell hp]; exact h
theorem region {P : Program} {id : Nat} {Q : Exit -> Act -> World -> Prop} {a : Act} {w : World} {l : List Oper} (hm : P.follows .mixedOrders = true) (hB : Region.lexB .any l.toArray = true)
  (h : wpQuiet P l.toArray (fun w' => ∃ n : Ix w, w' = wld w n) (fun a' => ∀ w', (∃ n : Ix w, w' = wld w n) -> Q .normal a' w') l a) : (Code.region id l.toArray true).wp P Q a w :=
 wp_region_quiet (C := fun w' => ∃ n : Ix w, w' = wld w n) hm hB ⟨⟨w.drew, (Below.refl _ _).drew⟩, rfl⟩ (by simpa using h)
theorem calls {P : Program} {f : FuncId} {args : Array Value} {W : World} {n : Ix W} {v : Value}
  (h : Calls P f args (wld W n) fun e w' => e = .returned v /\ Below (wld W n).heap.size (wld W n) w') : Calls P f args (wld W n) fun e w'' => e = .returned v /\ ∃ m : Ix W, w'' = wld W m :=
 h.mono fun _ w' ⟨he, hb⟩ => ⟨he, ⟨w', (wld_below W n).trans (hb.mono (wld_below W n).size)⟩, rfl⟩
theorem calls_same {P : Program} {f : FuncId} {args : Array Value} {W : World} {n : Ix W} {v : Value}
  (h : Calls P f args (wld W n) fun e w' => e = .returned v /\ wld W n = w') : Calls P f args (wld W n) fun e w'' => e = .returned v /\ ∃ m : Ix W, w'' = wld W m :=
 h.mono fun _ w' ⟨he, hb⟩ => ⟨he, n, hb.symm⟩
end Go.Proofs.YthppbcnejapbiaaGreatDoor.Fam
