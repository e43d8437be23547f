/- What an exact law carries from world to world: boxes over stores in rows that lie apart. No condition. -/
import Derived.Test.YthppbcnejapbiaaBx
import Derived.Test.YthppbcnejapbiaaFoot
namespace Go.Proofs.Ythppbcnejapbiaa.FlK
open Go.ChangeShapes Go.WideShapes Go.ChangeAt Go.RowKit
open Foot Bx
set_option linter.unusedVariables false
theorem bk_chg {w w' : World} {b : Nat} {cs : Array Value} {t : TypeId} {S : List Nat} (h : Bk w b cs t) (hc : Chg w w' S) (hn : b ∉ S) : Bk w' b cs t := (hc.block b h.lt hn).trans h
theorem lies_apart {S T : List Nat} {a b c d : Nat} (h : Lies S a b) (h' : Lies T c d) (hbc : b ≤ c) : Apart T S := (Lies.apart h h' hbc).symm
theorem below_chg {w a b : World} {B : Nat} {S : List Nat} {lo hi : Nat} (h : Below B w a) (hc : Chg a b S) (hB : B ≤ a.heap.size) (hl : Lies S lo hi) (hlo : B ≤ lo) : Below B w b :=
  h.trans (hc.below hB (fun k hk => by have := (hl k hk).1; omega))
theorem not_in_low {S : List Nat} {lo hi b : Nat} (hl : Lies S lo hi) (h : b < lo) : b ∉ S := fun hh => by have := (hl b hh).1; omega
theorem not_in_high {S : List Nat} {lo hi b : Nat} (hl : Lies S lo hi) (h : hi ≤ b) : b ∉ S := fun hh => by have := (hl b hh).2; omega
/-- A call that leaves the very world. -/
theorem still {P : Program} {f : FuncId} {args : Array Value} {W : World} {r : Ending} (h : Calls P f args W fun e w' => e = r ∧ W = w') : Calls P f args W fun e w' => e = r ∧ Below W.heap.size W w' :=
  h.mono fun _ _ ⟨he, hw⟩ => ⟨he, by rw [hw]; exact Below.refl _ _⟩
end Go.Proofs.Ythppbcnejapbiaa.FlK
