/- Contracts and plain facts that a law of this seat leans on. Conditions: as each theorem types them. -/
import Derived.Test.YthppbcnejapbiaaSplitAnyImpl
import Derived.Test.YthppbcnejapbiaaStrs
namespace Go.Proofs.Ythppbcnejapbiaa.SplitAny
open Go.ChangeShapes Go.WideShapes Go.ChangeAt Go.RowKit
open Go.ChangeMaps (open_string shut_string)
open Strs (Holds holds_of_own holds_below eq_any mark_all held_all marks marks_length own_below)
set_option linter.unusedVariables false

theorem parts_len (s b : ByteArray) : (parts s b).length ≤ s.size + 1 := by
  have := (cutL_le s b s.size).1
  simp [parts]; omega
/-- Two rows, the second one laid behind the first one's world, lie in two blocks. -/
theorem own_apart {w w1 w2 : World} {base0 : Nat} {e : TypeId} {v0 v1 : Value} {n0 n1 : Nat} {xs0 xs1 : List Value} (h0 : w1.ownsRow base0 e 1 v0 n0 xs0) (h1 : w2.ownsRow w1.heap.size e 1 v1 n1 xs1) : v0.ownBlock = none ∨ v0.ownBlock ≠ v1.ownBlock := by
  cases hv : v0.ownBlock with
  | none => exact .inl rfl
  | some k =>
    refine .inr fun hh => ?_
    have := (h0.lt k hv).2
    have := (h1.lt k hh.symm).1
    omega

end Go.Proofs.Ythppbcnejapbiaa.SplitAny
