/- Plain facts on the model's writing block by block, its allocations on the way included: what is done so far and the file system as it stands then. Conditions: as each theorem types them. -/
import Derived.Test.YtafmpllkehbmeaaGreatDoorFsZr
import Derived.Test.YtafmpllkehbmeaaGreatDoorCoR
namespace Go.Proofs.YtafmpllkehbmeaaGreatDoor.FsWm
open InoV (I okI usedV hasB needV)
open FsV FsX FsY FsZ FsZw
open CoR (mid mid_zero mid_len mid_at mid_set mid_skip)
set_option linter.unusedVariables false

/-- While holes of a row are being filled: l0 the row, o where the window begins, 'pre' what its first blocks have become; us what is in use in the whole file system. -/
structure Fil (u : Nat) (us l0 : List Int) (o : Nat) (pre : List Int) : Prop where
  fit : o + pre.length ≤ l0.length
  old : ∀ t (h : t < pre.length), l0.getD (o + t) 0 ≠ -1 → pre[t] = l0.getD (o + t) 0
  new : ∀ t (h : t < pre.length), l0.getD (o + t) 0 = -1 → ∃ k, k < 14 ∧ pre[t] = ((14 * u + k : Nat) : Int) ∧ pre[t] ∉ us
  one : ∀ t t' (h : t < pre.length) (h' : t' < pre.length), t < t' → l0.getD (o + t) 0 = -1 → l0.getD (o + t') 0 = -1 → pre[t] ≠ pre[t']
theorem usedV_of {bs : List Int} {z : Int} : z ∈ usedV bs ↔ z ∈ bs ∧ z ≠ -1 := by rw [usedV, List.mem_filter]; simp
end Go.Proofs.YtafmpllkehbmeaaGreatDoor.FsWm
