/- Contracts and plain facts that a law of this seat leans on. Conditions: as each theorem types them. -/
import Derived.Test.YtjefefedhhloiaaGreatDoorAclI
namespace Go.Proofs.YtjefefedhhloiaaGreatDoor.AclQ
open Go.ChangeShapes Go.WideShapes Go.ChangeAt Go.RowKit
open AclV AclS AclB
open Strs (ret_int)
set_option linter.unusedVariables false

def res (x : Int × Bool) : Ending := .returned (.tuple #[.int .i64 x.1, .bool x.2])
/-- The first k entries are not asked for. -/
def NoneTo (l : List At) (p : At → Bool) (k : Nat) : Prop := ∀ i, i < k → p (l.getD i a0) = false
theorem none_zero (l : List At) (p : At → Bool) : NoneTo l p 0 := fun i h => absurd h (Nat.not_lt_zero _)
theorem none_succ {l : List At} {p : At → Bool} {k : Nat} (h : NoneTo l p k) (hk : p (l.getD k a0) = false) : NoneTo l p (k + 1) := fun i hi => by
  rcases Nat.lt_or_ge i k with hji | hji
  · exact h i hji
  · rw [show i = k from by omega]; exact hk
theorem none_all {l : List At} {p : At → Bool} (h : NoneTo l p l.length) : l.find? p = none := by
  have := find_none l p l.length (Nat.le_refl _) h
  rwa [List.take_length] at this
theorem perm_none {l : List At} {t i : Int} (h : NoneTo l (fun x => forB x t i) l.length) : permV l t i = (0, false) := by
  have := none_all h
  unfold permV
  unfold forB at this
  rw [this]
theorem perm_at {l : List At} {t i : Int} {k : Nat} (hk : k < l.length) (h : NoneTo l (fun x => forB x t i) k) (hp : forB (l.getD k a0) t i = true) : permV l t i = ((l.getD k a0).2.2, true) := by
  have := find_at l (fun x => forB x t i) k hk h hp
  unfold permV
  unfold forB at this
  rw [this]
theorem mask_none {l : List At} (h : NoneTo l (fun x => decide (x.1 = 3)) l.length) : maskV l = 7 := by
  unfold maskV
  rw [none_all h]
theorem mask_at {l : List At} {k : Nat} (hk : k < l.length) (h : NoneTo l (fun x => decide (x.1 = 3)) k) (hp : decide ((l.getD k a0).1 = 3) = true) : maskV l = (l.getD k a0).2.2 := by
  unfold maskV
  rw [find_at l (fun x => decide (x.1 = 3)) k hk h hp]


end Go.Proofs.YtjefefedhhloiaaGreatDoor.AclQ
