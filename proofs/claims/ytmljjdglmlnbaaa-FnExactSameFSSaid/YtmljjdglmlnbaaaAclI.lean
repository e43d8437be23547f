/- Contracts and plain facts that a law of this seat leans on. Conditions: as each theorem types them. -/
import Derived.Test.YtmljjdglmlnbaaaAclB
import Derived.Test.YtmljjdglmlnbaaaAe
import Derived.Test.YtmljjdglmlnbaaaFam
namespace Go.Proofs.Ytmljjdglmlnbaaa.AclI
open Go.ChangeShapes Go.WideShapes Go.ChangeAt Go.RowKit
open AclV AclS AclB
open Dk (ret_bool blk_new)
open Strs (below_of_drew)
set_option linter.unusedVariables false

theorem not_ok {l : List At} {k : Nat} (hk : k < l.length) (h : upB l (k + 1) = false) : okB l = false := by
  cases h2 : okB l
  · rfl
  · have := upB_mono (ok_up h2) (show k + 1 ≤ l.length from hk)
    rw [h] at this; cases this
theorem ok_zero {l : List At} (h : l.length = 0) : okB l = true := by
  obtain rfl := List.eq_nil_of_length_eq_zero h
  rfl
theorem ok_last {l : List At} {p : Nat} (h : l.length = p + 1) (hu : upB l (p + 1) = true) : okB l = (decide (p + 1 ≤ 6) && decide ((l.getD p a0).1 = 3)) := by
  unfold okB
  rw [h, hu, Bool.true_and]
  cases l with
  | nil => simp at h
  | cons _ _ => simp
theorem ok_long {l : List At} (h : 6 < l.length) : okB l = false := by
  cases h2 : okB l
  · rfl
  · have := ok_len h2; omega
theorem up_zero {l : List At} (h : entB (l.getD 0 a0) = true) : upB l 1 = true := by
  rw [upB_succ, h]; rfl
theorem up_next {l : List At} {p : Nat} (hu : upB l (p + 1) = true) (h : entB (l.getD (p + 1) a0) = true) (h2 : ltB (l.getD p a0) (l.getD (p + 1) a0) = true) : upB l (p + 1 + 1) = true := by
  rw [upB_succ, hu, h, Nat.add_sub_cancel, h2]; simp
theorem up_no_ent {l : List At} {k : Nat} (h : entB (l.getD k a0) = false) : upB l (k + 1) = false := by
  rw [upB_succ, h]; simp
theorem up_no_lt {l : List At} {p : Nat} (h2 : ltB (l.getD p a0) (l.getD (p + 1) a0) = false) : upB l (p + 1 + 1) = false := by
  rw [upB_succ, Nat.add_sub_cancel, h2]; simp

end Go.Proofs.Ytmljjdglmlnbaaa.AclI
