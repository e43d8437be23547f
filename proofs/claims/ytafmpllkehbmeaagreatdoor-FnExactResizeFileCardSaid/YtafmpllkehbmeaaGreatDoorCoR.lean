/- Contract: the program's renew allocates another block for each chosen one of a window of a row of ints. Conditions: as the theorem types them. -/
import Derived.Test.YtafmpllkehbmeaaGreatDoorFsD
import Derived.Test.YtafmpllkehbmeaaGreatDoorCoN
import Derived.Test.YtafmpllkehbmeaaGreatDoorFsZr
import Derived.Test.YtafmpllkehbmeaaGreatDoorFoB
namespace Go.Proofs.YtafmpllkehbmeaaGreatDoor.CoR
open Go.ChangeShapes Go.WideShapes Go.ChangeAt Go.RowKit
open Foot Bx
open FsY FsZ FoB
open FsV (pick)
open FsC (poolV pairV)
open MpB (Is)
set_option linter.unusedVariables false

theorem ret_int {a b : Int} (h : a = b) : Ending.returned (.int .i64 a) = .returned (.int .i64 b) := by rw [h]
theorem drop_get {l : List Int} {j : Nat} (h : j < l.length) : l.drop j = l.getD j 0 :: l.drop (j + 1) := by
  rw [List.drop_eq_getElem_cons h, getD_at h]
/-- The row while it goes on. -/
def mid (l0 : List Int) (o : Nat) (pre : List Int) : List Int := l0.take o ++ pre ++ l0.drop (o + pre.length)
theorem mid_zero (l0 : List Int) (o : Nat) : mid l0 o [] = l0 := by simp [mid]
theorem mid_len {l0 pre : List Int} {o : Nat} (h : o + pre.length ≤ l0.length) : (mid l0 o pre).length = l0.length := by
  simp only [mid, List.length_append, List.length_take, List.length_drop]; omega
theorem mid_at {l0 pre : List Int} {o : Nat} (h : o + pre.length < l0.length) : (mid l0 o pre)[o + pre.length]? = some (l0.getD (o + pre.length) 0) := by
  rw [mid, List.getElem?_append_right (by rw [List.length_append, List.length_take]; omega), List.length_append, List.length_take, List.getElem?_drop, show o + pre.length + (o + pre.length - (min o l0.length + pre.length)) = o + pre.length from by omega, List.getElem?_eq_getElem h, getD_at h]
theorem mid_set {l0 pre : List Int} {o : Nat} (x : Int) (h : o + pre.length < l0.length) : (mid l0 o pre).set (o + pre.length) x = mid l0 o (pre ++ [x]) := by
  have h1 : (l0.take o ++ pre).length = o + pre.length := by rw [List.length_append, List.length_take]; omega
  rw [mid, mid, List.set_append_right _ _ (by omega), h1, Nat.sub_self, List.drop_eq_getElem_cons h, List.set_cons_zero, List.length_append]
  simp [List.append_assoc]; rfl
theorem mid_skip {l0 pre : List Int} {o : Nat} (h : o + pre.length < l0.length) : mid l0 o pre = mid l0 o (pre ++ [l0.getD (o + pre.length) 0]) := by
  rw [← mid_set _ h]
  refine (List.ext_getElem? fun j => ?_)
  rw [List.getElem?_set]
  split
  · rename_i e
    subst e
    rw [mid_at h, if_pos (by rw [mid_len (by omega)]; exact h)]
  · rfl

end Go.Proofs.YtafmpllkehbmeaaGreatDoor.CoR
