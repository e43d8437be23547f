/- A part. -/
import Derived.Test.YthppbcnejapbiaaGreatDoorPutNumber
import Derived.Test.YthppbcnejapbiaaGreatDoorAclV
import Derived.Test.YthppbcnejapbiaaGreatDoorDkAt
import Derived.Deep.RegionHeld3
namespace Go.Proofs.YthppbcnejapbiaaGreatDoor.AclS
open Go.ChangeShapes Go.WideShapes Go.ChangeAt Go.RowKit
open AclV
open Dk (ret_bool blk_new)
set_option linter.unusedVariables false
theorem perm_any (n : Int) (w : World) :
  Calls Tryz.prog 184 #[.int .i64 n] w fun e w' => e = .returned (.bool (decide (0 <= n) && decide (n <= 7))) /\ w = w' := by
 by_cases h1 : 0 <= n
 ·go_enter Tryz.func184, Tryz.ntmps184
  go_wp2
  go_ret
  exact ⟨ret_bool (by simp [h1]), rfl⟩
 ·have hd : decide (0 <= n) = false := decide_eq_false h1
  go_enter Tryz.func184, Tryz.ntmps184
  go_wp2
  go_ret
  exact ⟨ret_bool (by simp), rfl⟩
theorem user_any (n : Int) (w : World) :
  Calls Tryz.prog 181 #[.int .i64 n] w fun e w' => e = .returned (.bool (decide (0 <= n) && decide (n <= 3))) /\ w = w' := by
 by_cases h1 : 0 <= n
 ·go_enter Tryz.func181, Tryz.ntmps181
  go_wp2
  go_ret
  exact ⟨ret_bool (by simp [h1]; omega), rfl⟩
 ·have hd : decide (0 <= n) = false := decide_eq_false h1
  go_enter Tryz.func181, Tryz.ntmps181
  go_wp2
  go_ret
  exact ⟨ret_bool (by simp), rfl⟩
theorem in_any (n lo hi : Int) (w : World) :
  Calls Tryz.prog 103 #[.int .i64 n, .int .i64 lo, .int .i64 hi] w fun e w' => e = .returned (.bool (decide (lo <= n) && decide (n <= hi))) /\ w = w' := by
 by_cases h : lo <= n /\ n <= hi
 ·refine (PutNumber.in_yes n lo hi w h.1 h.2).mono ?_
  rintro e w' ⟨rfl, rfl⟩
  exact ⟨ret_bool (by simp [h.1, h.2]), rfl⟩
 ·refine (PutNumber.in_no n lo hi w (by omega)).mono ?_
  rintro e w' ⟨rfl, rfl⟩
  exact ⟨ret_bool (by simp; omega), rfl⟩
def forB (x : At) (t i : Int) : Bool := decide (x.1 = t) && decide (x.2.1 = i)
set_option maxRecDepth 100000 in
theorem for_any (x : At) (t i : Int) (w : World) :
  Calls Tryz.prog 237 #[.agg #[.int .i64 x.1, .int .i64 x.2.1, .int .i64 x.2.2], .int .i64 t, .int .i64 i] w fun e w' => e = .returned (.bool (forB x t i)) /\ Below w.heap.size w w' := by
 obtain ⟨n0, n1, n2⟩ := x
 dsimp only
 go_enter Tryz.func237, Tryz.ntmps237
 go_wp2
 all_goals
  go_ret
  exact ⟨ret_bool (by simp_all [forB]), (Below.refl w.heap.size w).alloc (Nat.le_refl _) _⟩
def cmpV (a b : Int) : Int := if a < b then -1 else if b < a then 1 else 0
theorem nan_any (a : Int) (w : World) :
  Calls Tryz.prog 251 #[.int .i64 a] w fun e w' => e = .returned (.bool false) /\ w = w' := by
 go_enter Tryz.func251, Tryz.ntmps251
 go_wp2
 go_ret
 exact ⟨ret_bool (by simp), rfl⟩
theorem cmp_any (a b : Int) (w : World) :
  Calls Tryz.prog 239 #[.int .i64 a, .int .i64 b] w fun e w' => e = .returned (.int .i64 (cmpV a b)) /\ w = w' := by
 have H := Lib.hid (fun a w => nan_any a w)
 have HV := Lib.hid (show cmpV a b = if a < b then -1 else if b < a then 1 else 0 from rfl)
 generalize cmpV a b = c at HV ⊢
 by_cases h1 : a < b
 ·go_enter Tryz.func239, Tryz.ntmps239
  go_wp2_with fail
  refine (H.out _ _).mono ?_
  rintro e wq ⟨rfl, rfl⟩
  go_wp2_with fail
  refine (H.out _ _).mono ?_
  rintro e wq ⟨rfl, rfl⟩
  go_wp2
  go_ret
  exact ⟨Strs.ret_int (by rw [HV.out]; split <;> (try split) <;> omega), rfl⟩
 ·have hd : decide (a < b) = false := decide_eq_false h1
  by_cases h2 : b < a
  ·go_enter Tryz.func239, Tryz.ntmps239
   go_wp2_with fail
   refine (H.out _ _).mono ?_
   rintro e wq ⟨rfl, rfl⟩
   go_wp2_with fail
   refine (H.out _ _).mono ?_
   rintro e wq ⟨rfl, rfl⟩
   go_wp2
   go_ret
   exact ⟨Strs.ret_int (by rw [HV.out]; split <;> (try split) <;> omega), rfl⟩
  ·have hd2 : decide (b < a) = false := decide_eq_false h2
   go_enter Tryz.func239, Tryz.ntmps239
   go_wp2_with fail
   refine (H.out _ _).mono ?_
   rintro e wq ⟨rfl, rfl⟩
   go_wp2_with fail
   refine (H.out _ _).mono ?_
   rintro e wq ⟨rfl, rfl⟩
   go_wp2
   go_ret
   exact ⟨Strs.ret_int (by rw [HV.out]; split <;> (try split) <;> omega), rfl⟩
set_option maxRecDepth 100000 in
theorem or_any (a b : Int) (g : Nat) (w : World) (ha : w.cell? ⟨g, 0, none⟩ = some (.int .i64 a)) (hb : w.cell? ⟨g, 1, none⟩ = some (.int .i64 b)) :
  Calls Tryz.prog 238 #[.slice (some ⟨g, 0, none⟩) 2 2] w fun e w' => e = .returned (.int .i64 (if a = 0 then b else a)) /\ w = w' := by
 by_cases h1 : a = 0
 ·subst h1
  by_cases h2 : b = 0
  ·subst h2
   go_enter Tryz.func238, Tryz.ntmps238
   go_wp2
   refine wp_loop_rounds 3 ?_
   rw [rounds_succ]
   go_wp2
   rw [rounds_succ]
   go_wp2
   rw [rounds_succ]
   go_wp2
   go_ret
   exact ⟨rfl, rfl⟩
  ·have h3 : (b == 0) = false := beq_eq_false_iff_ne.2 h2
   go_enter Tryz.func238, Tryz.ntmps238
   go_wp2
   refine wp_loop_rounds 2 ?_
   rw [rounds_succ]
   go_wp2
   rw [rounds_succ]
   go_wp2
   go_ret
   exact ⟨rfl, rfl⟩
 ·have h3 : (a == 0) = false := beq_eq_false_iff_ne.2 h1
  go_enter Tryz.func238, Tryz.ntmps238
  go_wp2
  refine wp_loop_rounds 1 ?_
  rw [rounds_succ]
  go_wp2
  go_ret
  exact ⟨Strs.ret_int (by first | rfl | rw [if_neg h1]), rfl⟩
end Go.Proofs.YthppbcnejapbiaaGreatDoor.AclS
