/- A part. -/
import Derived.Test.YthppbcnejapbiaaGreatDoorPutNumber
import Derived.BigQuiet
namespace Go.Proofs.YthppbcnejapbiaaGreatDoor.GetNumber
set_option maxHeartbeats 400000
set_option maxRecDepth 100000
open Go.ChangeShapes Go.WideShapes Go.ChangeAt Go.RowKit
open Nums
open PutNumber (in_yes in_no width_yes width_no)
set_option linter.unusedVariables false
def seg (s : ByteArray) (a k : Nat) : List UInt8 := (s.data.toList.drop a).take k
theorem seg_zero (s : ByteArray) (a : Nat) : getL (seg s a 0) = 0 := by simp [seg, getL]
theorem seg_succ (s : ByteArray) (a k : Nat) (h : a + k < s.size) : seg s a (k + 1) = seg s a k ++ [s[a + k]] := by
 unfold seg
 rw [List.take_succ_eq_append_getElem (by simp; omega)]
 simp only [List.getElem_drop]
 rfl
theorem seg_lt (s : ByteArray) (a k : Nat) (h : k <= 5) : getL (seg s a k) < 1099511627776 := by
 have h1 := getL_lt (seg s a k)
 have h2 : (seg s a k).length <= k := List.length_take_le _ _
 have h3 : 256 ^ (seg s a k).length <= 256 ^ 5 := Nat.pow_le_pow_right (by omega) (by omega)
 omega
def liesB (s : ByteArray) (a width : Int) : Bool := decide (1 <= width) && decide (width <= 6) && decide (0 <= a) && decide (a <= s.size - width)
def gotV (s : ByteArray) (a width : Int) : Ending :=
 if liesB s a width = true then .returned (.tuple #[.int .i64 (getL (seg s a.toNat width.toNat)), .bool true]) else .returned (.tuple #[.int .i64 0, .bool false])
theorem got_yes (s : ByteArray) (a width : Nat) (h1 : 1 <= width) (h2 : width <= 6) (h : a + width <= s.size) : gotV s a width = .returned (.tuple #[.int .i64 (getL (seg s a width)), .bool true]) := by
 rw [gotV, if_pos (by simp [liesB]; omega)]; rfl
theorem got_no {s : ByteArray} {a width : Int} (h : width < 1 \/ 6 < width \/ a < 0 \/ s.size - width < a) : gotV s a width = .returned (.tuple #[.int .i64 0, .bool false]) := by
 rw [gotV, if_neg (by simp [liesB]; omega)]
theorem spec_yes (s : ByteArray) (a width : Nat) (w : World) (hs : s.size <= 1048576) (h1 : 1 <= width) (h2 : width <= 6) (h : a + width <= s.size) :
  Calls Tryz.prog 102 #[.string s, .int .i64 a, .int .i64 width] w fun e w' => e = .returned (.tuple #[.int .i64 (getL (seg s a width)), .bool true]) /\ w = w' := by
 go_enter Tryz.func102, Tryz.ntmps102
 go_wp2_with fail
 refine (in_yes _ 1 6 _ (by omega) (by omega)).mono ?_
 rintro e w1 ⟨rfl, rfl⟩
 go_wp2_with fail
 go_loop [8, 9] (fun nv iv => ∃ k : Nat, k <= width /\ nv = .int .i64 (getL (seg s a k)) /\ iv = .int .i64 k) (fun _ iv => width - (intOf iv).toNat)
 case atStart => exact ⟨0, by omega, by rw [seg_zero]; rfl, rfl⟩
 case round =>
  obtain ⟨k, hk, rfl, rfl⟩ := hrel
  by_cases hlt : k < width
  ·have HS := Lib.hid (seg_succ s a k (by omega))
   have hg := seg_lt s a k (by omega)
   have hb := s[a + k].toNat_lt
   have hin : a + k < s.size := by omega
   generalize hq : getL (seg s a k) = q at hg ⊢
   have HQ := Lib.hid hq
   clear hq
   go_wp2_with fail
   go_round
   case rel => exact ⟨k + 1, by omega, by rw [HS.out, getL_snoc, HQ.out]; go_num, by go_num⟩
   case measure => simp [intOf]; omega
  ·obtain rfl : k = width := by omega
   go_wp2_with fail
   go_ret2
   exact ⟨rfl, rfl⟩
theorem impl_yes (s : ByteArray) (a width : Nat) (w : World) (hs : s.size <= 1048576) (h1 : 1 <= width) (h2 : width <= 6) (h : a + width <= s.size) :
  Calls Tryz.prog 146 #[.string s, .int .i64 a, .int .i64 width] w fun e w' => e = .returned (.tuple #[.int .i64 (getL (seg s a width)), .bool true]) /\ w = w' := by
 go_enter Tryz.func146, Tryz.ntmps146
 go_wp2_with fail
 refine (width_yes _ _ (by omega) (by omega)).mono ?_
 rintro e w1 ⟨rfl, rfl⟩
 go_wp2_with fail
 go_loop [8, 26] (fun nv iv => ∃ k : Nat, k <= width /\ nv = .int .i64 (getL (seg s a k)) /\ iv = .int .i64 k) (fun _ iv => width - (intOf iv).toNat)
 case atStart => exact ⟨0, by omega, by rw [seg_zero]; rfl, rfl⟩
 case round =>
  obtain ⟨k, hk, rfl, rfl⟩ := hrel
  by_cases hlt : k < width
  ·have HS := Lib.hid (seg_succ s a k (by omega))
   have hg := seg_lt s a k (by omega)
   have hb := s[a + k].toNat_lt
   have hin : a + k < s.size := by omega
   generalize hq : getL (seg s a k) = q at hg ⊢
   have HQ := Lib.hid hq
   clear hq
   have HJ := Lib.hid (i64_join (q * 256) s[a + k].toNat (by omega) hb (by omega))
   go_wp2_with fail
   go_round
   case rel => exact ⟨k + 1, by omega, by rw [HS.out, getL_snoc, HQ.out, <- HJ.out]; first | rfl | go_num, by go_num⟩
   case measure => simp [intOf]; omega
  ·obtain rfl : k = width := by omega
   go_wp2_with fail
   go_ret2
   exact ⟨rfl, rfl⟩
theorem spec_any (s : ByteArray) (a width : Int) (w : World) (hs : s.size <= 1048576) (hl : -9223372036854775808 <= width) (hh : width <= 9223372036854775807) :
  Calls Tryz.prog 102 #[.string s, .int .i64 a, .int .i64 width] w fun e w' => e = gotV s a width /\ w = w' := by
 by_cases hw : width < 1 \/ 6 < width
 ·rw [got_no (by omega)]
  have HW := Lib.hid hw
  clear hw hl hh
  go_enter Tryz.func102, Tryz.ntmps102
  go_wp2_with fail
  refine (in_no _ 1 6 _ HW.out).mono ?_
  rintro e w1 ⟨rfl, rfl⟩
  go_wp2_with fail
  go_ret2
  exact ⟨rfl, rfl⟩
 ·by_cases ha : a < 0
  ·rw [got_no (by omega)]
   have hd : decide (a < 0) = true := by simp; omega
   have hw1 : 1 <= width := by omega
   have hw2 : width <= 6 := by omega
   clear hw
   go_enter Tryz.func102, Tryz.ntmps102
   go_wp2_with fail
   refine (in_yes _ 1 6 _ (by omega) (by omega)).mono ?_
   rintro e w1 ⟨rfl, rfl⟩
   go_wp2_with fail
   go_ret2
   exact ⟨rfl, rfl⟩
  ·by_cases hb : a <= s.size - width
   ·obtain ⟨A, rfl⟩ := Int.eq_ofNat_of_zero_le (show 0 <= a by omega)
    obtain ⟨K, rfl⟩ := Int.eq_ofNat_of_zero_le (show 0 <= width by omega)
    rw [got_yes s A K (by omega) (by omega) (by omega)]
    exact spec_yes s A K w hs (by omega) (by omega) (by omega)
   ·rw [got_no (by omega)]
    have hw1 : 1 <= width := by omega
    have hw2 : width <= 6 := by omega
    have ha0 : 0 <= a := by omega
    have hgt : s.size - width < a := by omega
    clear hw ha hb
    go_enter Tryz.func102, Tryz.ntmps102
    go_wp2_with fail
    refine (in_yes _ 1 6 _ (by omega) (by omega)).mono ?_
    rintro e w1 ⟨rfl, rfl⟩
    go_wp2_with fail
    go_ret2
    exact ⟨rfl, rfl⟩
theorem impl_any (s : ByteArray) (a width : Int) (w : World) (hs : s.size <= 1048576) (hl : -9223372036854775808 <= width) (hh : width <= 9223372036854775807) :
  Calls Tryz.prog 146 #[.string s, .int .i64 a, .int .i64 width] w fun e w' => e = gotV s a width /\ w = w' := by
 by_cases hw : width < 1 \/ 6 < width
 ·rw [got_no (by omega)]
  have HW := Lib.hid hw
  clear hw hl hh
  go_enter Tryz.func146, Tryz.ntmps146
  go_wp2_with fail
  refine (width_no _ _ HW.out).mono ?_
  rintro e w1 ⟨rfl, rfl⟩
  go_wp2_with fail
  go_ret2
  exact ⟨rfl, rfl⟩
 ·by_cases ha : a < 0
  ·rw [got_no (by omega)]
   have hd : decide (a < 0) = true := by simp; omega
   have hw1 : 1 <= width := by omega
   have hw2 : width <= 6 := by omega
   clear hw
   go_enter Tryz.func146, Tryz.ntmps146
   go_wp2_with fail
   refine (width_yes _ _ (by omega) (by omega)).mono ?_
   rintro e w1 ⟨rfl, rfl⟩
   go_wp2_with fail
   go_ret2
   exact ⟨rfl, rfl⟩
  ·by_cases hb : a <= s.size - width
   ·obtain ⟨A, rfl⟩ := Int.eq_ofNat_of_zero_le (show 0 <= a by omega)
    obtain ⟨K, rfl⟩ := Int.eq_ofNat_of_zero_le (show 0 <= width by omega)
    rw [got_yes s A K (by omega) (by omega) (by omega)]
    exact impl_yes s A K w hs (by omega) (by omega) (by omega)
   ·rw [got_no (by omega)]
    have hw1 : 1 <= width := by omega
    have hw2 : width <= 6 := by omega
    have ha0 : 0 <= a := by omega
    have hgt : s.size - width < a := by omega
    clear hw ha hb
    go_enter Tryz.func146, Tryz.ntmps146
    go_wp2_with fail
    refine (width_yes _ _ (by omega) (by omega)).mono ?_
    rintro e w1 ⟨rfl, rfl⟩
    go_wp2_with fail
    go_ret2
    exact ⟨rfl, rfl⟩
end Go.Proofs.YthppbcnejapbiaaGreatDoor.GetNumber
