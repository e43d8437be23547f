/- A part. -/
import Derived.Test.YthppbcnejapbiaaGreatDoorKit
import Derived.Test.YthppbcnejapbiaaGreatDoorRowG
import Derived.Test.YthppbcnejapbiaaGreatDoorNums
import Derived.BigQuiet
namespace Go.Proofs.YthppbcnejapbiaaGreatDoor.PutNumber
set_option maxHeartbeats 400000
set_option maxRecDepth 100000
open Go.ChangeShapes Go.WideShapes Go.ChangeAt Go.RowKit
open Nums RowG
set_option linter.unusedVariables false
theorem in_yes (n lo hi : Int) (w : World) (h1 : lo <= n) (h2 : n <= hi) :
  Calls Tryz.prog 103 #[.int .i64 n, .int .i64 lo, .int .i64 hi] w fun e w' => e = .returned (.bool true) /\ w = w' := by
 go_enter Tryz.func103, Tryz.ntmps103
 go_wp2
 go_ret
 exact ⟨rfl, rfl⟩
theorem in_no (n lo hi : Int) (w : World) (h : n < lo \/ hi < n) :
  Calls Tryz.prog 103 #[.int .i64 n, .int .i64 lo, .int .i64 hi] w fun e w' => e = .returned (.bool false) /\ w = w' := by
 by_cases h1 : n < lo
 ·have hd : decide (lo <= n) = false := by simp; omega
  clear h
  go_enter Tryz.func103, Tryz.ntmps103
  go_wp2
  go_ret
  exact ⟨rfl, rfl⟩
 ·have h2 : decide (n <= hi) = false := by simp; omega
  have h3 : lo <= n := by omega
  clear h
  go_enter Tryz.func103, Tryz.ntmps103
  go_wp2
  go_ret
  exact ⟨rfl, rfl⟩
theorem width_yes (n : Int) (w : World) (h1 : 1 <= n) (h2 : n <= 6) :
  Calls Tryz.prog 164 #[.int .i64 n] w fun e w' => e = .returned (.bool true) /\ w = w' := by
 go_enter Tryz.func164, Tryz.ntmps164
 go_wp2
 go_ret
 exact ⟨rfl, rfl⟩
theorem width_no (n : Int) (w : World) (h : n < 1 \/ 6 < n) :
  Calls Tryz.prog 164 #[.int .i64 n] w fun e w' => e = .returned (.bool false) /\ w = w' := by
 by_cases h1 : n < 1
 ·have hd : decide (1 <= n) = false := by simp; omega
  clear h
  go_enter Tryz.func164, Tryz.ntmps164
  go_wp2
  go_ret
  exact ⟨rfl, rfl⟩
 ·have h2 : decide (n <= 6) = false := by simp; omega
  have h3 : 1 <= n := by omega
  clear h
  go_enter Tryz.func164, Tryz.ntmps164
  go_wp2
  go_ret
  exact ⟨rfl, rfl⟩
theorem made (n width : Nat) : (madeCells (Value.int IntKind.u8 0).cells (width * 1)).toList = cellsB (partL n width 0) := by
 rw [partL_zero]
 simp [madeCells, cellsB, Value.cells, Nat.mod_one, List.map_const']
theorem own_set {w : World} {base g n width j q : Nat} (h : w.ownsRow base 5 1 (.slice (some ⟨g, 0, none⟩) width width) width (cellsB (partL n width j))) (hj : j < width) (k : Nat) (hk : k = width - 1 - j) (hq : q = n / 256 ^ j) :
  (w.setCell ⟨g, k, none⟩ (.int .u8 ((q : Int) % 256))).ownsRow base 5 1 (.slice (some ⟨g, 0, none⟩) width width) width (cellsB (partL n width (j + 1))) := by
 subst hk
 subst hq
 have h2 := (h.stored (width - 1 - j) (.int .u8 (((byteN n j).toNat : Nat) : Int))).1
 rw [cellsB_set, partL_set n width j hj, byteN_toNat] at h2
 exact h2
theorem own_cell {w : World} {base g n width j k : Nat} (h : w.ownsRow base 5 1 (.slice (some ⟨g, 0, none⟩) width width) width (cellsB (partL n width j))) (hj : j <= width) (hk : k < width) :
  (∃ x, w.cell? ⟨g, k, none⟩ = some x) /\ w.frozen? ⟨g, k, none⟩ = false := by
 refine ⟨?_, h.frozenAt k⟩
 rw [h.cellAt k (by omega)]
 exact ⟨_, List.getElem?_eq_getElem (by rw [cellsB_length, partL_length _ _ _ hj]; exact hk)⟩
theorem spec_yes (n width : Nat) (w : World) (h1 : 1 <= width) (h2 : width <= 6) (hn : n < 256 ^ width) :
  Calls Tryz.prog 150 #[.int .i64 n, .int .i64 width] w fun e w' => e = .returned (.string ⟨(lowL n width).toArray⟩) /\ Below w.heap.size w w' := by
 obtain ⟨i0, hi, hz0, hz1, hz2⟩ := info_parts byteInfo
 have hp := pow_le width h2
 have hw : (n : Int) < wrap64 (2 ^ (8 * width)) := by rw [wrap_pow8 width h2]; omega
 have hn0 : n < 281474976710656 := by omega
 clear hp hn
 go_enter Tryz.func150, Tryz.ntmps150
 go_wp2_with fail
 refine (in_yes _ 1 6 _ (by omega) (by omega)).mono ?_
 rintro e w1 ⟨rfl, rfl⟩
 go_wp2_with (refine wpList_make_full _ rfl _ _ 118 rfl w.heap.size 5 i0 (.int .u8 0) 1 Tryz.underlying118 hi hz0 hz1 .i64 .i64 _ _ width rfl rfl rfl rfl (by rw [hz2]; omega) (by unfold maxLen; omega) (Nat.le_refl _) ?_; intro w1 hown hgr)
 rw [made n] at hown
 have HOWN := Lib.hid hown
 have HB := Lib.hid ((Below.refl w.heap.size w).grown hgr (Nat.le_refl _) (fun k hk => by cases hk))
 clear hown hgr hw
 go_wp2_with fail
 go_loopw [0, 6] (fun nv iv wr => ∃ j d : Nat, j + d = width /\ nv = .int .i64 ((n / 256 ^ j : Nat) : Int) /\ iv = .int .i64 ((d : Int) - 1) /\ wr.ownsRow w.heap.size 5 1 (.slice (some ⟨w.heap.size, 0, none⟩) width width) width (cellsB (partL n width j)) /\ Below w.heap.size w wr) (fun _ iv _ => (intOf iv + 1).toNat)
 case atStart => exact ⟨0, width, by omega, by simp, rfl, HOWN.out, HB.out⟩
 case round =>
  clear HOWN HB
  obtain ⟨j, d, hjd, rfl, rfl, hown, hb⟩ := hrel
  have HOWN := Lib.hid hown
  have HB := Lib.hid hb
  clear hown hb
  have hq0 : n / 256 ^ j <= n := Nat.div_le_self _ _
  have HD := Lib.hid (div_step n j)
  have HQ := Lib.hid (show n / 256 ^ j = n / 256 ^ j from rfl)
  generalize hq : n / 256 ^ j = q at hq0 HD ⊢
  have HQ := Lib.hid hq
  clear hq
  by_cases hd : d = 0
  ·subst hd
   obtain rfl : j = width := by omega
   have hbk := back_own HOWN.out
   rw [partL_all] at hbk
   go_wp2_with fail
   go_ret
   exact ⟨rfl, HB.out⟩
  ·obtain ⟨k, rfl⟩ : ∃ k, d = k + 1 := ⟨d - 1, by omega⟩
   rw [show (((k + 1 : Nat) : Int) - 1) = (k : Int) from by omega]
   obtain ⟨⟨x, hc⟩, hf⟩ := own_cell (k := k) HOWN.out (by omega) (by omega)
   go_wp2_with fail
   go_roundw
   case rel => exact ⟨j + 1, k, by omega, by rw [<- HD.out]; rfl, by go_num, own_set HOWN.out (by omega) k (by omega) HQ.out.symm, HB.out.setCell (Nat.le_refl _) _⟩
   case measure => simp [intOf]
theorem impl_yes (n width : Nat) (w : World) (h1 : 1 <= width) (h2 : width <= 6) (hn : n < 256 ^ width) :
  Calls Tryz.prog 125 #[.int .i64 n, .int .i64 width] w fun e w' => e = .returned (.string ⟨(lowL n width).toArray⟩) /\ Below w.heap.size w w' := by
 obtain ⟨i0, hi, hz0, hz1, hz2⟩ := info_parts byteInfo
 have hp := pow_le width h2
 have hw := fits_bne n width hn
 have hn0 : n < 281474976710656 := by omega
 clear hp hn
 go_enter Tryz.func125, Tryz.ntmps125
 go_wp2_with fail
 refine (width_yes _ _ (by omega) (by omega)).mono ?_
 rintro e w1 ⟨rfl, rfl⟩
 go_wp2_with (refine wpList_make_full _ rfl _ _ 118 rfl w.heap.size 5 i0 (.int .u8 0) 1 Tryz.underlying118 hi hz0 hz1 .i64 .i64 _ _ width rfl rfl rfl rfl (by rw [hz2]; omega) (by unfold maxLen; omega) (Nat.le_refl _) ?_; intro w1 hown hgr)
 rw [made n] at hown
 have HOWN := Lib.hid hown
 have HB := Lib.hid ((Below.refl w.heap.size w).grown hgr (Nat.le_refl _) (fun k hk => by cases hk))
 clear hown hgr hw
 go_wp2_with fail
 go_loopw [25] (fun iv wr => ∃ j : Nat, j <= width /\ iv = .int .i64 j /\ wr.ownsRow w.heap.size 5 1 (.slice (some ⟨w.heap.size, 0, none⟩) width width) width (cellsB (partL n width j)) /\ Below w.heap.size w wr) (fun iv _ => width - (intOf iv).toNat)
 case atStart => exact ⟨0, by omega, rfl, HOWN.out, HB.out⟩
 case round =>
  clear HOWN HB
  obtain ⟨j, hj, rfl, hown, hb⟩ := hrel
  have HOWN := Lib.hid hown
  have HB := Lib.hid hb
  clear hown hb
  by_cases hlt : j < width
  ·obtain ⟨⟨x, hc⟩, hf⟩ := own_cell (k := width - 1 - j) HOWN.out (by omega) (by omega)
   have HS := Lib.hid (shr8 n j)
   go_wp2_with fail
   go_roundw
   case rel => exact ⟨j + 1, by omega, by go_num, by rw [HS.out]; exact own_set HOWN.out (by omega) _ rfl rfl, HB.out.setCell (Nat.le_refl _) _⟩
   case measure => simp [intOf]; omega
  ·obtain rfl : j = width := by omega
   have hbk := back_own HOWN.out
   rw [partL_all] at hbk
   go_wp2_with fail
   go_ret
   exact ⟨rfl, HB.out⟩
theorem fits_nat (n width : Nat) : fitsB n width = true ↔ 1 <= width /\ width <= 6 /\ n < 256 ^ width := by
 have e : ((n : Int) < 256 ^ width) ↔ n < 256 ^ width := by
  rw [show ((256 : Int) ^ width) = ((256 ^ width : Nat) : Int) from by rw [Int.natCast_pow]; rfl]
  exact Int.ofNat_lt
 simp only [fitsB, Bool.and_eq_true, decide_eq_true_eq, Int.toNat_natCast, e]
 omega
theorem not_fits {n width : Int} (h : n < 0 \/ width < 1 \/ 6 < width) : fitsB n width = false := by
 rw [Bool.eq_false_iff]
 intro hh
 simp only [fitsB, Bool.and_eq_true, decide_eq_true_eq] at hh
 omega
theorem spec_any (n width : Int) (w : World) (hl : -9223372036854775808 <= n) (hh : n <= 9223372036854775807) :
  Calls Tryz.prog 150 #[.int .i64 n, .int .i64 width] w fun e w' => e = .returned (.string (putB n width)) /\ Below w.heap.size w w' := by
 by_cases hw : width < 1 \/ 6 < width
 ·rw [putB_no (not_fits (.inr hw))]
  have HW := Lib.hid hw
  clear hw hl hh
  go_enter Tryz.func150, Tryz.ntmps150
  go_wp2_with fail
  refine (in_no _ 1 6 _ HW.out).mono ?_
  rintro e w1 ⟨rfl, rfl⟩
  go_wp2_with fail
  go_ret
  exact ⟨rfl, Below.refl _ _⟩
 ·obtain ⟨k, rfl⟩ := Int.eq_ofNat_of_zero_le (show 0 <= width by omega)
  have h1 : 1 <= k := by omega
  have h2 : k <= 6 := by omega
  clear hw
  by_cases hn : n < 0
  ·rw [putB_no (not_fits (.inl hn))]
   have hd : decide (n < 0) = true := by simp; omega
   clear hl hh
   go_enter Tryz.func150, Tryz.ntmps150
   go_wp2_with fail
   refine (in_yes _ 1 6 _ (by omega) (by omega)).mono ?_
   rintro e w1 ⟨rfl, rfl⟩
   go_wp2_with fail
   go_ret
   exact ⟨rfl, Below.refl _ _⟩
  ·obtain ⟨m, rfl⟩ := Int.eq_ofNat_of_zero_le (show 0 <= n by omega)
   by_cases hb : m < 256 ^ k
   ·rw [putB_yes _ _ ((fits_nat m k).2 ⟨h1, h2, hb⟩)]
    exact spec_yes m k w h1 h2 hb
   ·rw [putB_no (by rw [Bool.eq_false_iff]; intro hh; exact hb ((fits_nat m k).1 hh).2.2)]
    have hw : wrap64 (2 ^ (8 * k)) <= (m : Int) := by rw [wrap_pow8 k h2]; omega
    clear hb hn hl
    go_enter Tryz.func150, Tryz.ntmps150
    go_wp2_with fail
    refine (in_yes _ 1 6 _ (by omega) (by omega)).mono ?_
    rintro e w1 ⟨rfl, rfl⟩
    go_wp2_with fail
    go_ret
    exact ⟨rfl, Below.refl _ _⟩
theorem impl_any (n width : Int) (w : World) (hl : -9223372036854775808 <= n) (hh : n <= 9223372036854775807) :
  Calls Tryz.prog 125 #[.int .i64 n, .int .i64 width] w fun e w' => e = .returned (.string (putB n width)) /\ Below w.heap.size w w' := by
 by_cases hw : width < 1 \/ 6 < width
 ·rw [putB_no (not_fits (.inr hw))]
  have HW := Lib.hid hw
  clear hw hl hh
  go_enter Tryz.func125, Tryz.ntmps125
  go_wp2_with fail
  refine (width_no _ _ HW.out).mono ?_
  rintro e w1 ⟨rfl, rfl⟩
  go_wp2_with fail
  go_ret
  exact ⟨rfl, Below.refl _ _⟩
 ·obtain ⟨k, rfl⟩ := Int.eq_ofNat_of_zero_le (show 0 <= width by omega)
  have h1 : 1 <= k := by omega
  have h2 : k <= 6 := by omega
  clear hw
  by_cases hn : n < 0
  ·rw [putB_no (not_fits (.inl hn))]
   have hd : decide (n < 0) = true := by simp; omega
   clear hl hh
   go_enter Tryz.func125, Tryz.ntmps125
   go_wp2_with fail
   refine (width_yes _ _ (by omega) (by omega)).mono ?_
   rintro e w1 ⟨rfl, rfl⟩
   go_wp2_with fail
   go_ret
   exact ⟨rfl, Below.refl _ _⟩
  ·obtain ⟨m, rfl⟩ := Int.eq_ofNat_of_zero_le (show 0 <= n by omega)
   by_cases hb : m < 256 ^ k
   ·rw [putB_yes _ _ ((fits_nat m k).2 ⟨h1, h2, hb⟩)]
    exact impl_yes m k w h1 h2 hb
   ·rw [putB_no (by rw [Bool.eq_false_iff]; intro hh; exact hb ((fits_nat m k).1 hh).2.2)]
    have hw := big_bne m k (by omega)
    clear hb hn hl
    go_enter Tryz.func125, Tryz.ntmps125
    go_wp2_with fail
    refine (width_yes _ _ (by omega) (by omega)).mono ?_
    rintro e w1 ⟨rfl, rfl⟩
    go_wp2_with fail
    go_ret
    exact ⟨rfl, Below.refl _ _⟩
end Go.Proofs.YthppbcnejapbiaaGreatDoor.PutNumber
