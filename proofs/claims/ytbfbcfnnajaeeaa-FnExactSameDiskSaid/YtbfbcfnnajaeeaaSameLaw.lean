/- Proved: for every two disks, the law FnExactSameDisk returns true and leaves its arguments as they were: the program's SameDisk answers as the model's. No condition beyond the row's own. -/
import Derived.Test.YtbfbcfnnajaeeaaSame
import Derived.Test.YtbfbcfnnajaeeaaDkOpen
namespace Go.Proofs.Ytbfbcfnnajaeeaa.SameLaw
open Go.ChangeShapes Go.WideShapes Go.ChangeAt Go.RowKit
open Go.ChangeMaps (open_string shut_string)
open Dk (D Holds Ok In Own cost costOf cost_pos cost_neg cost_len sz_any to_any eq_any)
set_option linter.unusedVariables false

set_option maxRecDepth 100000 in
set_option maxHeartbeats 2000000 in
theorem law_any (vs vp : Value) (d : D) (us up : Value) (d' : D) (w : World) (hin : In w vs vp d) (hin2 : In w us up d') :
    Calls Try.prog 10 #[.agg #[vs, vp], .agg #[us, up]] w fun e w' => e = .returned (.bool true) ∧ Below w.heap.size w w' := by
  have HIN := Lib.hid hin
  have HIN2 := Lib.hid hin2
  clear hin hin2
  by_cases hc : cost d ≤ 1048576
  · have HC := Lib.hid (cost_pos hc)
    have hl1 := (cost_len hc).1
    have hl2 := (cost_len hc).2
    obtain ⟨r, hr⟩ : ∃ r : Nat, r = 1048576 - cost d := ⟨_, rfl⟩
    rw [← hr] at HC
    have hr1 : r ≤ 1048576 := by omega
    clear hr hc
    by_cases hc2 : cost d' ≤ r
    · have HC2 := Lib.hid (cost_pos hc2)
      have hl3 := (cost_len hc2).1
      have hl4 := (cost_len hc2).2
      obtain ⟨r2, hr2⟩ : ∃ r2 : Nat, r2 = r - cost d' := ⟨_, rfl⟩
      rw [← hr2] at HC2
      clear hr2 hc2
      obtain ⟨B, hB⟩ : ∃ B, B = decide (d = d') := ⟨_, rfl⟩
      have HBB := Lib.hid hB
      clear hB
      go_enter Try.func10, Try.ntmps10
      have HB := Lib.hid (Below.refl w.heap.size w)
      have hb := Joins.below_alloc1 w (.cells #[vs, vp] 40)
      replace HB := Lib.hid (HB.out.trans (hb.mono HB.out.size))
      have BA := Lib.hid (show Dk.Box (w.alloc (.cells #[vs, vp] 40)) (w.heap.size) _ _ 40 from Dk.blk_new w (.cells #[vs, vp] 40))
      clear hb
      obtain ⟨vBA0, vBA1⟩ := BA.out.cells
      clear vBA0 vBA1
      have hb := Joins.below_alloc1 (w.alloc (.cells #[vs, vp] 40)) (.cells #[us, up] 40)
      replace HB := Lib.hid (HB.out.trans (hb.mono HB.out.size))
      replace BA := Lib.hid (BA.out.below hb)
      have BB := Lib.hid (show Dk.Box ((w.alloc (.cells #[vs, vp] 40)).alloc (.cells #[us, up] 40)) (w.heap.size + 1) _ _ 40 from by have hk := Dk.blk_new (w.alloc (.cells #[vs, vp] 40)) (.cells #[us, up] 40); simp only [World.size_alloc] at hk; exact hk)
      clear hb
      obtain ⟨vBA0, vBA1⟩ := BA.out.cells
      obtain ⟨vBB0, vBB1⟩ := BB.out.cells
      go_wp2_with fail
      refine (sz_any _ vs vp d 1048576 (by omega) HIN.out.l1 HIN.out.z1 HIN.out.l2 HIN.out.z2 (HIN.out.holds.below HB.out)).mono ?_
      rintro e w1 ⟨rfl, hb⟩
      have s1 := hb.size
      simp only [World.size_alloc] at s1
      clear vBA0 vBA1 vBB0 vBB1
      replace HB := Lib.hid (HB.out.trans (hb.mono HB.out.size))
      replace BA := Lib.hid (BA.out.below hb)
      replace BB := Lib.hid (BB.out.below hb)
      clear hb
      rw [HC.out]
      obtain ⟨vBA0, vBA1⟩ := BA.out.cells
      obtain ⟨vBB0, vBB1⟩ := BB.out.cells
      go_wp2_with fail
      refine (sz_any _ us up d' r (by omega) HIN2.out.l1 HIN2.out.z1 HIN2.out.l2 HIN2.out.z2 (HIN2.out.holds.below HB.out)).mono ?_
      rintro e w2 ⟨rfl, hb⟩
      have s2 := hb.size
      clear vBA0 vBA1 vBB0 vBB1
      replace HB := Lib.hid (HB.out.trans (hb.mono HB.out.size))
      replace BA := Lib.hid (BA.out.below hb)
      replace BB := Lib.hid (BB.out.below hb)
      clear hb
      rw [HC2.out]
      obtain ⟨vBA0, vBA1⟩ := BA.out.cells
      obtain ⟨vBB0, vBB1⟩ := BB.out.cells
      have ONE := Lib.hid trivial
      go_wp2
      go_region_held3 (fun w' => w'.cell? ⟨w.heap.size, 0, none⟩ = some (vs) ∧ w'.cell? ⟨w.heap.size, 1, none⟩ = some (vp) ∧ w'.cell? ⟨w.heap.size + 1, 0, none⟩ = some (us) ∧ w'.cell? ⟨w.heap.size + 1, 1, none⟩ = some (up)) (go_keep)
        (first | (go_at_call 21; have _q := ONE.out; clear _q ONE; replace HB := Lib.hid HB.out.drew; replace BA := Lib.hid (show Dk.Box (World.drew w2) _ _ _ _ from BA.out); replace BB := Lib.hid (show Dk.Box (World.drew w2) _ _ _ _ from BB.out); refine (to_any _ vs vp d (by omega) (by omega) (HIN.out.holds.below HB.out)).mono ?_; rintro e w3 ⟨ks, kp, rfl, hown, hb⟩; have s3 := hb.size; try simp only [World.size_alloc, World.size_drew] at s3; have HS := Lib.hid hown; clear hown; replace HB := Lib.hid (HB.out.trans (hb.mono HB.out.size)); replace BA := Lib.hid (Dk.Box.below BA.out hb); replace BB := Lib.hid (Dk.Box.below BB.out hb); clear hb; obtain ⟨vBAw30, vBAw31⟩ := BA.out.cells; obtain ⟨vBBw30, vBBw31⟩ := BB.out.cells) | (go_at_call 21; refine (to_any _ us up d' (by omega) (by omega) (HIN2.out.holds.below HB.out)).mono ?_; rintro e w4 ⟨ls, lp, rfl, hown, hb⟩; have s4 := hb.size; have HT := Lib.hid hown; clear hown; replace HB := Lib.hid (HB.out.trans (hb.mono HB.out.size)); replace BA := Lib.hid (Dk.Box.below BA.out hb); replace BB := Lib.hid (Dk.Box.below BB.out hb); replace HS := Lib.hid (Dk.Own.below HS.out hb); clear hb; obtain ⟨vBAw40, vBAw41⟩ := BA.out.cells; obtain ⟨vBBw40, vBBw41⟩ := BB.out.cells) | (go_at_call 34; refine (Same.spec_any _ ks kp ls lp d d' (by omega) (by omega) (by omega) (by omega) HS.out.holds HT.out.holds).mono ?_; rintro e w5 ⟨rfl, hb⟩; have s5 := hb.size; replace HB := Lib.hid (HB.out.trans (hb.mono HB.out.size)); replace BA := Lib.hid (Dk.Box.below BA.out hb); replace BB := Lib.hid (Dk.Box.below BB.out hb); replace HS := Lib.hid (Dk.Own.below HS.out hb); replace HT := Lib.hid (Dk.Own.below HT.out hb); clear hb; rw [← HBB.out]; obtain ⟨vBAw50, vBAw51⟩ := BA.out.cells; obtain ⟨vBBw50, vBBw51⟩ := BB.out.cells))
      clear vBA0 vBA1 vBB0 vBB1
      clear HS HT
      go_wp2_with fail
      refine (to_any _ vs vp d (by omega) (by omega) (HIN.out.holds.below HB.out)).mono ?_
      rintro e w6 ⟨xs, xp, rfl, hown, hb⟩
      have s6 := hb.size
      clear vBAw50 vBAw51 vBBw50 vBBw51
      obtain ⟨⟨xa, xn, xc, rfl⟩, ⟨xb, xm, xd, rfl⟩⟩ := hown.forms
      have HX := Lib.hid hown
      clear hown
      replace HB := Lib.hid (HB.out.trans (hb.mono HB.out.size))
      replace BA := Lib.hid (BA.out.below hb)
      replace BB := Lib.hid (BB.out.below hb)
      clear hb
      obtain ⟨vBA0, vBA1⟩ := BA.out.cells
      obtain ⟨vBB0, vBB1⟩ := BB.out.cells
      clear vBA0 vBA1 vBB0 vBB1
      have hb := Joins.below_alloc1 w6 (.cells #[.slice xa xn xc, .slice xb xm xd] 26)
      replace HB := Lib.hid (HB.out.trans (hb.mono HB.out.size))
      replace BA := Lib.hid (BA.out.below hb)
      replace BB := Lib.hid (BB.out.below hb)
      replace HX := Lib.hid (HX.out.below hb)
      have BX := Lib.hid (show Dk.Box (w6.alloc (.cells #[.slice xa xn xc, .slice xb xm xd] 26)) (w6.heap.size) _ _ 26 from Dk.blk_new w6 (.cells #[.slice xa xn xc, .slice xb xm xd] 26))
      clear hb
      obtain ⟨vBA0, vBA1⟩ := BA.out.cells
      obtain ⟨vBB0, vBB1⟩ := BB.out.cells
      obtain ⟨vBX0, vBX1⟩ := BX.out.cells
      go_wp2_with fail
      refine (to_any _ us up d' (by omega) (by omega) (HIN2.out.holds.below HB.out)).mono ?_
      rintro e w7 ⟨ys, yp, rfl, hown, hb⟩
      have s7 := hb.size
      simp only [World.size_alloc] at s7
      clear vBA0 vBA1 vBB0 vBB1 vBX0 vBX1
      obtain ⟨⟨ya, yn, yc, rfl⟩, ⟨yb, ym, yd, rfl⟩⟩ := hown.forms
      have HY := Lib.hid hown
      clear hown
      replace HB := Lib.hid (HB.out.trans (hb.mono HB.out.size))
      replace BA := Lib.hid (BA.out.below hb)
      replace BB := Lib.hid (BB.out.below hb)
      replace BX := Lib.hid (BX.out.below hb)
      replace HX := Lib.hid (HX.out.below hb)
      clear hb
      obtain ⟨vBA0, vBA1⟩ := BA.out.cells
      obtain ⟨vBB0, vBB1⟩ := BB.out.cells
      obtain ⟨vBX0, vBX1⟩ := BX.out.cells
      clear vBA0 vBA1 vBB0 vBB1 vBX0 vBX1
      have hb := Joins.below_alloc1 w7 (.cells #[.slice ya yn yc, .slice yb ym yd] 26)
      replace HB := Lib.hid (HB.out.trans (hb.mono HB.out.size))
      replace BA := Lib.hid (BA.out.below hb)
      replace BB := Lib.hid (BB.out.below hb)
      replace BX := Lib.hid (BX.out.below hb)
      replace HX := Lib.hid (HX.out.below hb)
      replace HY := Lib.hid (HY.out.below hb)
      have BY := Lib.hid (show Dk.Box (w7.alloc (.cells #[.slice ya yn yc, .slice yb ym yd] 26)) (w7.heap.size) _ _ 26 from Dk.blk_new w7 (.cells #[.slice ya yn yc, .slice yb ym yd] 26))
      clear hb
      obtain ⟨vBA0, vBA1⟩ := BA.out.cells
      obtain ⟨vBB0, vBB1⟩ := BB.out.cells
      obtain ⟨vBX0, vBX1⟩ := BX.out.cells
      obtain ⟨vBY0, vBY1⟩ := BY.out.cells
      go_wp2_with fail
      refine (Same.impl_any _ (.slice xa xn xc) (.slice xb xm xd) (.slice ya yn yc) (.slice yb ym yd) d d' (by omega) (by omega) (by omega) (by omega) HX.out.holds HY.out.holds).mono ?_
      rintro e w8 ⟨rfl, hb⟩
      have s8 := hb.size
      simp only [World.size_alloc] at s8
      clear vBA0 vBA1 vBB0 vBB1 vBX0 vBX1 vBY0 vBY1
      replace HB := Lib.hid (HB.out.trans (hb.mono HB.out.size))
      replace BA := Lib.hid (BA.out.below hb)
      replace BB := Lib.hid (BB.out.below hb)
      replace BX := Lib.hid (BX.out.below hb)
      replace BY := Lib.hid (BY.out.below hb)
      replace HX := Lib.hid (HX.out.below hb)
      replace HY := Lib.hid (HY.out.below hb)
      clear hb
      rw [← HBB.out]
      obtain ⟨vBA0, vBA1⟩ := BA.out.cells
      obtain ⟨vBB0, vBB1⟩ := BB.out.cells
      obtain ⟨vBX0, vBX1⟩ := BX.out.cells
      obtain ⟨vBY0, vBY1⟩ := BY.out.cells
      go_wp2
      go_region_held3 (fun w' => w'.cell? ⟨w6.heap.size, 0, none⟩ = some (.slice xa xn xc) ∧ w'.cell? ⟨w6.heap.size, 1, none⟩ = some (.slice xb xm xd) ∧ w'.cell? ⟨w.heap.size, 0, none⟩ = some (vs) ∧ w'.cell? ⟨w.heap.size, 1, none⟩ = some (vp)) (go_keep)
        (first | (go_at_call 21; replace HB := Lib.hid HB.out.drew; replace BA := Lib.hid (show Dk.Box (World.drew w8) _ _ _ _ from BA.out); replace BB := Lib.hid (show Dk.Box (World.drew w8) _ _ _ _ from BB.out); replace BX := Lib.hid (show Dk.Box (World.drew w8) _ _ _ _ from BX.out); replace BY := Lib.hid (show Dk.Box (World.drew w8) _ _ _ _ from BY.out); replace HX := Lib.hid (show Dk.Own (World.drew w8) _ _ _ _ _ from HX.out); replace HY := Lib.hid (show Dk.Own (World.drew w8) _ _ _ _ _ from HY.out); refine (to_any _ vs vp d (by omega) (by omega) (HIN.out.holds.below HB.out)).mono ?_; rintro e w9 ⟨zs, zp, rfl, hown, hb⟩; have s9 := hb.size; try simp only [World.size_alloc, World.size_drew] at s9; have HZ := Lib.hid hown; clear hown; replace HB := Lib.hid (HB.out.trans (hb.mono HB.out.size)); replace BA := Lib.hid (Dk.Box.below BA.out hb); replace BB := Lib.hid (Dk.Box.below BB.out hb); replace BX := Lib.hid (Dk.Box.below BX.out hb); replace BY := Lib.hid (Dk.Box.below BY.out hb); replace HX := Lib.hid (Dk.Own.below HX.out hb); replace HY := Lib.hid (Dk.Own.below HY.out hb); clear hb; obtain ⟨vBAw90, vBAw91⟩ := BA.out.cells; obtain ⟨vBBw90, vBBw91⟩ := BB.out.cells; obtain ⟨vBXw90, vBXw91⟩ := BX.out.cells; obtain ⟨vBYw90, vBYw91⟩ := BY.out.cells) | (go_at_call 22; refine (eq_any _ (.slice xa xn xc) (.slice xb xm xd) zs zp d (by omega) (by omega) HX.out.holds HZ.out.holds).mono ?_; rintro e w10 ⟨rfl, hb⟩; have s10 := hb.size; replace HB := Lib.hid (HB.out.trans (hb.mono HB.out.size)); replace BA := Lib.hid (Dk.Box.below BA.out hb); replace BB := Lib.hid (Dk.Box.below BB.out hb); replace BX := Lib.hid (Dk.Box.below BX.out hb); replace BY := Lib.hid (Dk.Box.below BY.out hb); replace HX := Lib.hid (Dk.Own.below HX.out hb); replace HY := Lib.hid (Dk.Own.below HY.out hb); replace HZ := Lib.hid (Dk.Own.below HZ.out hb); clear hb; obtain ⟨vBAw100, vBAw101⟩ := BA.out.cells; obtain ⟨vBBw100, vBBw101⟩ := BB.out.cells; obtain ⟨vBXw100, vBXw101⟩ := BX.out.cells; obtain ⟨vBYw100, vBYw101⟩ := BY.out.cells))
      clear vBA0 vBA1 vBB0 vBB1 vBX0 vBX1 vBY0 vBY1
      go_wp2
      go_region_held3 (fun w' => w'.cell? ⟨w7.heap.size, 0, none⟩ = some (.slice ya yn yc) ∧ w'.cell? ⟨w7.heap.size, 1, none⟩ = some (.slice yb ym yd) ∧ w'.cell? ⟨w.heap.size + 1, 0, none⟩ = some (us) ∧ w'.cell? ⟨w.heap.size + 1, 1, none⟩ = some (up)) (go_keep)
        (first | (go_at_call 21; replace HB := Lib.hid HB.out.drew; replace BA := Lib.hid (show Dk.Box (World.drew w10) _ _ _ _ from BA.out); replace BB := Lib.hid (show Dk.Box (World.drew w10) _ _ _ _ from BB.out); replace BX := Lib.hid (show Dk.Box (World.drew w10) _ _ _ _ from BX.out); replace BY := Lib.hid (show Dk.Box (World.drew w10) _ _ _ _ from BY.out); replace HX := Lib.hid (show Dk.Own (World.drew w10) _ _ _ _ _ from HX.out); replace HY := Lib.hid (show Dk.Own (World.drew w10) _ _ _ _ _ from HY.out); replace HZ := Lib.hid (show Dk.Own (World.drew w10) _ _ _ _ _ from HZ.out); refine (to_any _ us up d' (by omega) (by omega) (HIN2.out.holds.below HB.out)).mono ?_; rintro e w11 ⟨qs, qp, rfl, hown, hb⟩; have s11 := hb.size; try simp only [World.size_alloc, World.size_drew] at s11; have HQ := Lib.hid hown; clear hown; replace HB := Lib.hid (HB.out.trans (hb.mono HB.out.size)); replace BA := Lib.hid (Dk.Box.below BA.out hb); replace BB := Lib.hid (Dk.Box.below BB.out hb); replace BX := Lib.hid (Dk.Box.below BX.out hb); replace BY := Lib.hid (Dk.Box.below BY.out hb); replace HX := Lib.hid (Dk.Own.below HX.out hb); replace HY := Lib.hid (Dk.Own.below HY.out hb); replace HZ := Lib.hid (Dk.Own.below HZ.out hb); clear hb; obtain ⟨vBAw110, vBAw111⟩ := BA.out.cells; obtain ⟨vBBw110, vBBw111⟩ := BB.out.cells; obtain ⟨vBXw110, vBXw111⟩ := BX.out.cells; obtain ⟨vBYw110, vBYw111⟩ := BY.out.cells) | (go_at_call 22; refine (eq_any _ (.slice ya yn yc) (.slice yb ym yd) qs qp d' (by omega) (by omega) HY.out.holds HQ.out.holds).mono ?_; rintro e w12 ⟨rfl, hb⟩; have s12 := hb.size; replace HB := Lib.hid (HB.out.trans (hb.mono HB.out.size)); replace BA := Lib.hid (Dk.Box.below BA.out hb); replace BB := Lib.hid (Dk.Box.below BB.out hb); replace BX := Lib.hid (Dk.Box.below BX.out hb); replace BY := Lib.hid (Dk.Box.below BY.out hb); replace HX := Lib.hid (Dk.Own.below HX.out hb); replace HY := Lib.hid (Dk.Own.below HY.out hb); replace HZ := Lib.hid (Dk.Own.below HZ.out hb); replace HQ := Lib.hid (Dk.Own.below HQ.out hb); clear hb; obtain ⟨vBAw120, vBAw121⟩ := BA.out.cells; obtain ⟨vBBw120, vBBw121⟩ := BB.out.cells; obtain ⟨vBXw120, vBXw121⟩ := BX.out.cells; obtain ⟨vBYw120, vBYw121⟩ := BY.out.cells))
      clear vBAw100 vBAw101 vBBw100 vBBw101 vBXw100 vBXw101 vBYw100 vBYw101
      go_wp2
      go_ret
      exact ⟨rfl, HB.out⟩
    · have HC2 := Lib.hid (cost_neg hc2)
      clear hc2
      go_enter Try.func10, Try.ntmps10
      have HB := Lib.hid (Below.refl w.heap.size w)
      have hb := Joins.below_alloc1 w (.cells #[vs, vp] 40)
      replace HB := Lib.hid (HB.out.trans (hb.mono HB.out.size))
      have BA := Lib.hid (show Dk.Box (w.alloc (.cells #[vs, vp] 40)) (w.heap.size) _ _ 40 from Dk.blk_new w (.cells #[vs, vp] 40))
      clear hb
      obtain ⟨vBA0, vBA1⟩ := BA.out.cells
      clear vBA0 vBA1
      have hb := Joins.below_alloc1 (w.alloc (.cells #[vs, vp] 40)) (.cells #[us, up] 40)
      replace HB := Lib.hid (HB.out.trans (hb.mono HB.out.size))
      replace BA := Lib.hid (BA.out.below hb)
      have BB := Lib.hid (show Dk.Box ((w.alloc (.cells #[vs, vp] 40)).alloc (.cells #[us, up] 40)) (w.heap.size + 1) _ _ 40 from by have hk := Dk.blk_new (w.alloc (.cells #[vs, vp] 40)) (.cells #[us, up] 40); simp only [World.size_alloc] at hk; exact hk)
      clear hb
      obtain ⟨vBA0, vBA1⟩ := BA.out.cells
      obtain ⟨vBB0, vBB1⟩ := BB.out.cells
      go_wp2_with fail
      refine (sz_any _ vs vp d 1048576 (by omega) HIN.out.l1 HIN.out.z1 HIN.out.l2 HIN.out.z2 (HIN.out.holds.below HB.out)).mono ?_
      rintro e w1 ⟨rfl, hb⟩
      have s1 := hb.size
      simp only [World.size_alloc] at s1
      clear vBA0 vBA1 vBB0 vBB1
      replace HB := Lib.hid (HB.out.trans (hb.mono HB.out.size))
      replace BA := Lib.hid (BA.out.below hb)
      replace BB := Lib.hid (BB.out.below hb)
      clear hb
      rw [HC.out]
      obtain ⟨vBA0, vBA1⟩ := BA.out.cells
      obtain ⟨vBB0, vBB1⟩ := BB.out.cells
      go_wp2_with fail
      refine (sz_any _ us up d' r (by omega) HIN2.out.l1 HIN2.out.z1 HIN2.out.l2 HIN2.out.z2 (HIN2.out.holds.below HB.out)).mono ?_
      rintro e w2 ⟨rfl, hb⟩
      have s2 := hb.size
      clear vBA0 vBA1 vBB0 vBB1
      replace HB := Lib.hid (HB.out.trans (hb.mono HB.out.size))
      replace BA := Lib.hid (BA.out.below hb)
      replace BB := Lib.hid (BB.out.below hb)
      clear hb
      rw [HC2.out]
      obtain ⟨vBA0, vBA1⟩ := BA.out.cells
      obtain ⟨vBB0, vBB1⟩ := BB.out.cells
      go_wp2
      go_ret
      exact ⟨rfl, HB.out⟩
  · have HC := Lib.hid (cost_neg hc)
    clear hc
    go_enter Try.func10, Try.ntmps10
    have HB := Lib.hid (Below.refl w.heap.size w)
    have hb := Joins.below_alloc1 w (.cells #[vs, vp] 40)
    replace HB := Lib.hid (HB.out.trans (hb.mono HB.out.size))
    have BA := Lib.hid (show Dk.Box (w.alloc (.cells #[vs, vp] 40)) (w.heap.size) _ _ 40 from Dk.blk_new w (.cells #[vs, vp] 40))
    clear hb
    obtain ⟨vBA0, vBA1⟩ := BA.out.cells
    clear vBA0 vBA1
    have hb := Joins.below_alloc1 (w.alloc (.cells #[vs, vp] 40)) (.cells #[us, up] 40)
    replace HB := Lib.hid (HB.out.trans (hb.mono HB.out.size))
    replace BA := Lib.hid (BA.out.below hb)
    have BB := Lib.hid (show Dk.Box ((w.alloc (.cells #[vs, vp] 40)).alloc (.cells #[us, up] 40)) (w.heap.size + 1) _ _ 40 from by have hk := Dk.blk_new (w.alloc (.cells #[vs, vp] 40)) (.cells #[us, up] 40); simp only [World.size_alloc] at hk; exact hk)
    clear hb
    obtain ⟨vBA0, vBA1⟩ := BA.out.cells
    obtain ⟨vBB0, vBB1⟩ := BB.out.cells
    go_wp2_with fail
    refine (sz_any _ vs vp d 1048576 (by omega) HIN.out.l1 HIN.out.z1 HIN.out.l2 HIN.out.z2 (HIN.out.holds.below HB.out)).mono ?_
    rintro e w1 ⟨rfl, hb⟩
    have s1 := hb.size
    simp only [World.size_alloc] at s1
    clear vBA0 vBA1 vBB0 vBB1
    replace HB := Lib.hid (HB.out.trans (hb.mono HB.out.size))
    replace BA := Lib.hid (BA.out.below hb)
    replace BB := Lib.hid (BB.out.below hb)
    clear hb
    rw [HC.out]
    obtain ⟨vBA0, vBA1⟩ := BA.out.cells
    obtain ⟨vBB0, vBB1⟩ := BB.out.cells
    go_wp2
    go_ret
    exact ⟨rfl, HB.out⟩

set_option maxRecDepth 100000 in
theorem lifted (os : Os) (started : os.Started) (H : Type) (enc : TypeId × Value → H) :
    ReturnsInHanded {} Try.checked os 10 .any (Rows.fnExactSameDiskSpec.pre6 enc Try.prog Try.f10 Rows.fnExactSameDiskRow.domain false) (Rows.fnExactSameDiskSpec.post enc Try.prog Try.f10 false true false false) := by
  refine returnsInHanded_of_change (C := Try.checked) Kit.own started (by kernel_rfl) Try.func10
    (ChangeSpec.witness6 (enc := enc) (C := Try.checked) false ⟨#[], #[.agg #[.slice none 0 0, .slice none 0 0], .agg #[.slice none 0 0, .slice none 0 0]], []⟩ 8 (by kernel_rfl) (by kernel_rfl) (by kernel_rfl) (by kernel_rfl)) ?_
  intro W base args ds gs before hval0 hW hcnd _
  have hval : ∀ (j : Nat) t v, Try.f10.params[j]? = some t → args[j]? = some v → Value.okWide Try.prog W .any base t v := hval0
  have hW' := hW
  obtain ⟨p, q, hA0, hV, rfl, hfz, hnd⟩ := hW
  have hA : DataW.TrodAll enc Try.prog W 0 (fun _ => true) true Try.f10.params.toList args.toList ds p := hA0
  rw [Try.params10] at hA hval
  obtain ⟨v0, v1, d0, d1, p0, p1, rfl, rfl, rfl, h0, h1⟩ := trodAll_two hA
  obtain ⟨s0, u0, a0, rfl, w0⟩ := Dk.disk_of (hval 0 40 v0 rfl rfl) h0
  obtain ⟨s1, u1, a1, rfl, w1⟩ := Dk.disk_of (hval 1 40 v1 rfl rfl) h1
  refine (law_any s0 u0 a0 s1 u1 a1 W w0 w1).mono fun e W' ⟨he, hb⟩ => ?_
  subst he
  exact ⟨_, rfl, Kit.law_post Kit.laidOut (by kernel_rfl) Try.underlying4 rfl rfl (fun H ds hl => by match ds, hl with | [d0, d1], _ => rfl) hW' hb⟩

theorem holds : Rows.FnExactSameDiskSaid :=
  OpenClaim.holds_of_wide 10 Try.f10 rfl rfl rfl rfl rfl rfl rfl ⟨rfl, rfl, rfl, rfl, rfl⟩ rfl rfl rfl rfl rfl (by kernel_rfl) Try.func10 (by kernel_rfl)
    (of_decide_eq_true (by kernel_rfl)) (by unfold Func.isWrapper; first | (rw [if_pos (by decide +kernel)]; kernel_rfl) | (rw [if_neg (by decide +kernel)]; exact ⟨rfl, rfl⟩))
    (fun os started H enc _ => lifted os started H enc)
#print axioms holds
end Go.Proofs.Ytbfbcfnnajaeeaa.SameLaw
