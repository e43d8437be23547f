/- Proved: for every disk, every list of steps and every int, the law FnExactRunSteps returns true and leaves its arguments as they were: the program's RunSteps answers as the model's, in memory of its own. No condition beyond the row's own. -/
import Derived.Test.YtgapjdkelkmdgaaRunSpec
import Derived.Test.YtgapjdkelkmdgaaSpOpen
import Derived.Test.YtgapjdkelkmdgaaDkOpen
namespace Go.Proofs.Ytgapjdkelkmdgaa.RunLaw
open Go.ChangeShapes Go.WideShapes Go.ChangeAt Go.RowKit
open Go.ChangeMaps (open_string shut_string)
open Dk (D Holds Ok In Own cost costOf cost_pos cost_neg cost_len sz_any to_any eq_any mark_all held_all)
open Sp (LIn lcost)
set_option linter.unusedVariables false

set_option maxRecDepth 100000 in
set_option maxHeartbeats 6000000 in
theorem law_any (vs vp : Value) (d : D) (lv : Value) (l : List Txn.St) (n : Int) (w : World) (hin : In w vs vp d) (hl : LIn w lv l) (_hn : (Lit.int .i64 n).wf = true) :
    Calls Try.prog 10 #[.agg #[vs, vp], lv, .int .i64 n] w fun e w' => e = .returned (.bool true) ∧ Below w.heap.size w w' := by
  have HIN := Lib.hid hin
  have HLN := Lib.hid hl
  clear hin hl _hn
  by_cases hc : cost d ≤ 1048576
  · have HC := Lib.hid (cost_pos hc)
    have hl1 := (cost_len hc).1
    have hl2 := (cost_len hc).2
    obtain ⟨r, hr⟩ : ∃ r : Nat, r = 1048576 - cost d := ⟨_, rfl⟩
    have hr0 : r ≤ 1048576 := by omega
    rw [← hr] at HC
    clear hr hc
    by_cases hc2 : lcost l ≤ r
    · have HC2 := Lib.hid (Sp.budget_pos hc2)
      have hl3 : l.length ≤ 1048576 := by unfold lcost at hc2; omega
      have HSZ := Lib.hid (show ∀ x ∈ l, x.2.2.size ≤ 1073741824 from fun x hx => by have := Sp.mem_total l x hx; unfold lcost at hc2; omega)
      clear hc2
      obtain ⟨R, hR⟩ : ∃ R, R = Txn.runV d l n := ⟨_, rfl⟩
      have hlen := Run.run_len d (l.take n.toNat)
      have hlen1 : R.1.length = d.1.length := by rw [hR]; exact hlen.1
      have hlen2 : R.2.length ≤ max d.2.length 400 := by rw [hR]; exact hlen.2
      have hR1 : R.1.length ≤ 1048576 := by omega
      have hR2 : R.2.length ≤ 1048976 := by omega
      obtain ⟨KM, hKM⟩ : ∃ k, k = Dk.behind 1 R := ⟨_, rfl⟩
      have HK := Lib.hid hKM
      have HRR := Lib.hid hR
      clear hR hlen hlen1 hlen2 hKM
      go_enter Try.func10, Try.ntmps10
      have HB := Lib.hid (Below.refl w.heap.size w)
      have hb := Joins.below_alloc1 w (.cells #[vs, vp] 50)
      replace HB := Lib.hid (HB.out.trans (hb.mono HB.out.size))
      have BA := Lib.hid (show Dk.Box (w.alloc (.cells #[vs, vp] 50)) (w.heap.size) _ _ 50 from Dk.blk_new w (.cells #[vs, vp] 50))
      clear hb
      obtain ⟨vBA0, vBA1⟩ := BA.out.cells
      go_wp2_with fail
      refine (sz_any _ vs vp d 1048576 (by omega) HIN.out.l1 HIN.out.z1 HIN.out.l2 HIN.out.z2 (HIN.out.holds.below HB.out)).mono ?_
      rintro e w1 ⟨rfl, hb⟩
      have s1 := hb.size
      simp only [World.size_alloc] at s1
      clear vBA0 vBA1
      replace HB := Lib.hid (HB.out.trans (hb.mono HB.out.size))
      replace BA := Lib.hid (BA.out.below hb)
      clear hb
      rw [HC.out]
      obtain ⟨vBA0, vBA1⟩ := BA.out.cells
      go_wp2_with fail
      refine (Sp.sz_any _ lv l r (by omega) HLN.out.len HLN.out.sz (Sp.holds_below HLN.out.holds HB.out)).mono ?_
      rintro e w2 ⟨rfl, hb⟩
      have s2 := hb.size
      clear vBA0 vBA1
      replace HB := Lib.hid (HB.out.trans (hb.mono HB.out.size))
      replace BA := Lib.hid (BA.out.below hb)
      clear hb
      rw [HC2.out]
      obtain ⟨vBA0, vBA1⟩ := BA.out.cells
      go_wp2_with fail
      refine (to_any _ vs vp d (by omega) (by omega) (HIN.out.holds.below HB.out)).mono ?_
      rintro e w3 ⟨ks, kp, rfl, hown, hb⟩
      have s3 := hb.size
      clear vBA0 vBA1
      have HT := Lib.hid hown
      clear hown
      replace HB := Lib.hid (HB.out.trans (hb.mono HB.out.size))
      replace BA := Lib.hid (BA.out.below hb)
      clear hb
      obtain ⟨vBA0, vBA1⟩ := BA.out.cells
      go_wp2_with fail
      refine (Sp.to_any _ lv l (by omega) (Sp.holds_below HLN.out.holds HB.out)).mono ?_
      rintro e w4 ⟨kb, rfl, hown, hb⟩
      have s4 := hb.size
      clear vBA0 vBA1
      have HTB := Lib.hid (Dk.RowIn.fresh hown)
      clear hown
      replace HB := Lib.hid (HB.out.trans (hb.mono HB.out.size))
      replace BA := Lib.hid (BA.out.below hb)
      replace HT := Lib.hid (HT.out.below hb)
      clear hb
      obtain ⟨vBA0, vBA1⟩ := BA.out.cells
      go_wp2_with fail
      refine (Run.spec_any _ ks kp kb d l n (by omega) (by omega) (by omega) HSZ.out HT.out.holds (Sp.holds_of_own HTB.out.1)).mono ?_
      rintro e w5 ⟨_, _, rfl, hown, hb⟩
      have s5 := hb.size
      clear vBA0 vBA1
      rw [← HRR.out] at hown
      obtain ⟨⟨pa, pn, pc, rfl⟩, ⟨pb, pm, pd, rfl⟩⟩ := hown.forms
      have HW := Lib.hid hown
      clear hown
      replace HB := Lib.hid (HB.out.trans (hb.mono HB.out.size))
      replace BA := Lib.hid (BA.out.below hb)
      replace HT := Lib.hid (HT.out.below hb)
      replace HTB := Lib.hid (HTB.out.below hb)
      clear hb
      obtain ⟨vBA0, vBA1⟩ := BA.out.cells
      clear HT HTB
      clear vBA0 vBA1
      have hb := Joins.below_alloc1 w5 (.cells #[.slice pa pn pc, .slice pb pm pd] 26)
      replace HB := Lib.hid (HB.out.trans (hb.mono HB.out.size))
      replace BA := Lib.hid (BA.out.below hb)
      replace HW := Lib.hid (HW.out.below hb)
      have BW := Lib.hid (show Dk.Box (w5.alloc (.cells #[.slice pa pn pc, .slice pb pm pd] 26)) (w5.heap.size) _ _ 26 from Dk.blk_new w5 (.cells #[.slice pa pn pc, .slice pb pm pd] 26))
      clear hb
      obtain ⟨vBA0, vBA1⟩ := BA.out.cells
      obtain ⟨vBW0, vBW1⟩ := BW.out.cells
      go_wp2_with fail
      refine (to_any _ vs vp d (by omega) (by omega) (HIN.out.holds.below HB.out)).mono ?_
      rintro e w6 ⟨_, _, rfl, hown, hb⟩
      have s6 := hb.size
      simp only [World.size_alloc] at s6
      clear vBA0 vBA1 vBW0 vBW1
      obtain ⟨⟨xa, xn, xc, rfl⟩, ⟨xb, xm, xd, rfl⟩⟩ := hown.forms
      have HX := Lib.hid hown
      clear hown
      replace HB := Lib.hid (HB.out.trans (hb.mono HB.out.size))
      replace BA := Lib.hid (BA.out.below hb)
      replace BW := Lib.hid (BW.out.below hb)
      replace HW := Lib.hid (HW.out.below hb)
      clear hb
      obtain ⟨vBA0, vBA1⟩ := BA.out.cells
      obtain ⟨vBW0, vBW1⟩ := BW.out.cells
      clear vBA0 vBA1 vBW0 vBW1
      have hb := Joins.below_alloc1 w6 (.cells #[.slice xa xn xc, .slice xb xm xd] 26)
      replace HB := Lib.hid (HB.out.trans (hb.mono HB.out.size))
      replace BA := Lib.hid (BA.out.below hb)
      replace BW := Lib.hid (BW.out.below hb)
      replace HW := Lib.hid (HW.out.below hb)
      replace HX := Lib.hid (HX.out.below hb)
      have BX := Lib.hid (show Dk.Box (w6.alloc (.cells #[.slice xa xn xc, .slice xb xm xd] 26)) (w6.heap.size) _ _ 26 from Dk.blk_new w6 (.cells #[.slice xa xn xc, .slice xb xm xd] 26))
      clear hb
      obtain ⟨vBA0, vBA1⟩ := BA.out.cells
      obtain ⟨vBW0, vBW1⟩ := BW.out.cells
      obtain ⟨vBX0, vBX1⟩ := BX.out.cells
      go_wp2_with fail
      refine (Sp.to_any _ lv l (by omega) (Sp.holds_below HLN.out.holds HB.out)).mono ?_
      rintro e w7 ⟨xk, rfl, hown, hb⟩
      have s7 := hb.size
      simp only [World.size_alloc] at s7
      clear vBA0 vBA1 vBW0 vBW1 vBX0 vBX1
      have HXB := Lib.hid (Dk.RowIn.fresh hown)
      clear hown
      replace HB := Lib.hid (HB.out.trans (hb.mono HB.out.size))
      replace BA := Lib.hid (BA.out.below hb)
      replace BW := Lib.hid (BW.out.below hb)
      replace BX := Lib.hid (BX.out.below hb)
      replace HW := Lib.hid (HW.out.below hb)
      replace HX := Lib.hid (HX.out.below hb)
      clear hb
      obtain ⟨vBA0, vBA1⟩ := BA.out.cells
      obtain ⟨vBW0, vBW1⟩ := BW.out.cells
      obtain ⟨vBX0, vBX1⟩ := BX.out.cells
      go_wp2_with fail
      refine (Run.impl_own _ (.slice xa xn xc) (.slice xb xm xd) xk d l n _ _ (by omega) (by omega) (by omega) HSZ.out HX.out.holds HXB.out.1).mono ?_
      rintro e w8 ⟨_, _, rfl, hown, hb⟩
      have s8 := hb.size
      clear vBA0 vBA1 vBW0 vBW1 vBX0 vBX1
      rw [← HRR.out] at hown
      obtain ⟨⟨ga, gn, gc, rfl⟩, ⟨gb, gm, gd, rfl⟩⟩ := hown.forms
      have HG := Lib.hid hown
      clear hown
      replace HB := Lib.hid (HB.out.trans (hb.mono HB.out.size))
      replace BA := Lib.hid (BA.out.below hb)
      replace BW := Lib.hid (BW.out.below hb)
      replace BX := Lib.hid (BX.out.below hb)
      replace HW := Lib.hid (HW.out.below hb)
      replace HX := Lib.hid (HX.out.below hb)
      replace HXB := Lib.hid (HXB.out.below hb)
      clear hb
      obtain ⟨vBA0, vBA1⟩ := BA.out.cells
      obtain ⟨vBW0, vBW1⟩ := BW.out.cells
      obtain ⟨vBX0, vBX1⟩ := BX.out.cells
      clear vBA0 vBA1 vBW0 vBW1 vBX0 vBX1
      have hb := Joins.below_alloc1 w8 (.cells #[.slice ga gn gc, .slice gb gm gd] 26)
      replace HB := Lib.hid (HB.out.trans (hb.mono HB.out.size))
      replace BA := Lib.hid (BA.out.below hb)
      replace BW := Lib.hid (BW.out.below hb)
      replace BX := Lib.hid (BX.out.below hb)
      replace HW := Lib.hid (HW.out.below hb)
      replace HX := Lib.hid (HX.out.below hb)
      replace HXB := Lib.hid (HXB.out.below hb)
      replace HG := Lib.hid (HG.out.below hb)
      have BG := Lib.hid (show Dk.Box (w8.alloc (.cells #[.slice ga gn gc, .slice gb gm gd] 26)) (w8.heap.size) _ _ 26 from Dk.blk_new w8 (.cells #[.slice ga gn gc, .slice gb gm gd] 26))
      clear hb
      obtain ⟨vBA0, vBA1⟩ := BA.out.cells
      obtain ⟨vBW0, vBW1⟩ := BW.out.cells
      obtain ⟨vBX0, vBX1⟩ := BX.out.cells
      obtain ⟨vBG0, vBG1⟩ := BG.out.cells
      go_wp2_with fail
      refine (eq_any _ (.slice ga gn gc) (.slice gb gm gd) (.slice pa pn pc) (.slice pb pm pd) R (by omega) (by omega) HG.out.holds HW.out.holds).mono ?_
      rintro e w9 ⟨rfl, hb⟩
      have s9 := hb.size
      simp only [World.size_alloc] at s9
      clear vBA0 vBA1 vBW0 vBW1 vBX0 vBX1 vBG0 vBG1
      replace HB := Lib.hid (HB.out.trans (hb.mono HB.out.size))
      replace BA := Lib.hid (BA.out.below hb)
      replace BW := Lib.hid (BW.out.below hb)
      replace BX := Lib.hid (BX.out.below hb)
      replace BG := Lib.hid (BG.out.below hb)
      replace HW := Lib.hid (HW.out.below hb)
      replace HX := Lib.hid (HX.out.below hb)
      replace HXB := Lib.hid (HXB.out.below hb)
      replace HG := Lib.hid (HG.out.below hb)
      clear hb
      obtain ⟨vBA0, vBA1⟩ := BA.out.cells
      obtain ⟨vBW0, vBW1⟩ := BW.out.cells
      obtain ⟨vBX0, vBX1⟩ := BX.out.cells
      obtain ⟨vBG0, vBG1⟩ := BG.out.cells
      go_wp2
      go_region_held3 (fun w' => w'.cell? ⟨w6.heap.size, 0, none⟩ = some (.slice xa xn xc) ∧ w'.cell? ⟨w6.heap.size, 1, none⟩ = some (.slice xb xm xd) ∧ w'.cell? ⟨w.heap.size, 0, none⟩ = some (vs) ∧ w'.cell? ⟨w.heap.size, 1, none⟩ = some (vp)) (go_keep)
        (first | (go_at_call 30; replace HB := Lib.hid HB.out.drew; replace BA := Lib.hid (show Dk.Box (World.drew w9) _ _ _ _ from BA.out); replace BW := Lib.hid (show Dk.Box (World.drew w9) _ _ _ _ from BW.out); replace BX := Lib.hid (show Dk.Box (World.drew w9) _ _ _ _ from BX.out); replace BG := Lib.hid (show Dk.Box (World.drew w9) _ _ _ _ from BG.out); replace HW := Lib.hid (show Dk.Own (World.drew w9) _ _ _ _ _ from HW.out); replace HX := Lib.hid (show Dk.Own (World.drew w9) _ _ _ _ _ from HX.out); replace HXB := Lib.hid (show Dk.RowIn (World.drew w9) _ _ _ _ _ _ _ from HXB.out); replace HG := Lib.hid (show Dk.Own (World.drew w9) _ _ _ _ _ from HG.out); refine (to_any _ vs vp d (by omega) (by omega) (HIN.out.holds.below HB.out)).mono ?_; rintro e w10 ⟨zs, zp, rfl, hown, hb⟩; have s10 := hb.size; try simp only [World.size_alloc, World.size_drew] at s10; have HZ := Lib.hid hown; clear hown; replace HB := Lib.hid (HB.out.trans (hb.mono HB.out.size)); replace BA := Lib.hid (Dk.Box.below BA.out hb); replace BW := Lib.hid (Dk.Box.below BW.out hb); replace BX := Lib.hid (Dk.Box.below BX.out hb); replace BG := Lib.hid (Dk.Box.below BG.out hb); replace HW := Lib.hid (Dk.Own.below HW.out hb); replace HX := Lib.hid (Dk.Own.below HX.out hb); replace HXB := Lib.hid (Dk.RowIn.below HXB.out hb); replace HG := Lib.hid (Dk.Own.below HG.out hb); clear hb; obtain ⟨vBAw100, vBAw101⟩ := BA.out.cells; obtain ⟨vBWw100, vBWw101⟩ := BW.out.cells; obtain ⟨vBXw100, vBXw101⟩ := BX.out.cells; obtain ⟨vBGw100, vBGw101⟩ := BG.out.cells) | (go_at_call 32; refine (eq_any _ (.slice xa xn xc) (.slice xb xm xd) zs zp d (by omega) (by omega) HX.out.holds HZ.out.holds).mono ?_; rintro e w11 ⟨rfl, hb⟩; have s11 := hb.size; replace HB := Lib.hid (HB.out.trans (hb.mono HB.out.size)); replace BA := Lib.hid (Dk.Box.below BA.out hb); replace BW := Lib.hid (Dk.Box.below BW.out hb); replace BX := Lib.hid (Dk.Box.below BX.out hb); replace BG := Lib.hid (Dk.Box.below BG.out hb); replace HW := Lib.hid (Dk.Own.below HW.out hb); replace HX := Lib.hid (Dk.Own.below HX.out hb); replace HXB := Lib.hid (Dk.RowIn.below HXB.out hb); replace HG := Lib.hid (Dk.Own.below HG.out hb); replace HZ := Lib.hid (Dk.Own.below HZ.out hb); clear hb; obtain ⟨vBAw110, vBAw111⟩ := BA.out.cells; obtain ⟨vBWw110, vBWw111⟩ := BW.out.cells; obtain ⟨vBXw110, vBXw111⟩ := BX.out.cells; obtain ⟨vBGw110, vBGw111⟩ := BG.out.cells))
      clear vBA0 vBA1 vBW0 vBW1 vBX0 vBX1 vBG0 vBG1
      clear HZ
      go_wp2_with fail
      refine (Sp.to_any _ lv l (by omega) (Sp.holds_below HLN.out.holds HB.out)).mono ?_
      rintro e w12 ⟨zk, rfl, hown, hb⟩
      have s12 := hb.size
      clear vBAw110 vBAw111 vBWw110 vBWw111 vBXw110 vBXw111 vBGw110 vBGw111
      have HZB := Lib.hid (Dk.RowIn.fresh hown)
      clear hown
      replace HB := Lib.hid (HB.out.trans (hb.mono HB.out.size))
      replace BA := Lib.hid (BA.out.below hb)
      replace BW := Lib.hid (BW.out.below hb)
      replace BX := Lib.hid (BX.out.below hb)
      replace BG := Lib.hid (BG.out.below hb)
      replace HW := Lib.hid (HW.out.below hb)
      replace HX := Lib.hid (HX.out.below hb)
      replace HXB := Lib.hid (HXB.out.below hb)
      replace HG := Lib.hid (HG.out.below hb)
      clear hb
      obtain ⟨vBA0, vBA1⟩ := BA.out.cells
      obtain ⟨vBW0, vBW1⟩ := BW.out.cells
      obtain ⟨vBX0, vBX1⟩ := BX.out.cells
      obtain ⟨vBG0, vBG1⟩ := BG.out.cells
      go_wp2_with fail
      refine (Sp.eq_any _ xk zk l (by omega) (Sp.holds_of_own HXB.out.1) (Sp.holds_of_own HZB.out.1)).mono ?_
      rintro e w13 ⟨rfl, hb⟩
      have s13 := hb.size
      clear vBA0 vBA1 vBW0 vBW1 vBX0 vBX1 vBG0 vBG1
      replace HB := Lib.hid (HB.out.trans (hb.mono HB.out.size))
      replace BA := Lib.hid (BA.out.below hb)
      replace BW := Lib.hid (BW.out.below hb)
      replace BX := Lib.hid (BX.out.below hb)
      replace BG := Lib.hid (BG.out.below hb)
      replace HW := Lib.hid (HW.out.below hb)
      replace HX := Lib.hid (HX.out.below hb)
      replace HXB := Lib.hid (HXB.out.below hb)
      replace HG := Lib.hid (HG.out.below hb)
      replace HZB := Lib.hid (HZB.out.below hb)
      clear hb
      obtain ⟨vBA0, vBA1⟩ := BA.out.cells
      obtain ⟨vBW0, vBW1⟩ := BW.out.cells
      obtain ⟨vBX0, vBX1⟩ := BX.out.cells
      obtain ⟨vBG0, vBG1⟩ := BG.out.cells
      clear HZB
      go_wp2_with fail
      refine (mark_all _ _ _ (.slice xa xn xc) (.slice xb xm xd) d 1 (by omega) (by unfold Dk.behind; omega) (by omega) HX.out).mono ?_
      rintro e w14 ⟨rfl, hown, ht⟩
      have s14 := ht.size
      clear vBA0 vBA1 vBW0 vBW1 vBX0 vBX1 vBG0 vBG1
      replace HB := Lib.hid (HB.out.trans (ht.below (by (try simp only [World.size_alloc]); omega) (by (try simp only [World.size_alloc]); omega)))
      replace BA := Lib.hid (BA.out.turned ht (by (try simp only [World.size_alloc]); omega))
      replace BW := Lib.hid (BW.out.turned ht (by (try simp only [World.size_alloc]); omega))
      replace BX := Lib.hid (BX.out.turned ht (by (try simp only [World.size_alloc]); omega))
      replace BG := Lib.hid (BG.out.turned ht (by (try simp only [World.size_alloc]); omega))
      replace HW := Lib.hid (HW.out.turned ht (by (try simp only [World.size_alloc]); omega))
      replace HXB := Lib.hid (HXB.out.turned ht (by (try simp only [World.size_alloc]); omega))
      replace HG := Lib.hid (HG.out.turned ht (by (try simp only [World.size_alloc]); omega))
      replace HX := Lib.hid hown
      clear hown ht
      obtain ⟨K1, hK1⟩ : ∃ k, k = Dk.behind 1 d := ⟨_, rfl⟩
      rw [← hK1]
      have HK1 := Lib.hid (show 1 ≤ K1 ∧ K1 ≤ 4000000 by rw [hK1]; unfold Dk.behind; omega)
      clear hK1
      obtain ⟨vBA0, vBA1⟩ := BA.out.cells
      obtain ⟨vBW0, vBW1⟩ := BW.out.cells
      obtain ⟨vBX0, vBX1⟩ := BX.out.cells
      obtain ⟨vBG0, vBG1⟩ := BG.out.cells
      go_wp2_with fail
      refine (Sp.mark_in _ _ _ xk l K1 (by have := HK1.out; omega) (by have := HK1.out; omega) (by omega) HXB.out).mono ?_
      rintro e w15 ⟨rfl, hown, ht⟩
      have s15 := ht.size
      clear vBA0 vBA1 vBW0 vBW1 vBX0 vBX1 vBG0 vBG1
      replace HB := Lib.hid (HB.out.trans (ht.below (by (try simp only [World.size_alloc]); omega) (by (try simp only [World.size_alloc]); omega)))
      replace BA := Lib.hid (BA.out.turned ht (by (try simp only [World.size_alloc]); omega))
      replace BW := Lib.hid (BW.out.turned ht (by (try simp only [World.size_alloc]); omega))
      replace BX := Lib.hid (BX.out.turned ht (by (try simp only [World.size_alloc]); omega))
      replace BG := Lib.hid (BG.out.turned ht (by (try simp only [World.size_alloc]); omega))
      replace HW := Lib.hid (HW.out.turned ht (by (try simp only [World.size_alloc]); omega))
      replace HX := Lib.hid (HX.out.turned ht (by (try simp only [World.size_alloc]); omega))
      replace HG := Lib.hid (HG.out.turned ht (by (try simp only [World.size_alloc]); omega))
      replace HXB := Lib.hid hown
      clear hown ht
      generalize K1 + 3 * l.length = K2
      obtain ⟨vBA0, vBA1⟩ := BA.out.cells
      obtain ⟨vBW0, vBW1⟩ := BW.out.cells
      obtain ⟨vBX0, vBX1⟩ := BX.out.cells
      obtain ⟨vBG0, vBG1⟩ := BG.out.cells
      go_wp2_with fail
      refine (eq_any _ (.slice ga gn gc) (.slice gb gm gd) (.slice pa pn pc) (.slice pb pm pd) R (by omega) (by omega) HG.out.holds HW.out.holds).mono ?_
      rintro e w16 ⟨rfl, hb⟩
      have s16 := hb.size
      clear vBA0 vBA1 vBW0 vBW1 vBX0 vBX1 vBG0 vBG1
      replace HB := Lib.hid (HB.out.trans (hb.mono HB.out.size))
      replace BA := Lib.hid (BA.out.below hb)
      replace BW := Lib.hid (BW.out.below hb)
      replace BX := Lib.hid (BX.out.below hb)
      replace BG := Lib.hid (BG.out.below hb)
      replace HW := Lib.hid (HW.out.below hb)
      replace HX := Lib.hid (HX.out.below hb)
      replace HXB := Lib.hid (HXB.out.below hb)
      replace HG := Lib.hid (HG.out.below hb)
      clear hb
      obtain ⟨vBA0, vBA1⟩ := BA.out.cells
      obtain ⟨vBW0, vBW1⟩ := BW.out.cells
      obtain ⟨vBX0, vBX1⟩ := BX.out.cells
      obtain ⟨vBG0, vBG1⟩ := BG.out.cells
      clear vBA0 vBA1 vBW0 vBW1 vBX0 vBX1 vBG0 vBG1
      clear HX BX HXB
      obtain ⟨vBA0, vBA1⟩ := BA.out.cells
      obtain ⟨vBW0, vBW1⟩ := BW.out.cells
      obtain ⟨vBG0, vBG1⟩ := BG.out.cells
      go_wp2_with fail
      refine (mark_all _ _ _ (.slice ga gn gc) (.slice gb gm gd) R 1 (by omega) (by unfold Dk.behind; omega) (by omega) HG.out).mono ?_
      rintro e w17 ⟨rfl, hown, ht⟩
      have s17 := ht.size
      clear vBA0 vBA1 vBW0 vBW1 vBG0 vBG1
      replace HB := Lib.hid (HB.out.trans (ht.below (by (try simp only [World.size_alloc]); omega) (by (try simp only [World.size_alloc]); omega)))
      replace BA := Lib.hid (BA.out.turned ht (by (try simp only [World.size_alloc]); omega))
      replace BW := Lib.hid (BW.out.turned ht (by (try simp only [World.size_alloc]); omega))
      replace BG := Lib.hid (BG.out.turned ht (by (try simp only [World.size_alloc]); omega))
      replace HW := Lib.hid (HW.out.turned ht (by (try simp only [World.size_alloc]); omega))
      replace HG := Lib.hid hown
      clear hown ht
      rw [← HK.out]
      obtain ⟨vBA0, vBA1⟩ := BA.out.cells
      obtain ⟨vBW0, vBW1⟩ := BW.out.cells
      obtain ⟨vBG0, vBG1⟩ := BG.out.cells
      go_wp2_with fail
      refine (held_all _ (.slice ga gn gc) (.slice gb gm gd) R 1 (by omega) (by unfold Dk.behind; omega) HG.out.holds).mono ?_
      rintro e w18 ⟨rfl, hb⟩
      have s18 := hb.size
      clear vBA0 vBA1 vBW0 vBW1 vBG0 vBG1
      replace HB := Lib.hid (HB.out.trans (hb.mono HB.out.size))
      replace BA := Lib.hid (BA.out.below hb)
      replace BW := Lib.hid (BW.out.below hb)
      replace BG := Lib.hid (BG.out.below hb)
      replace HW := Lib.hid (HW.out.below hb)
      replace HG := Lib.hid (HG.out.below hb)
      clear hb
      rw [← HK.out]
      obtain ⟨vBA0, vBA1⟩ := BA.out.cells
      obtain ⟨vBW0, vBW1⟩ := BW.out.cells
      obtain ⟨vBG0, vBG1⟩ := BG.out.cells
      go_wp2_with fail
      refine (to_any _ vs vp d (by omega) (by omega) (HIN.out.holds.below HB.out)).mono ?_
      rintro e w19 ⟨ls, lp, rfl, hown, hb⟩
      have s19 := hb.size
      clear vBA0 vBA1 vBW0 vBW1 vBG0 vBG1
      have HT := Lib.hid hown
      clear hown
      replace HB := Lib.hid (HB.out.trans (hb.mono HB.out.size))
      replace BA := Lib.hid (BA.out.below hb)
      replace BW := Lib.hid (BW.out.below hb)
      replace BG := Lib.hid (BG.out.below hb)
      replace HW := Lib.hid (HW.out.below hb)
      replace HG := Lib.hid (HG.out.below hb)
      clear hb
      obtain ⟨vBA0, vBA1⟩ := BA.out.cells
      obtain ⟨vBW0, vBW1⟩ := BW.out.cells
      obtain ⟨vBG0, vBG1⟩ := BG.out.cells
      go_wp2_with fail
      refine (Sp.to_any _ lv l (by omega) (Sp.holds_below HLN.out.holds HB.out)).mono ?_
      rintro e w20 ⟨lk, rfl, hown, hb⟩
      have s20 := hb.size
      clear vBA0 vBA1 vBW0 vBW1 vBG0 vBG1
      have HTB := Lib.hid (Dk.RowIn.fresh hown)
      clear hown
      replace HB := Lib.hid (HB.out.trans (hb.mono HB.out.size))
      replace BA := Lib.hid (BA.out.below hb)
      replace BW := Lib.hid (BW.out.below hb)
      replace BG := Lib.hid (BG.out.below hb)
      replace HW := Lib.hid (HW.out.below hb)
      replace HG := Lib.hid (HG.out.below hb)
      replace HT := Lib.hid (HT.out.below hb)
      clear hb
      obtain ⟨vBA0, vBA1⟩ := BA.out.cells
      obtain ⟨vBW0, vBW1⟩ := BW.out.cells
      obtain ⟨vBG0, vBG1⟩ := BG.out.cells
      go_wp2_with fail
      refine (Run.impl_own _ ls lp lk d l n _ _ (by omega) (by omega) (by omega) HSZ.out HT.out.holds HTB.out.1).mono ?_
      rintro e w21 ⟨_, _, rfl, hown, hb⟩
      have s21 := hb.size
      clear vBA0 vBA1 vBW0 vBW1 vBG0 vBG1
      rw [← HRR.out] at hown
      obtain ⟨⟨ya, yn, yc, rfl⟩, ⟨yb, ym, yd, rfl⟩⟩ := hown.forms
      have HH := Lib.hid hown
      clear hown
      replace HB := Lib.hid (HB.out.trans (hb.mono HB.out.size))
      replace BA := Lib.hid (BA.out.below hb)
      replace BW := Lib.hid (BW.out.below hb)
      replace BG := Lib.hid (BG.out.below hb)
      replace HW := Lib.hid (HW.out.below hb)
      replace HG := Lib.hid (HG.out.below hb)
      replace HT := Lib.hid (HT.out.below hb)
      replace HTB := Lib.hid (HTB.out.below hb)
      clear hb
      obtain ⟨vBA0, vBA1⟩ := BA.out.cells
      obtain ⟨vBW0, vBW1⟩ := BW.out.cells
      obtain ⟨vBG0, vBG1⟩ := BG.out.cells
      clear HT HTB
      clear vBA0 vBA1 vBW0 vBW1 vBG0 vBG1
      have hb := Joins.below_alloc1 w21 (.cells #[.slice ya yn yc, .slice yb ym yd] 26)
      replace HB := Lib.hid (HB.out.trans (hb.mono HB.out.size))
      replace BA := Lib.hid (BA.out.below hb)
      replace BW := Lib.hid (BW.out.below hb)
      replace BG := Lib.hid (BG.out.below hb)
      replace HW := Lib.hid (HW.out.below hb)
      replace HG := Lib.hid (HG.out.below hb)
      replace HH := Lib.hid (HH.out.below hb)
      have BH := Lib.hid (show Dk.Box (w21.alloc (.cells #[.slice ya yn yc, .slice yb ym yd] 26)) (w21.heap.size) _ _ 26 from Dk.blk_new w21 (.cells #[.slice ya yn yc, .slice yb ym yd] 26))
      clear hb
      obtain ⟨vBA0, vBA1⟩ := BA.out.cells
      obtain ⟨vBW0, vBW1⟩ := BW.out.cells
      obtain ⟨vBG0, vBG1⟩ := BG.out.cells
      obtain ⟨vBH0, vBH1⟩ := BH.out.cells
      go_wp2_with fail
      refine (eq_any _ (.slice ya yn yc) (.slice yb ym yd) (.slice pa pn pc) (.slice pb pm pd) R (by omega) (by omega) HH.out.holds HW.out.holds).mono ?_
      rintro e w22 ⟨rfl, hb⟩
      have s22 := hb.size
      simp only [World.size_alloc] at s22
      clear vBA0 vBA1 vBW0 vBW1 vBG0 vBG1 vBH0 vBH1
      replace HB := Lib.hid (HB.out.trans (hb.mono HB.out.size))
      replace BA := Lib.hid (BA.out.below hb)
      replace BW := Lib.hid (BW.out.below hb)
      replace BG := Lib.hid (BG.out.below hb)
      replace BH := Lib.hid (BH.out.below hb)
      replace HW := Lib.hid (HW.out.below hb)
      replace HG := Lib.hid (HG.out.below hb)
      replace HH := Lib.hid (HH.out.below hb)
      clear hb
      obtain ⟨vBA0, vBA1⟩ := BA.out.cells
      obtain ⟨vBW0, vBW1⟩ := BW.out.cells
      obtain ⟨vBG0, vBG1⟩ := BG.out.cells
      obtain ⟨vBH0, vBH1⟩ := BH.out.cells
      go_wp2_with fail
      refine (held_all _ (.slice ga gn gc) (.slice gb gm gd) R 1 (by omega) (by unfold Dk.behind; omega) HG.out.holds).mono ?_
      rintro e w23 ⟨rfl, hb⟩
      have s23 := hb.size
      clear vBA0 vBA1 vBW0 vBW1 vBG0 vBG1 vBH0 vBH1
      replace HB := Lib.hid (HB.out.trans (hb.mono HB.out.size))
      replace BA := Lib.hid (BA.out.below hb)
      replace BW := Lib.hid (BW.out.below hb)
      replace BG := Lib.hid (BG.out.below hb)
      replace BH := Lib.hid (BH.out.below hb)
      replace HW := Lib.hid (HW.out.below hb)
      replace HG := Lib.hid (HG.out.below hb)
      replace HH := Lib.hid (HH.out.below hb)
      clear hb
      rw [← HK.out]
      obtain ⟨vBA0, vBA1⟩ := BA.out.cells
      obtain ⟨vBW0, vBW1⟩ := BW.out.cells
      obtain ⟨vBG0, vBG1⟩ := BG.out.cells
      obtain ⟨vBH0, vBH1⟩ := BH.out.cells
      go_wp2
      go_ret
      exact ⟨rfl, HB.out⟩
    · have HC2 := Lib.hid (Sp.budget_neg hc2)
      clear hc2
      go_enter Try.func10, Try.ntmps10
      have HB := Lib.hid (Below.refl w.heap.size w)
      have hb := Joins.below_alloc1 w (.cells #[vs, vp] 50)
      replace HB := Lib.hid (HB.out.trans (hb.mono HB.out.size))
      have BA := Lib.hid (show Dk.Box (w.alloc (.cells #[vs, vp] 50)) (w.heap.size) _ _ 50 from Dk.blk_new w (.cells #[vs, vp] 50))
      clear hb
      obtain ⟨vBA0, vBA1⟩ := BA.out.cells
      go_wp2_with fail
      refine (sz_any _ vs vp d 1048576 (by omega) HIN.out.l1 HIN.out.z1 HIN.out.l2 HIN.out.z2 (HIN.out.holds.below HB.out)).mono ?_
      rintro e w1 ⟨rfl, hb⟩
      have s1 := hb.size
      simp only [World.size_alloc] at s1
      clear vBA0 vBA1
      replace HB := Lib.hid (HB.out.trans (hb.mono HB.out.size))
      replace BA := Lib.hid (BA.out.below hb)
      clear hb
      rw [HC.out]
      obtain ⟨vBA0, vBA1⟩ := BA.out.cells
      go_wp2_with fail
      refine (Sp.sz_any _ lv l r (by omega) HLN.out.len HLN.out.sz (Sp.holds_below HLN.out.holds HB.out)).mono ?_
      rintro e w2 ⟨rfl, hb⟩
      have s2 := hb.size
      clear vBA0 vBA1
      replace HB := Lib.hid (HB.out.trans (hb.mono HB.out.size))
      replace BA := Lib.hid (BA.out.below hb)
      clear hb
      rw [HC2.out]
      obtain ⟨vBA0, vBA1⟩ := BA.out.cells
      go_wp2
      go_ret
      exact ⟨rfl, HB.out⟩
  · have HC := Lib.hid (cost_neg hc)
    clear hc
    go_enter Try.func10, Try.ntmps10
    have HB := Lib.hid (Below.refl w.heap.size w)
    have hb := Joins.below_alloc1 w (.cells #[vs, vp] 50)
    replace HB := Lib.hid (HB.out.trans (hb.mono HB.out.size))
    have BA := Lib.hid (show Dk.Box (w.alloc (.cells #[vs, vp] 50)) (w.heap.size) _ _ 50 from Dk.blk_new w (.cells #[vs, vp] 50))
    clear hb
    obtain ⟨vBA0, vBA1⟩ := BA.out.cells
    go_wp2_with fail
    refine (sz_any _ vs vp d 1048576 (by omega) HIN.out.l1 HIN.out.z1 HIN.out.l2 HIN.out.z2 (HIN.out.holds.below HB.out)).mono ?_
    rintro e w1 ⟨rfl, hb⟩
    have s1 := hb.size
    simp only [World.size_alloc] at s1
    clear vBA0 vBA1
    replace HB := Lib.hid (HB.out.trans (hb.mono HB.out.size))
    replace BA := Lib.hid (BA.out.below hb)
    clear hb
    rw [HC.out]
    obtain ⟨vBA0, vBA1⟩ := BA.out.cells
    go_wp2
    go_ret
    exact ⟨rfl, HB.out⟩

set_option maxRecDepth 100000 in
theorem lifted (os : Os) (started : os.Started) (H : Type) (enc : TypeId × Value → H) :
    ReturnsInHanded {} Try.checked os 10 .any (Rows.fnExactRunStepsSpec.pre6 enc Try.prog Try.f10 Rows.fnExactRunStepsRow.domain false) (Rows.fnExactRunStepsSpec.post enc Try.prog Try.f10 false true false false) := by
  refine returnsInHanded_of_change (C := Try.checked) Kit.own started (by kernel_rfl) Try.func10
    (ChangeSpec.witness6 (enc := enc) (C := Try.checked) false ⟨#[], #[.agg #[.slice none 0 0, .slice none 0 0], .slice none 0 0, .int .i64 0], []⟩ 8 (by kernel_rfl) (by kernel_rfl) (by kernel_rfl) (by kernel_rfl)) ?_
  intro W base args ds gs before hval0 hW hcnd _
  have hval : ∀ (j : Nat) t v, Try.f10.params[j]? = some t → args[j]? = some v → Value.okWide Try.prog W .any base t v := hval0
  have hW' := hW
  obtain ⟨p, q, hA0, hV, rfl, hfz, hnd⟩ := hW
  have hA : DataW.TrodAll enc Try.prog W 0 (fun _ => true) true Try.f10.params.toList args.toList ds p := hA0
  rw [Try.params10] at hA hval
  obtain ⟨v0, v1, v2, d0, d1, d2, p0, p1, p2, rfl, rfl, rfl, h0, h1, h2⟩ := trodAll_three hA
  obtain ⟨a2, rfl, rfl, rfl, w2⟩ := open_int Try.underlying3 (hval 2 3 v2 rfl rfl) h2
  obtain ⟨s0, u0, a0, rfl, w0⟩ := Dk.disk_of (hval 0 50 v0 rfl rfl) h0
  obtain ⟨a1, w1⟩ := Sp.list_of (hval 1 65 v1 rfl rfl) h1
  refine (law_any s0 u0 a0 _ a1 a2 W w0 w1 w2).mono fun e W' ⟨he, hb⟩ => ?_
  subst he
  exact ⟨_, rfl, Kit.law_post Kit.laidOut (by kernel_rfl) Try.underlying4 rfl rfl (fun H ds hl => by match ds, hl with | [d0, d1, d2], _ => rfl) hW' hb⟩

theorem holds : Rows.FnExactRunStepsSaid :=
  OpenClaim.holds_of_wide 10 Try.f10 rfl rfl rfl rfl rfl rfl rfl ⟨rfl, rfl, rfl, rfl, rfl⟩ rfl rfl rfl rfl rfl (by kernel_rfl) Try.func10 (by kernel_rfl)
    (of_decide_eq_true (by kernel_rfl)) (by unfold Func.isWrapper; first | (rw [if_pos (by decide +kernel)]; kernel_rfl) | (rw [if_neg (by decide +kernel)]; exact ⟨rfl, rfl⟩))
    (fun os started H enc _ => lifted os started H enc)
#print axioms holds
end Go.Proofs.Ytgapjdkelkmdgaa.RunLaw
