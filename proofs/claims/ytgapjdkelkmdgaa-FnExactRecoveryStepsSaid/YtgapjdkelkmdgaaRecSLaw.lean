/- Proved: for every disk, the law FnExactRecoverySteps returns true and leaves its argument as it was: the program's RecoverySteps answers as the model's, in memory of its own. No condition beyond the row's own. -/
import Derived.Test.YtgapjdkelkmdgaaRec
import Derived.Test.YtgapjdkelkmdgaaSpTwo
import Derived.Test.YtgapjdkelkmdgaaDkOpen
namespace Go.Proofs.Ytgapjdkelkmdgaa.RecSLaw
open Go.ChangeShapes Go.WideShapes Go.ChangeAt Go.RowKit
open Go.ChangeMaps (open_string shut_string)
open Dk (D Holds Ok In Own cost costOf cost_pos cost_neg cost_len sz_any to_any eq_any mark_all held_all)
set_option linter.unusedVariables false

set_option maxRecDepth 100000 in
set_option maxHeartbeats 4000000 in
theorem law_any (vs vp : Value) (d : D) (w : World) (hin : In w vs vp d) :
    Calls Try.prog 11 #[.agg #[vs, vp]] w fun e w' => e = .returned (.bool true) ∧ Below w.heap.size w w' := by
  have HIN := Lib.hid hin
  clear hin
  obtain ⟨R, hRR⟩ : ∃ R, R = Txn.recV d := ⟨_, rfl⟩
  have hR : R.length ≤ 67 := by rw [hRR]; exact Rec.rec_len d
  obtain ⟨KM, hKM⟩ : ∃ k, k = 1 + 3 * R.length := ⟨_, rfl⟩
  have HRR := Lib.hid hRR
  have HK := Lib.hid hKM
  clear hRR hKM
  by_cases hc : cost d ≤ 1048576
  · have HC := Lib.hid (cost_pos hc)
    have hl1 := (cost_len hc).1
    have hl2 := (cost_len hc).2
    obtain ⟨r, hr⟩ : ∃ r : Nat, r = 1048576 - cost d := ⟨_, rfl⟩
    have hr0 : r ≤ 1048576 := by omega
    rw [← hr] at HC
    clear hr hc
    go_enter Try.func11, Try.ntmps11
    have HB := Lib.hid (Below.refl w.heap.size w)
    have hb := Joins.below_alloc1 w (.cells #[vs, vp] 50)
    replace HB := Lib.hid (HB.out.trans (hb.mono HB.out.size))
    have BA := Lib.hid (show Dk.Box (w.alloc (.cells #[vs, vp] 50)) (w.heap.size) _ _ 50 from Dk.blk_new w (.cells #[vs, vp] 50))
    clear hb
    obtain ⟨vBA0, vBA1⟩ := BA.out.cells
    go_wp2_with fail
    refine (sz_any _ vs vp d 1048576 (by omega) HIN.out.l1 HIN.out.z1 HIN.out.l2 HIN.out.z2 (HIN.out.holds.below HB.out)).mono ?_
    rintro e w1 ⟨rfl, hb⟩
    have s1 := hb.size
    simp only [World.size_alloc] at s1
    clear vBA0 vBA1
    replace HB := Lib.hid (HB.out.trans (hb.mono HB.out.size))
    replace BA := Lib.hid (BA.out.below hb)
    clear hb
    rw [HC.out]
    obtain ⟨vBA0, vBA1⟩ := BA.out.cells
    go_wp2_with fail
    refine (to_any _ vs vp d (by omega) (by omega) (HIN.out.holds.below HB.out)).mono ?_
    rintro e w2 ⟨ks, kp, rfl, hown, hb⟩
    have s2 := hb.size
    clear vBA0 vBA1
    have HT := Lib.hid hown
    clear hown
    replace HB := Lib.hid (HB.out.trans (hb.mono HB.out.size))
    replace BA := Lib.hid (BA.out.below hb)
    clear hb
    obtain ⟨vBA0, vBA1⟩ := BA.out.cells
    go_wp2_with fail
    refine (Rec.specS_any _ ks kp d (by omega) (by omega) HT.out.holds).mono ?_
    rintro e w3 ⟨pv, rfl, hown, hb⟩
    have s3 := hb.size
    clear vBA0 vBA1
    rw [← HRR.out] at hown
    have HW := Lib.hid (Dk.RowIn.fresh hown)
    clear hown
    replace HB := Lib.hid (HB.out.trans (hb.mono HB.out.size))
    replace BA := Lib.hid (BA.out.below hb)
    replace HT := Lib.hid (HT.out.below hb)
    clear hb
    obtain ⟨vBA0, vBA1⟩ := BA.out.cells
    clear HT
    go_wp2_with fail
    refine (to_any _ vs vp d (by omega) (by omega) (HIN.out.holds.below HB.out)).mono ?_
    rintro e w4 ⟨_, _, rfl, hown, hb⟩
    have s4 := hb.size
    clear vBA0 vBA1
    obtain ⟨⟨xa, xn, xc, rfl⟩, ⟨xb, xm, xd, rfl⟩⟩ := hown.forms
    have HX := Lib.hid hown
    clear hown
    replace HB := Lib.hid (HB.out.trans (hb.mono HB.out.size))
    replace BA := Lib.hid (BA.out.below hb)
    replace HW := Lib.hid (HW.out.below hb)
    clear hb
    obtain ⟨vBA0, vBA1⟩ := BA.out.cells
    clear vBA0 vBA1
    have hb := Joins.below_alloc1 w4 (.cells #[.slice xa xn xc, .slice xb xm xd] 26)
    replace HB := Lib.hid (HB.out.trans (hb.mono HB.out.size))
    replace BA := Lib.hid (BA.out.below hb)
    replace HW := Lib.hid (HW.out.below hb)
    replace HX := Lib.hid (HX.out.below hb)
    have BX := Lib.hid (show Dk.Box (w4.alloc (.cells #[.slice xa xn xc, .slice xb xm xd] 26)) (w4.heap.size) _ _ 26 from Dk.blk_new w4 (.cells #[.slice xa xn xc, .slice xb xm xd] 26))
    clear hb
    obtain ⟨vBA0, vBA1⟩ := BA.out.cells
    obtain ⟨vBX0, vBX1⟩ := BX.out.cells
    go_wp2_with fail
    refine (Rec.implS_any _ (.slice xa xn xc) (.slice xb xm xd) d (by omega) (by omega) HX.out.holds).mono ?_
    rintro e w5 ⟨gv, rfl, hown, hb⟩
    have s5 := hb.size
    simp only [World.size_alloc] at s5
    clear vBA0 vBA1 vBX0 vBX1
    rw [← HRR.out] at hown
    have HG := Lib.hid (Dk.RowIn.fresh hown)
    clear hown
    replace HB := Lib.hid (HB.out.trans (hb.mono HB.out.size))
    replace BA := Lib.hid (BA.out.below hb)
    replace BX := Lib.hid (BX.out.below hb)
    replace HW := Lib.hid (HW.out.below hb)
    replace HX := Lib.hid (HX.out.below hb)
    clear hb
    obtain ⟨vBA0, vBA1⟩ := BA.out.cells
    obtain ⟨vBX0, vBX1⟩ := BX.out.cells
    go_wp2_with fail
    refine (Sp.eq_any _ gv pv R (by omega) (Sp.holds_of_own HG.out.1) (Sp.holds_of_own HW.out.1)).mono ?_
    rintro e w6 ⟨rfl, hb⟩
    have s6 := hb.size
    clear vBA0 vBA1 vBX0 vBX1
    replace HB := Lib.hid (HB.out.trans (hb.mono HB.out.size))
    replace BA := Lib.hid (BA.out.below hb)
    replace BX := Lib.hid (BX.out.below hb)
    replace HW := Lib.hid (HW.out.below hb)
    replace HX := Lib.hid (HX.out.below hb)
    replace HG := Lib.hid (HG.out.below hb)
    clear hb
    obtain ⟨vBA0, vBA1⟩ := BA.out.cells
    obtain ⟨vBX0, vBX1⟩ := BX.out.cells
    go_wp2
    go_region_held3 (fun w' => w'.cell? ⟨w4.heap.size, 0, none⟩ = some (.slice xa xn xc) ∧ w'.cell? ⟨w4.heap.size, 1, none⟩ = some (.slice xb xm xd) ∧ w'.cell? ⟨w.heap.size, 0, none⟩ = some (vs) ∧ w'.cell? ⟨w.heap.size, 1, none⟩ = some (vp)) (go_keep)
      (first | (go_at_call 30; replace HB := Lib.hid HB.out.drew; replace BA := Lib.hid (show Dk.Box (World.drew w6) _ _ _ _ from BA.out); replace BX := Lib.hid (show Dk.Box (World.drew w6) _ _ _ _ from BX.out); replace HW := Lib.hid (show Dk.RowIn (World.drew w6) _ _ _ _ _ _ _ from HW.out); replace HX := Lib.hid (show Dk.Own (World.drew w6) _ _ _ _ _ from HX.out); replace HG := Lib.hid (show Dk.RowIn (World.drew w6) _ _ _ _ _ _ _ from HG.out); refine (to_any _ vs vp d (by omega) (by omega) (HIN.out.holds.below HB.out)).mono ?_; rintro e w7 ⟨zs, zp, rfl, hown, hb⟩; have s7 := hb.size; try simp only [World.size_alloc, World.size_drew] at s7; have HZ := Lib.hid hown; clear hown; replace HB := Lib.hid (HB.out.trans (hb.mono HB.out.size)); replace BA := Lib.hid (Dk.Box.below BA.out hb); replace BX := Lib.hid (Dk.Box.below BX.out hb); replace HW := Lib.hid (Dk.RowIn.below HW.out hb); replace HX := Lib.hid (Dk.Own.below HX.out hb); replace HG := Lib.hid (Dk.RowIn.below HG.out hb); clear hb; obtain ⟨vBAw70, vBAw71⟩ := BA.out.cells; obtain ⟨vBXw70, vBXw71⟩ := BX.out.cells) | (go_at_call 32; refine (eq_any _ (.slice xa xn xc) (.slice xb xm xd) zs zp d (by omega) (by omega) HX.out.holds HZ.out.holds).mono ?_; rintro e w8 ⟨rfl, hb⟩; have s8 := hb.size; replace HB := Lib.hid (HB.out.trans (hb.mono HB.out.size)); replace BA := Lib.hid (Dk.Box.below BA.out hb); replace BX := Lib.hid (Dk.Box.below BX.out hb); replace HW := Lib.hid (Dk.RowIn.below HW.out hb); replace HX := Lib.hid (Dk.Own.below HX.out hb); replace HG := Lib.hid (Dk.RowIn.below HG.out hb); replace HZ := Lib.hid (Dk.Own.below HZ.out hb); clear hb; obtain ⟨vBAw80, vBAw81⟩ := BA.out.cells; obtain ⟨vBXw80, vBXw81⟩ := BX.out.cells))
    clear vBA0 vBA1 vBX0 vBX1
    clear HZ
    go_wp2_with fail
    refine (mark_all _ _ _ (.slice xa xn xc) (.slice xb xm xd) d 1 (by omega) (by unfold Dk.behind; omega) (by omega) HX.out).mono ?_
    rintro e w9 ⟨rfl, hown, ht⟩
    have s9 := ht.size
    clear vBAw80 vBAw81 vBXw80 vBXw81
    replace HB := Lib.hid (HB.out.trans (ht.below (by (try simp only [World.size_alloc]); omega) (by (try simp only [World.size_alloc]); omega)))
    replace BA := Lib.hid (BA.out.turned ht (by (try simp only [World.size_alloc]); omega))
    replace BX := Lib.hid (BX.out.turned ht (by (try simp only [World.size_alloc]); omega))
    replace HW := Lib.hid (HW.out.turned ht (by (try simp only [World.size_alloc]); omega))
    replace HG := Lib.hid (HG.out.turned ht (by (try simp only [World.size_alloc]); omega))
    replace HX := Lib.hid hown
    clear hown ht
    generalize Dk.behind 1 d = K1
    obtain ⟨vBA0, vBA1⟩ := BA.out.cells
    obtain ⟨vBX0, vBX1⟩ := BX.out.cells
    go_wp2_with fail
    refine (Sp.eq_any _ gv pv R (by omega) (Sp.holds_of_own HG.out.1) (Sp.holds_of_own HW.out.1)).mono ?_
    rintro e w10 ⟨rfl, hb⟩
    have s10 := hb.size
    clear vBA0 vBA1 vBX0 vBX1
    replace HB := Lib.hid (HB.out.trans (hb.mono HB.out.size))
    replace BA := Lib.hid (BA.out.below hb)
    replace BX := Lib.hid (BX.out.below hb)
    replace HW := Lib.hid (HW.out.below hb)
    replace HX := Lib.hid (HX.out.below hb)
    replace HG := Lib.hid (HG.out.below hb)
    clear hb
    obtain ⟨vBA0, vBA1⟩ := BA.out.cells
    obtain ⟨vBX0, vBX1⟩ := BX.out.cells
    clear vBA0 vBA1 vBX0 vBX1
    clear HX BX
    obtain ⟨vBA0, vBA1⟩ := BA.out.cells
    go_wp2_with fail
    refine (Sp.mark_in _ _ _ gv R 1 (by omega) (by omega) (by omega) HG.out).mono ?_
    rintro e w11 ⟨rfl, hown, ht⟩
    have s11 := ht.size
    clear vBA0 vBA1
    replace HB := Lib.hid (HB.out.trans (ht.below (by (try simp only [World.size_alloc]); omega) (by (try simp only [World.size_alloc]); omega)))
    replace BA := Lib.hid (BA.out.turned ht (by (try simp only [World.size_alloc]); omega))
    replace HW := Lib.hid (HW.out.turned ht (by (try simp only [World.size_alloc]); omega))
    replace HG := Lib.hid hown
    clear hown ht
    rw [← HK.out]
    obtain ⟨vBA0, vBA1⟩ := BA.out.cells
    go_wp2_with fail
    refine (Sp.held_in _ gv R.length 1 (by omega) (by omega) (Sp.holds_of_own HG.out.1)).mono ?_
    rintro e w12 ⟨rfl, hb⟩
    have s12 := hb.size
    clear vBA0 vBA1
    replace HB := Lib.hid (HB.out.trans (hb.mono HB.out.size))
    replace BA := Lib.hid (BA.out.below hb)
    replace HW := Lib.hid (HW.out.below hb)
    replace HG := Lib.hid (HG.out.below hb)
    clear hb
    rw [← HK.out]
    obtain ⟨vBA0, vBA1⟩ := BA.out.cells
    go_wp2_with fail
    refine (to_any _ vs vp d (by omega) (by omega) (HIN.out.holds.below HB.out)).mono ?_
    rintro e w13 ⟨ls, lp, rfl, hown, hb⟩
    have s13 := hb.size
    clear vBA0 vBA1
    have HT := Lib.hid hown
    clear hown
    replace HB := Lib.hid (HB.out.trans (hb.mono HB.out.size))
    replace BA := Lib.hid (BA.out.below hb)
    replace HW := Lib.hid (HW.out.below hb)
    replace HG := Lib.hid (HG.out.below hb)
    clear hb
    obtain ⟨vBA0, vBA1⟩ := BA.out.cells
    go_wp2_with fail
    refine (Rec.implS_any _ ls lp d (by omega) (by omega) HT.out.holds).mono ?_
    rintro e w14 ⟨yv, rfl, hown, hb⟩
    have s14 := hb.size
    clear vBA0 vBA1
    rw [← HRR.out] at hown
    have HH := Lib.hid (Dk.RowIn.fresh hown)
    clear hown
    replace HB := Lib.hid (HB.out.trans (hb.mono HB.out.size))
    replace BA := Lib.hid (BA.out.below hb)
    replace HW := Lib.hid (HW.out.below hb)
    replace HG := Lib.hid (HG.out.below hb)
    replace HT := Lib.hid (HT.out.below hb)
    clear hb
    obtain ⟨vBA0, vBA1⟩ := BA.out.cells
    clear HT
    go_wp2_with fail
    refine (Sp.eq_any _ yv pv R (by omega) (Sp.holds_of_own HH.out.1) (Sp.holds_of_own HW.out.1)).mono ?_
    rintro e w15 ⟨rfl, hb⟩
    have s15 := hb.size
    clear vBA0 vBA1
    replace HB := Lib.hid (HB.out.trans (hb.mono HB.out.size))
    replace BA := Lib.hid (BA.out.below hb)
    replace HW := Lib.hid (HW.out.below hb)
    replace HG := Lib.hid (HG.out.below hb)
    replace HH := Lib.hid (HH.out.below hb)
    clear hb
    obtain ⟨vBA0, vBA1⟩ := BA.out.cells
    go_wp2_with fail
    refine (Sp.held_in _ gv R.length 1 (by omega) (by omega) (Sp.holds_of_own HG.out.1)).mono ?_
    rintro e w16 ⟨rfl, hb⟩
    have s16 := hb.size
    clear vBA0 vBA1
    replace HB := Lib.hid (HB.out.trans (hb.mono HB.out.size))
    replace BA := Lib.hid (BA.out.below hb)
    replace HW := Lib.hid (HW.out.below hb)
    replace HG := Lib.hid (HG.out.below hb)
    replace HH := Lib.hid (HH.out.below hb)
    clear hb
    rw [← HK.out]
    obtain ⟨vBA0, vBA1⟩ := BA.out.cells
    go_wp2
    go_ret
    exact ⟨rfl, HB.out⟩
  · have HC := Lib.hid (cost_neg hc)
    clear hc
    go_enter Try.func11, Try.ntmps11
    have HB := Lib.hid (Below.refl w.heap.size w)
    have hb := Joins.below_alloc1 w (.cells #[vs, vp] 50)
    replace HB := Lib.hid (HB.out.trans (hb.mono HB.out.size))
    have BA := Lib.hid (show Dk.Box (w.alloc (.cells #[vs, vp] 50)) (w.heap.size) _ _ 50 from Dk.blk_new w (.cells #[vs, vp] 50))
    clear hb
    obtain ⟨vBA0, vBA1⟩ := BA.out.cells
    go_wp2_with fail
    refine (sz_any _ vs vp d 1048576 (by omega) HIN.out.l1 HIN.out.z1 HIN.out.l2 HIN.out.z2 (HIN.out.holds.below HB.out)).mono ?_
    rintro e w1 ⟨rfl, hb⟩
    have s1 := hb.size
    simp only [World.size_alloc] at s1
    clear vBA0 vBA1
    replace HB := Lib.hid (HB.out.trans (hb.mono HB.out.size))
    replace BA := Lib.hid (BA.out.below hb)
    clear hb
    rw [HC.out]
    obtain ⟨vBA0, vBA1⟩ := BA.out.cells
    go_wp2
    go_ret
    exact ⟨rfl, HB.out⟩

set_option maxRecDepth 100000 in
theorem lifted (os : Os) (started : os.Started) (H : Type) (enc : TypeId × Value → H) :
    ReturnsInHanded {} Try.checked os 11 .any (Rows.fnExactRecoveryStepsSpec.pre6 enc Try.prog Try.f11 Rows.fnExactRecoveryStepsRow.domain false) (Rows.fnExactRecoveryStepsSpec.post enc Try.prog Try.f11 false true false false) := by
  refine returnsInHanded_of_change (C := Try.checked) Kit.own started (by kernel_rfl) Try.func11
    (ChangeSpec.witness6 (enc := enc) (C := Try.checked) false ⟨#[], #[.agg #[.slice none 0 0, .slice none 0 0]], []⟩ 8 (by kernel_rfl) (by kernel_rfl) (by kernel_rfl) (by kernel_rfl)) ?_
  intro W base args ds gs before hval0 hW hcnd _
  have hval : ∀ (j : Nat) t v, Try.f11.params[j]? = some t → args[j]? = some v → Value.okWide Try.prog W .any base t v := hval0
  have hW' := hW
  obtain ⟨p, q, hA0, hV, rfl, hfz, hnd⟩ := hW
  have hA : DataW.TrodAll enc Try.prog W 0 (fun _ => true) true Try.f11.params.toList args.toList ds p := hA0
  rw [Try.params11] at hA hval
  obtain ⟨v0, d0, rfl, rfl, h0⟩ := trodAll_one hA
  obtain ⟨s0, u0, a0, rfl, w0⟩ := Dk.disk_of (hval 0 50 v0 rfl rfl) h0
  refine (law_any s0 u0 a0 W w0).mono fun e W' ⟨he, hb⟩ => ?_
  subst he
  exact ⟨_, rfl, Kit.law_post Kit.laidOut (by kernel_rfl) Try.underlying4 rfl rfl (fun H ds hl => by match ds, hl with | [d0], _ => rfl) hW' hb⟩

theorem holds : Rows.FnExactRecoveryStepsSaid :=
  OpenClaim.holds_of_wide 11 Try.f11 rfl rfl rfl rfl rfl rfl rfl ⟨rfl, rfl, rfl, rfl, rfl⟩ rfl rfl rfl rfl rfl (by kernel_rfl) Try.func11 (by kernel_rfl)
    (of_decide_eq_true (by kernel_rfl)) (by unfold Func.isWrapper; first | (rw [if_pos (by decide +kernel)]; kernel_rfl) | (rw [if_neg (by decide +kernel)]; exact ⟨rfl, rfl⟩))
    (fun os started H enc _ => lifted os started H enc)
#print axioms holds
end Go.Proofs.Ytgapjdkelkmdgaa.RecSLaw
