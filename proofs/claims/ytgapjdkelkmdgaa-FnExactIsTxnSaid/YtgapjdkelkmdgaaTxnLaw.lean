/- Proved: for every disk and every list of writes, the law FnExactIsTxn returns true and leaves its arguments as they were: the program's IsTxn answers as the model's. No condition beyond the row's own. -/
import Derived.Test.YtgapjdkelkmdgaaIsTxnSpec
import Derived.Test.YtgapjdkelkmdgaaWrIn
namespace Go.Proofs.Ytgapjdkelkmdgaa.TxnLaw
open Go.ChangeShapes Go.WideShapes Go.ChangeAt Go.RowKit
open Go.ChangeMaps (open_string shut_string)
open Dk (D Holds Ok In Own cost costOf cost_pos cost_neg cost_len sz_any to_any eq_any mark_all held_all)
open Wr (LIn lcost)
open Txn (Okay)
set_option linter.unusedVariables false

set_option maxRecDepth 100000 in
set_option maxHeartbeats 4000000 in
theorem law_any (vs vp : Value) (d : D) (lv : Value) (l : List Wr.Wt) (w : World) (hin : In w vs vp d) (hl : LIn w lv l) :
    Calls Try.prog 5 #[.agg #[vs, vp], lv] w fun e w' => e = .returned (.bool true) ∧ Below w.heap.size w w' := by
  have HIN := Lib.hid hin
  have HLN := Lib.hid hl
  clear hin hl
  obtain ⟨bb, hbb⟩ : ∃ b : Bool, b = decide (Okay d l) := ⟨_, rfl⟩
  have HBB := Lib.hid hbb
  clear hbb
  by_cases hc : cost d ≤ 1048576
  · have HC := Lib.hid (cost_pos hc)
    have hl1 := (cost_len hc).1
    have hl2 := (cost_len hc).2
    obtain ⟨r, hr⟩ : ∃ r : Nat, r = 1048576 - cost d := ⟨_, rfl⟩
    have hr0 : r ≤ 1048576 := by omega
    rw [← hr] at HC
    clear hr hc
    have hr1 : r ≤ 1048576 := hr0
    by_cases hc2 : lcost l ≤ r
    · have HC2 := Lib.hid (Wr.budget_pos hc2)
      have hl3 : l.length ≤ 1048576 := by unfold lcost at hc2; omega
      clear hc2
      go_enter Try.func5, Try.ntmps5
      have HB := Lib.hid (Below.refl w.heap.size w)
      have hb := Joins.below_alloc1 w (.cells #[vs, vp] 50)
      replace HB := Lib.hid (HB.out.trans (hb.mono HB.out.size))
      have BA := Lib.hid (show Dk.Box (w.alloc (.cells #[vs, vp] 50)) (w.heap.size) _ _ 50 from Dk.blk_new w (.cells #[vs, vp] 50))
      clear hb
      obtain ⟨vBA0, vBA1⟩ := BA.out.cells
      go_wp2_with fail
      refine (sz_any _ vs vp d 1048576 (by omega) HIN.out.l1 HIN.out.z1 HIN.out.l2 HIN.out.z2 (HIN.out.holds.below HB.out)).mono ?_
      rintro e w1 ⟨rfl, hb⟩
      have s1 := hb.size
      simp only [World.size_alloc] at s1
      clear vBA0 vBA1
      replace HB := Lib.hid (HB.out.trans (hb.mono HB.out.size))
      replace BA := Lib.hid (BA.out.below hb)
      clear hb
      rw [HC.out]
      obtain ⟨vBA0, vBA1⟩ := BA.out.cells
      go_wp2_with fail
      refine (Wr.sz_any _ lv l r (by omega) HLN.out.len HLN.out.sz (Wr.holds_below (B := 0) HLN.out.holds HB.out)).mono ?_
      rintro e w2 ⟨rfl, hb⟩
      have s2 := hb.size
      clear vBA0 vBA1
      replace HB := Lib.hid (HB.out.trans (hb.mono HB.out.size))
      replace BA := Lib.hid (BA.out.below hb)
      clear hb
      rw [HC2.out]
      obtain ⟨vBA0, vBA1⟩ := BA.out.cells
      go_wp2_with fail
      refine (to_any _ vs vp d (by omega) (by omega) (HIN.out.holds.below HB.out)).mono ?_
      rintro e w3 ⟨ks, kp, rfl, hown, hb⟩
      have s3 := hb.size
      clear vBA0 vBA1
      have HT := Lib.hid hown
      clear hown
      replace HB := Lib.hid (HB.out.trans (hb.mono HB.out.size))
      replace BA := Lib.hid (BA.out.below hb)
      clear hb
      obtain ⟨vBA0, vBA1⟩ := BA.out.cells
      go_wp2_with fail
      refine (Wr.to_any _ lv l (by omega) (Wr.holds_below (B := 0) HLN.out.holds HB.out)).mono ?_
      rintro e w4 ⟨kl, rfl, hown, hb⟩
      have s4 := hb.size
      clear vBA0 vBA1
      have HTL := Lib.hid (Dk.RowIn.fresh hown)
      clear hown
      replace HB := Lib.hid (HB.out.trans (hb.mono HB.out.size))
      replace BA := Lib.hid (BA.out.below hb)
      replace HT := Lib.hid (HT.out.below hb)
      clear hb
      obtain ⟨vBA0, vBA1⟩ := BA.out.cells
      go_wp2_with fail
      refine (IsTxn.spec_any _ ks kp kl d l (by omega) (by omega) (by omega) HT.out.holds (Wr.holds_of_own HTL.out.1)).mono ?_
      rintro e w5 ⟨rfl, hb⟩
      have s5 := hb.size
      clear vBA0 vBA1
      replace HB := Lib.hid (HB.out.trans (hb.mono HB.out.size))
      replace BA := Lib.hid (BA.out.below hb)
      replace HT := Lib.hid (HT.out.below hb)
      replace HTL := Lib.hid (HTL.out.below hb)
      clear hb
      rw [← HBB.out]
      obtain ⟨vBA0, vBA1⟩ := BA.out.cells
      clear HT HTL
      go_wp2_with fail
      refine (to_any _ vs vp d (by omega) (by omega) (HIN.out.holds.below HB.out)).mono ?_
      rintro e w6 ⟨_, _, rfl, hown, hb⟩
      have s6 := hb.size
      clear vBA0 vBA1
      obtain ⟨⟨xa, xn, xc, rfl⟩, ⟨xb, xm, xd, rfl⟩⟩ := hown.forms
      have HX := Lib.hid hown
      clear hown
      replace HB := Lib.hid (HB.out.trans (hb.mono HB.out.size))
      replace BA := Lib.hid (BA.out.below hb)
      clear hb
      obtain ⟨vBA0, vBA1⟩ := BA.out.cells
      clear vBA0 vBA1
      have hb := Joins.below_alloc1 w6 (.cells #[.slice xa xn xc, .slice xb xm xd] 26)
      replace HB := Lib.hid (HB.out.trans (hb.mono HB.out.size))
      replace BA := Lib.hid (BA.out.below hb)
      replace HX := Lib.hid (HX.out.below hb)
      have BX := Lib.hid (show Dk.Box (w6.alloc (.cells #[.slice xa xn xc, .slice xb xm xd] 26)) (w6.heap.size) _ _ 26 from Dk.blk_new w6 (.cells #[.slice xa xn xc, .slice xb xm xd] 26))
      clear hb
      obtain ⟨vBA0, vBA1⟩ := BA.out.cells
      obtain ⟨vBX0, vBX1⟩ := BX.out.cells
      go_wp2_with fail
      refine (Wr.to_any _ lv l (by omega) (Wr.holds_below (B := 0) HLN.out.holds HB.out)).mono ?_
      rintro e w7 ⟨xl, rfl, hown, hb⟩
      have s7 := hb.size
      simp only [World.size_alloc] at s7
      clear vBA0 vBA1 vBX0 vBX1
      have HXL := Lib.hid (Dk.RowIn.fresh hown)
      clear hown
      replace HB := Lib.hid (HB.out.trans (hb.mono HB.out.size))
      replace BA := Lib.hid (BA.out.below hb)
      replace BX := Lib.hid (BX.out.below hb)
      replace HX := Lib.hid (HX.out.below hb)
      clear hb
      obtain ⟨vBA0, vBA1⟩ := BA.out.cells
      obtain ⟨vBX0, vBX1⟩ := BX.out.cells
      go_wp2_with fail
      refine (IsTxn.impl_any _ (.slice xa xn xc) (.slice xb xm xd) xl d l (by omega) (by omega) (by omega) HX.out.holds (Wr.holds_of_own HXL.out.1)).mono ?_
      rintro e w8 ⟨rfl, hb⟩
      have s8 := hb.size
      clear vBA0 vBA1 vBX0 vBX1
      replace HB := Lib.hid (HB.out.trans (hb.mono HB.out.size))
      replace BA := Lib.hid (BA.out.below hb)
      replace BX := Lib.hid (BX.out.below hb)
      replace HX := Lib.hid (HX.out.below hb)
      replace HXL := Lib.hid (HXL.out.below hb)
      clear hb
      rw [← HBB.out]
      obtain ⟨vBA0, vBA1⟩ := BA.out.cells
      obtain ⟨vBX0, vBX1⟩ := BX.out.cells
      go_wp2
      go_region_held3 (fun w' => w'.cell? ⟨w6.heap.size, 0, none⟩ = some (.slice xa xn xc) ∧ w'.cell? ⟨w6.heap.size, 1, none⟩ = some (.slice xb xm xd) ∧ w'.cell? ⟨w.heap.size, 0, none⟩ = some (vs) ∧ w'.cell? ⟨w.heap.size, 1, none⟩ = some (vp)) (go_keep)
        (first | (go_at_call 30; replace HB := Lib.hid HB.out.drew; replace BA := Lib.hid (show Dk.Box (World.drew w8) _ _ _ _ from BA.out); replace BX := Lib.hid (show Dk.Box (World.drew w8) _ _ _ _ from BX.out); replace HX := Lib.hid (show Dk.Own (World.drew w8) _ _ _ _ _ from HX.out); replace HXL := Lib.hid (show Dk.RowIn (World.drew w8) _ _ _ _ _ _ _ from HXL.out); refine (to_any _ vs vp d (by omega) (by omega) (HIN.out.holds.below HB.out)).mono ?_; rintro e w9 ⟨zs, zp, rfl, hown, hb⟩; have s9 := hb.size; try simp only [World.size_alloc, World.size_drew] at s9; have HZ := Lib.hid hown; clear hown; replace HB := Lib.hid (HB.out.trans (hb.mono HB.out.size)); replace BA := Lib.hid (Dk.Box.below BA.out hb); replace BX := Lib.hid (Dk.Box.below BX.out hb); replace HX := Lib.hid (Dk.Own.below HX.out hb); replace HXL := Lib.hid (Dk.RowIn.below HXL.out hb); clear hb; obtain ⟨vBAw90, vBAw91⟩ := BA.out.cells; obtain ⟨vBXw90, vBXw91⟩ := BX.out.cells) | (go_at_call 32; refine (eq_any _ (.slice xa xn xc) (.slice xb xm xd) zs zp d (by omega) (by omega) HX.out.holds HZ.out.holds).mono ?_; rintro e w10 ⟨rfl, hb⟩; have s10 := hb.size; replace HB := Lib.hid (HB.out.trans (hb.mono HB.out.size)); replace BA := Lib.hid (Dk.Box.below BA.out hb); replace BX := Lib.hid (Dk.Box.below BX.out hb); replace HX := Lib.hid (Dk.Own.below HX.out hb); replace HXL := Lib.hid (Dk.RowIn.below HXL.out hb); replace HZ := Lib.hid (Dk.Own.below HZ.out hb); clear hb; obtain ⟨vBAw100, vBAw101⟩ := BA.out.cells; obtain ⟨vBXw100, vBXw101⟩ := BX.out.cells))
      clear vBA0 vBA1 vBX0 vBX1
      clear HZ
      go_wp2_with fail
      refine (Wr.to_any _ lv l (by omega) (Wr.holds_below (B := 0) HLN.out.holds HB.out)).mono ?_
      rintro e w11 ⟨zl, rfl, hown, hb⟩
      have s11 := hb.size
      clear vBAw100 vBAw101 vBXw100 vBXw101
      have HZL := Lib.hid (Dk.RowIn.fresh hown)
      clear hown
      replace HB := Lib.hid (HB.out.trans (hb.mono HB.out.size))
      replace BA := Lib.hid (BA.out.below hb)
      replace BX := Lib.hid (BX.out.below hb)
      replace HX := Lib.hid (HX.out.below hb)
      replace HXL := Lib.hid (HXL.out.below hb)
      clear hb
      obtain ⟨vBA0, vBA1⟩ := BA.out.cells
      obtain ⟨vBX0, vBX1⟩ := BX.out.cells
      go_wp2_with fail
      refine (Wr.eq_any _ xl zl l (by omega) (Wr.holds_of_own HXL.out.1) (Wr.holds_of_own HZL.out.1)).mono ?_
      rintro e w12 ⟨rfl, hb⟩
      have s12 := hb.size
      clear vBA0 vBA1 vBX0 vBX1
      replace HB := Lib.hid (HB.out.trans (hb.mono HB.out.size))
      replace BA := Lib.hid (BA.out.below hb)
      replace BX := Lib.hid (BX.out.below hb)
      replace HX := Lib.hid (HX.out.below hb)
      replace HXL := Lib.hid (HXL.out.below hb)
      replace HZL := Lib.hid (HZL.out.below hb)
      clear hb
      obtain ⟨vBA0, vBA1⟩ := BA.out.cells
      obtain ⟨vBX0, vBX1⟩ := BX.out.cells
      go_wp2
      go_ret
      exact ⟨rfl, HB.out⟩
    · have HC2 := Lib.hid (Wr.budget_neg hc2)
      clear hc2
      go_enter Try.func5, Try.ntmps5
      have HB := Lib.hid (Below.refl w.heap.size w)
      have hb := Joins.below_alloc1 w (.cells #[vs, vp] 50)
      replace HB := Lib.hid (HB.out.trans (hb.mono HB.out.size))
      have BA := Lib.hid (show Dk.Box (w.alloc (.cells #[vs, vp] 50)) (w.heap.size) _ _ 50 from Dk.blk_new w (.cells #[vs, vp] 50))
      clear hb
      obtain ⟨vBA0, vBA1⟩ := BA.out.cells
      go_wp2_with fail
      refine (sz_any _ vs vp d 1048576 (by omega) HIN.out.l1 HIN.out.z1 HIN.out.l2 HIN.out.z2 (HIN.out.holds.below HB.out)).mono ?_
      rintro e w1 ⟨rfl, hb⟩
      have s1 := hb.size
      simp only [World.size_alloc] at s1
      clear vBA0 vBA1
      replace HB := Lib.hid (HB.out.trans (hb.mono HB.out.size))
      replace BA := Lib.hid (BA.out.below hb)
      clear hb
      rw [HC.out]
      obtain ⟨vBA0, vBA1⟩ := BA.out.cells
      go_wp2_with fail
      refine (Wr.sz_any _ lv l r (by omega) HLN.out.len HLN.out.sz (Wr.holds_below (B := 0) HLN.out.holds HB.out)).mono ?_
      rintro e w2 ⟨rfl, hb⟩
      have s2 := hb.size
      clear vBA0 vBA1
      replace HB := Lib.hid (HB.out.trans (hb.mono HB.out.size))
      replace BA := Lib.hid (BA.out.below hb)
      clear hb
      rw [HC2.out]
      obtain ⟨vBA0, vBA1⟩ := BA.out.cells
      go_wp2
      go_ret
      exact ⟨rfl, HB.out⟩
  · have HC := Lib.hid (cost_neg hc)
    clear hc
    go_enter Try.func5, Try.ntmps5
    have HB := Lib.hid (Below.refl w.heap.size w)
    have hb := Joins.below_alloc1 w (.cells #[vs, vp] 50)
    replace HB := Lib.hid (HB.out.trans (hb.mono HB.out.size))
    have BA := Lib.hid (show Dk.Box (w.alloc (.cells #[vs, vp] 50)) (w.heap.size) _ _ 50 from Dk.blk_new w (.cells #[vs, vp] 50))
    clear hb
    obtain ⟨vBA0, vBA1⟩ := BA.out.cells
    go_wp2_with fail
    refine (sz_any _ vs vp d 1048576 (by omega) HIN.out.l1 HIN.out.z1 HIN.out.l2 HIN.out.z2 (HIN.out.holds.below HB.out)).mono ?_
    rintro e w1 ⟨rfl, hb⟩
    have s1 := hb.size
    simp only [World.size_alloc] at s1
    clear vBA0 vBA1
    replace HB := Lib.hid (HB.out.trans (hb.mono HB.out.size))
    replace BA := Lib.hid (BA.out.below hb)
    clear hb
    rw [HC.out]
    obtain ⟨vBA0, vBA1⟩ := BA.out.cells
    go_wp2
    go_ret
    exact ⟨rfl, HB.out⟩

set_option maxRecDepth 100000 in
theorem lifted (os : Os) (started : os.Started) (H : Type) (enc : TypeId × Value → H) :
    ReturnsInHanded {} Try.checked os 5 .any (Rows.fnExactIsTxnSpec.pre6 enc Try.prog Try.f5 Rows.fnExactIsTxnRow.domain false) (Rows.fnExactIsTxnSpec.post enc Try.prog Try.f5 false true false false) := by
  refine returnsInHanded_of_change (C := Try.checked) Kit.own started (by kernel_rfl) Try.func5
    (ChangeSpec.witness6 (enc := enc) (C := Try.checked) false ⟨#[], #[.agg #[.slice none 0 0, .slice none 0 0], .slice none 0 0], []⟩ 8 (by kernel_rfl) (by kernel_rfl) (by kernel_rfl) (by kernel_rfl)) ?_
  intro W base args ds gs before hval0 hW hcnd _
  have hval : ∀ (j : Nat) t v, Try.f5.params[j]? = some t → args[j]? = some v → Value.okWide Try.prog W .any base t v := hval0
  have hW' := hW
  obtain ⟨p, q, hA0, hV, rfl, hfz, hnd⟩ := hW
  have hA : DataW.TrodAll enc Try.prog W 0 (fun _ => true) true Try.f5.params.toList args.toList ds p := hA0
  rw [Try.params5] at hA hval
  obtain ⟨v0, v1, d0, d1, p0, p1, rfl, rfl, rfl, h0, h1⟩ := trodAll_two hA
  obtain ⟨s0, u0, a0, rfl, w0⟩ := Dk.disk_of (hval 0 50 v0 rfl rfl) h0
  obtain ⟨a1, w1⟩ := Wr.list_of (hval 1 48 v1 rfl rfl) h1
  refine (law_any s0 u0 a0 _ a1 W w0 w1).mono fun e W' ⟨he, hb⟩ => ?_
  subst he
  exact ⟨_, rfl, Kit.law_post Kit.laidOut (by kernel_rfl) Try.underlying4 rfl rfl (fun H ds hl => by match ds, hl with | [d0, d1], _ => rfl) hW' hb⟩

theorem holds : Rows.FnExactIsTxnSaid :=
  OpenClaim.holds_of_wide 5 Try.f5 rfl rfl rfl rfl rfl rfl rfl ⟨rfl, rfl, rfl, rfl, rfl⟩ rfl rfl rfl rfl rfl (by kernel_rfl) Try.func5 (by kernel_rfl)
    (of_decide_eq_true (by kernel_rfl)) (by unfold Func.isWrapper; first | (rw [if_pos (by decide +kernel)]; kernel_rfl) | (rw [if_neg (by decide +kernel)]; exact ⟨rfl, rfl⟩))
    (fun os started H enc _ => lifted os started H enc)
#print axioms holds
end Go.Proofs.Ytgapjdkelkmdgaa.TxnLaw
