/- Proved: for every disk and every int, the law FnExactReadSector returns true and leaves its arguments as they were: the program's ReadSector answers as the model's. No condition beyond the row's own. -/
import Derived.Test.YtbfbcfnnajaeeaaReadImpl
import Derived.Test.YtbfbcfnnajaeeaaDkOpen
namespace Go.Proofs.Ytbfbcfnnajaeeaa.ReadLaw
open Go.ChangeShapes Go.WideShapes Go.ChangeAt Go.RowKit
open Go.ChangeMaps (open_string shut_string)
open Dk (D Holds Ok In Own cost costOf cost_pos cost_neg cost_len sz_any to_any eq_any mark_all held_all)
set_option linter.unusedVariables false

set_option maxRecDepth 100000 in
set_option maxHeartbeats 4000000 in
theorem law_any (vs vp : Value) (d : D) (i : Int) (w : World) (hin : In w vs vp d) (_hi : (Lit.int .i64 i).wf = true) :
    Calls Try.prog 6 #[.agg #[vs, vp], .int .i64 i] w fun e w' => e = .returned (.bool true) ∧ Below w.heap.size w w' := by
  have HIN := Lib.hid hin
  clear hin _hi
  by_cases hc : cost d ≤ 1048576
  · have HC := Lib.hid (cost_pos hc)
    have hl1 := (cost_len hc).1
    have hl2 := (cost_len hc).2
    obtain ⟨r, hr⟩ : ∃ r : Nat, r = 1048576 - cost d := ⟨_, rfl⟩
    rw [← hr] at HC
    clear hr hc
    obtain ⟨R, hR⟩ : ∃ R, ReadS.readF d i = R := ⟨_, rfl⟩
    have HRR := Lib.hid hR
    clear hR
    go_enter Try.func6, Try.ntmps6
    have HB := Lib.hid (Below.refl w.heap.size w)
    have hb := Joins.below_alloc1 w (.cells #[vs, vp] 40)
    replace HB := Lib.hid (HB.out.trans (hb.mono HB.out.size))
    have BA := Lib.hid (show Dk.Box (w.alloc (.cells #[vs, vp] 40)) (w.heap.size) _ _ 40 from Dk.blk_new w (.cells #[vs, vp] 40))
    clear hb
    obtain ⟨vBA0, vBA1⟩ := BA.out.cells
    go_wp2_with fail
    refine (sz_any _ vs vp d 1048576 (by omega) HIN.out.l1 HIN.out.z1 HIN.out.l2 HIN.out.z2 (HIN.out.holds.below HB.out)).mono ?_
    rintro e w1 ⟨rfl, hb⟩
    have s1 := hb.size
    simp only [World.size_alloc] at s1
    clear vBA0 vBA1
    replace HB := Lib.hid (HB.out.trans (hb.mono HB.out.size))
    replace BA := Lib.hid (BA.out.below hb)
    clear hb
    rw [HC.out]
    obtain ⟨vBA0, vBA1⟩ := BA.out.cells
    go_wp2_with fail
    refine (to_any _ vs vp d (by omega) (by omega) (HIN.out.holds.below HB.out)).mono ?_
    rintro e w2 ⟨ks, kp, rfl, hown, hb⟩
    have s2 := hb.size
    clear vBA0 vBA1
    have HT := Lib.hid hown
    clear hown
    replace HB := Lib.hid (HB.out.trans (hb.mono HB.out.size))
    replace BA := Lib.hid (BA.out.below hb)
    clear hb
    obtain ⟨vBA0, vBA1⟩ := BA.out.cells
    go_wp2_with fail
    refine (ReadS.spec_any _ ks kp d i (by omega) (by omega) HT.out.holds).mono ?_
    rintro e w3 ⟨rfl, hb⟩
    have s3 := hb.size
    clear vBA0 vBA1
    replace HB := Lib.hid (HB.out.trans (hb.mono HB.out.size))
    replace BA := Lib.hid (BA.out.below hb)
    replace HT := Lib.hid (HT.out.below hb)
    clear hb
    rw [HRR.out]
    obtain ⟨vBA0, vBA1⟩ := BA.out.cells
    clear HT
    go_wp2_with fail
    refine (to_any _ vs vp d (by omega) (by omega) (HIN.out.holds.below HB.out)).mono ?_
    rintro e w4 ⟨_, _, rfl, hown, hb⟩
    have s4 := hb.size
    clear vBA0 vBA1
    obtain ⟨⟨xa, xn, xc, rfl⟩, ⟨xb, xm, xd, rfl⟩⟩ := hown.forms
    have HX := Lib.hid hown
    clear hown
    replace HB := Lib.hid (HB.out.trans (hb.mono HB.out.size))
    replace BA := Lib.hid (BA.out.below hb)
    clear hb
    obtain ⟨vBA0, vBA1⟩ := BA.out.cells
    clear vBA0 vBA1
    have hb := Joins.below_alloc1 w4 (.cells #[.slice xa xn xc, .slice xb xm xd] 26)
    replace HB := Lib.hid (HB.out.trans (hb.mono HB.out.size))
    replace BA := Lib.hid (BA.out.below hb)
    replace HX := Lib.hid (HX.out.below hb)
    have BX := Lib.hid (show Dk.Box (w4.alloc (.cells #[.slice xa xn xc, .slice xb xm xd] 26)) (w4.heap.size) _ _ 26 from Dk.blk_new w4 (.cells #[.slice xa xn xc, .slice xb xm xd] 26))
    clear hb
    obtain ⟨vBA0, vBA1⟩ := BA.out.cells
    obtain ⟨vBX0, vBX1⟩ := BX.out.cells
    go_wp2_with fail
    refine (ReadI.impl_any _ (.slice xa xn xc) (.slice xb xm xd) d i (by omega) (by omega) HX.out.holds).mono ?_
    rintro e w5 ⟨rfl, hb⟩
    have s5 := hb.size
    simp only [World.size_alloc] at s5
    clear vBA0 vBA1 vBX0 vBX1
    replace HB := Lib.hid (HB.out.trans (hb.mono HB.out.size))
    replace BA := Lib.hid (BA.out.below hb)
    replace BX := Lib.hid (BX.out.below hb)
    replace HX := Lib.hid (HX.out.below hb)
    clear hb
    rw [HRR.out]
    obtain ⟨vBA0, vBA1⟩ := BA.out.cells
    obtain ⟨vBX0, vBX1⟩ := BX.out.cells
    go_wp2
    go_region_held3 (fun w' => w'.cell? ⟨w4.heap.size, 0, none⟩ = some (.slice xa xn xc) ∧ w'.cell? ⟨w4.heap.size, 1, none⟩ = some (.slice xb xm xd) ∧ w'.cell? ⟨w.heap.size, 0, none⟩ = some (vs) ∧ w'.cell? ⟨w.heap.size, 1, none⟩ = some (vp)) (go_keep)
      (first | (go_at_call 21; replace HB := Lib.hid HB.out.drew; replace BA := Lib.hid (show Dk.Box (World.drew w5) _ _ _ _ from BA.out); replace BX := Lib.hid (show Dk.Box (World.drew w5) _ _ _ _ from BX.out); replace HX := Lib.hid (show Dk.Own (World.drew w5) _ _ _ _ _ from HX.out); refine (to_any _ vs vp d (by omega) (by omega) (HIN.out.holds.below HB.out)).mono ?_; rintro e w6 ⟨zs, zp, rfl, hown, hb⟩; have s6 := hb.size; try simp only [World.size_alloc, World.size_drew] at s6; have HZ := Lib.hid hown; clear hown; replace HB := Lib.hid (HB.out.trans (hb.mono HB.out.size)); replace BA := Lib.hid (Dk.Box.below BA.out hb); replace BX := Lib.hid (Dk.Box.below BX.out hb); replace HX := Lib.hid (Dk.Own.below HX.out hb); clear hb; obtain ⟨vBAw60, vBAw61⟩ := BA.out.cells; obtain ⟨vBXw60, vBXw61⟩ := BX.out.cells) | (go_at_call 22; refine (eq_any _ (.slice xa xn xc) (.slice xb xm xd) zs zp d (by omega) (by omega) HX.out.holds HZ.out.holds).mono ?_; rintro e w7 ⟨rfl, hb⟩; have s7 := hb.size; replace HB := Lib.hid (HB.out.trans (hb.mono HB.out.size)); replace BA := Lib.hid (Dk.Box.below BA.out hb); replace BX := Lib.hid (Dk.Box.below BX.out hb); replace HX := Lib.hid (Dk.Own.below HX.out hb); replace HZ := Lib.hid (Dk.Own.below HZ.out hb); clear hb; obtain ⟨vBAw70, vBAw71⟩ := BA.out.cells; obtain ⟨vBXw70, vBXw71⟩ := BX.out.cells))
    clear vBA0 vBA1 vBX0 vBX1
    go_wp2
    go_ret
    exact ⟨rfl, HB.out⟩
  · have HC := Lib.hid (cost_neg hc)
    clear hc
    go_enter Try.func6, Try.ntmps6
    have HB := Lib.hid (Below.refl w.heap.size w)
    have hb := Joins.below_alloc1 w (.cells #[vs, vp] 40)
    replace HB := Lib.hid (HB.out.trans (hb.mono HB.out.size))
    have BA := Lib.hid (show Dk.Box (w.alloc (.cells #[vs, vp] 40)) (w.heap.size) _ _ 40 from Dk.blk_new w (.cells #[vs, vp] 40))
    clear hb
    obtain ⟨vBA0, vBA1⟩ := BA.out.cells
    go_wp2_with fail
    refine (sz_any _ vs vp d 1048576 (by omega) HIN.out.l1 HIN.out.z1 HIN.out.l2 HIN.out.z2 (HIN.out.holds.below HB.out)).mono ?_
    rintro e w1 ⟨rfl, hb⟩
    have s1 := hb.size
    simp only [World.size_alloc] at s1
    clear vBA0 vBA1
    replace HB := Lib.hid (HB.out.trans (hb.mono HB.out.size))
    replace BA := Lib.hid (BA.out.below hb)
    clear hb
    rw [HC.out]
    obtain ⟨vBA0, vBA1⟩ := BA.out.cells
    go_wp2
    go_ret
    exact ⟨rfl, HB.out⟩

set_option maxRecDepth 100000 in
theorem lifted (os : Os) (started : os.Started) (H : Type) (enc : TypeId × Value → H) :
    ReturnsInHanded {} Try.checked os 6 .any (Rows.fnExactReadSectorSpec.pre6 enc Try.prog Try.f6 Rows.fnExactReadSectorRow.domain false) (Rows.fnExactReadSectorSpec.post enc Try.prog Try.f6 false true false false) := by
  refine returnsInHanded_of_change (C := Try.checked) Kit.own started (by kernel_rfl) Try.func6
    (ChangeSpec.witness6 (enc := enc) (C := Try.checked) false ⟨#[], #[.agg #[.slice none 0 0, .slice none 0 0], .int .i64 0], []⟩ 8 (by kernel_rfl) (by kernel_rfl) (by kernel_rfl) (by kernel_rfl)) ?_
  intro W base args ds gs before hval0 hW hcnd _
  have hval : ∀ (j : Nat) t v, Try.f6.params[j]? = some t → args[j]? = some v → Value.okWide Try.prog W .any base t v := hval0
  have hW' := hW
  obtain ⟨p, q, hA0, hV, rfl, hfz, hnd⟩ := hW
  have hA : DataW.TrodAll enc Try.prog W 0 (fun _ => true) true Try.f6.params.toList args.toList ds p := hA0
  rw [Try.params6] at hA hval
  obtain ⟨v0, v1, d0, d1, p0, p1, rfl, rfl, rfl, h0, h1⟩ := trodAll_two hA
  obtain ⟨a1, rfl, rfl, rfl, w1⟩ := open_int Try.underlying3 (hval 1 3 v1 rfl rfl) h1
  obtain ⟨s0, u0, a0, rfl, w0⟩ := Dk.disk_of (hval 0 40 v0 rfl rfl) h0
  refine (law_any s0 u0 a0 a1 W w0 w1).mono fun e W' ⟨he, hb⟩ => ?_
  subst he
  exact ⟨_, rfl, Kit.law_post Kit.laidOut (by kernel_rfl) Try.underlying4 rfl rfl (fun H ds hl => by match ds, hl with | [d0, d1], _ => rfl) hW' hb⟩

theorem holds : Rows.FnExactReadSectorSaid :=
  OpenClaim.holds_of_wide 6 Try.f6 rfl rfl rfl rfl rfl rfl rfl ⟨rfl, rfl, rfl, rfl, rfl⟩ rfl rfl rfl rfl rfl (by kernel_rfl) Try.func6 (by kernel_rfl)
    (of_decide_eq_true (by kernel_rfl)) (by unfold Func.isWrapper; first | (rw [if_pos (by decide +kernel)]; kernel_rfl) | (rw [if_neg (by decide +kernel)]; exact ⟨rfl, rfl⟩))
    (fun os started H enc _ => lifted os started H enc)
#print axioms holds
end Go.Proofs.Ytbfbcfnnajaeeaa.ReadLaw
