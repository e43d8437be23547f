/- Proved: for every int, the law FnExactNewDisk returns true: the program's NewDisk answers as the model's, in memory of its own. No condition beyond the row's own. -/
import Derived.Test.YtbfbcfnnajaeeaaNewImpl
import Derived.Test.YtbfbcfnnajaeeaaDkOpen
namespace Go.Proofs.Ytbfbcfnnajaeeaa.NewLaw
open Go.ChangeShapes Go.WideShapes Go.ChangeAt Go.RowKit
open Go.ChangeMaps (open_string shut_string)
open Dk (D Holds Ok In Own cost costOf cost_pos cost_neg cost_len sz_any to_any eq_any mark_all held_all)
set_option linter.unusedVariables false

set_option maxRecDepth 100000 in
set_option maxHeartbeats 4000000 in
theorem law_any (n : Int) (w : World) (_hn : (Lit.int .i64 n).wf = true) :
    Calls Try.prog 5 #[.int .i64 n] w fun e w' => e = .returned (.bool true) ∧ Below w.heap.size w w' := by
  clear _hn
  obtain ⟨R, hR⟩ : ∃ R, R = NewD.newV n := ⟨_, rfl⟩
  have hlen : R.1.length ≤ 400 ∧ R.2.length ≤ 400 := by
    rw [hR]
    unfold NewD.newV
    split
    · exact ⟨by simp; omega, by simp⟩
    · simp
  have hR1 : R.1.length ≤ 400 := hlen.1
  have hR2 : R.2.length ≤ 400 := hlen.2
  obtain ⟨KM, hKM⟩ : ∃ k, k = Dk.behind 1 R := ⟨_, rfl⟩
  have HK := Lib.hid hKM
  have HRR := Lib.hid hR
  clear hR hlen hKM
  go_enter Try.func5, Try.ntmps5
  have HB := Lib.hid (Below.refl w.heap.size w)
  go_wp2_with fail
  refine (NewD.spec_any n _).mono ?_
  rintro e w1 ⟨_, _, rfl, hown, hb⟩
  have s1 := hb.size
  rw [← HRR.out] at hown
  obtain ⟨⟨pa, pn, pc, rfl⟩, ⟨pb, pm, pd, rfl⟩⟩ := hown.forms
  have HW := Lib.hid hown
  clear hown
  replace HB := Lib.hid (HB.out.trans (hb.mono HB.out.size))
  clear hb
  have hb := Joins.below_alloc1 w1 (.cells #[.slice pa pn pc, .slice pb pm pd] 26)
  replace HB := Lib.hid (HB.out.trans (hb.mono HB.out.size))
  replace HW := Lib.hid (HW.out.below hb)
  have BW := Lib.hid (show Dk.Box (w1.alloc (.cells #[.slice pa pn pc, .slice pb pm pd] 26)) (w1.heap.size) _ _ 26 from Dk.blk_new w1 (.cells #[.slice pa pn pc, .slice pb pm pd] 26))
  clear hb
  obtain ⟨vBW0, vBW1⟩ := BW.out.cells
  go_wp2_with fail
  refine (NewD.impl_any n _).mono ?_
  rintro e w2 ⟨_, _, rfl, hown, hb⟩
  have s2 := hb.size
  simp only [World.size_alloc] at s2
  clear vBW0 vBW1
  rw [← HRR.out] at hown
  obtain ⟨⟨ga, gn, gc, rfl⟩, ⟨gb, gm, gd, rfl⟩⟩ := hown.forms
  have HG := Lib.hid hown
  clear hown
  replace HB := Lib.hid (HB.out.trans (hb.mono HB.out.size))
  replace BW := Lib.hid (BW.out.below hb)
  replace HW := Lib.hid (HW.out.below hb)
  clear hb
  obtain ⟨vBW0, vBW1⟩ := BW.out.cells
  clear vBW0 vBW1
  have hb := Joins.below_alloc1 w2 (.cells #[.slice ga gn gc, .slice gb gm gd] 26)
  replace HB := Lib.hid (HB.out.trans (hb.mono HB.out.size))
  replace BW := Lib.hid (BW.out.below hb)
  replace HW := Lib.hid (HW.out.below hb)
  replace HG := Lib.hid (HG.out.below hb)
  have BG := Lib.hid (show Dk.Box (w2.alloc (.cells #[.slice ga gn gc, .slice gb gm gd] 26)) (w2.heap.size) _ _ 26 from Dk.blk_new w2 (.cells #[.slice ga gn gc, .slice gb gm gd] 26))
  clear hb
  obtain ⟨vBW0, vBW1⟩ := BW.out.cells
  obtain ⟨vBG0, vBG1⟩ := BG.out.cells
  go_wp2_with fail
  refine (eq_any _ (.slice ga gn gc) (.slice gb gm gd) (.slice pa pn pc) (.slice pb pm pd) R (by omega) (by omega) HG.out.holds HW.out.holds).mono ?_
  rintro e w3 ⟨rfl, hb⟩
  have s3 := hb.size
  simp only [World.size_alloc] at s3
  clear vBW0 vBW1 vBG0 vBG1
  replace HB := Lib.hid (HB.out.trans (hb.mono HB.out.size))
  replace BW := Lib.hid (BW.out.below hb)
  replace BG := Lib.hid (BG.out.below hb)
  replace HW := Lib.hid (HW.out.below hb)
  replace HG := Lib.hid (HG.out.below hb)
  clear hb
  obtain ⟨vBW0, vBW1⟩ := BW.out.cells
  obtain ⟨vBG0, vBG1⟩ := BG.out.cells
  go_wp2_with fail
  refine (mark_all _ _ _ (.slice ga gn gc) (.slice gb gm gd) R 1 (by omega) (by unfold Dk.behind; omega) (by omega) HG.out).mono ?_
  rintro e w4 ⟨rfl, hown, ht⟩
  have s4 := ht.size
  clear vBW0 vBW1 vBG0 vBG1
  replace HB := Lib.hid (HB.out.trans (ht.below (by (try simp only [World.size_alloc]); omega) (by (try simp only [World.size_alloc]); omega)))
  replace BW := Lib.hid (BW.out.turned ht (by (try simp only [World.size_alloc]); omega))
  replace BG := Lib.hid (BG.out.turned ht (by (try simp only [World.size_alloc]); omega))
  replace HW := Lib.hid (HW.out.turned ht (by (try simp only [World.size_alloc]); omega))
  replace HG := Lib.hid hown
  clear hown ht
  rw [← HK.out]
  obtain ⟨vBW0, vBW1⟩ := BW.out.cells
  obtain ⟨vBG0, vBG1⟩ := BG.out.cells
  go_wp2_with fail
  refine (held_all _ (.slice ga gn gc) (.slice gb gm gd) R 1 (by omega) (by unfold Dk.behind; omega) HG.out.holds).mono ?_
  rintro e w5 ⟨rfl, hb⟩
  have s5 := hb.size
  clear vBW0 vBW1 vBG0 vBG1
  replace HB := Lib.hid (HB.out.trans (hb.mono HB.out.size))
  replace BW := Lib.hid (BW.out.below hb)
  replace BG := Lib.hid (BG.out.below hb)
  replace HW := Lib.hid (HW.out.below hb)
  replace HG := Lib.hid (HG.out.below hb)
  clear hb
  rw [← HK.out]
  obtain ⟨vBW0, vBW1⟩ := BW.out.cells
  obtain ⟨vBG0, vBG1⟩ := BG.out.cells
  go_wp2_with fail
  refine (NewD.impl_any n _).mono ?_
  rintro e w6 ⟨_, _, rfl, hown, hb⟩
  have s6 := hb.size
  clear vBW0 vBW1 vBG0 vBG1
  rw [← HRR.out] at hown
  obtain ⟨⟨ya, yn, yc, rfl⟩, ⟨yb, ym, yd, rfl⟩⟩ := hown.forms
  have HH := Lib.hid hown
  clear hown
  replace HB := Lib.hid (HB.out.trans (hb.mono HB.out.size))
  replace BW := Lib.hid (BW.out.below hb)
  replace BG := Lib.hid (BG.out.below hb)
  replace HW := Lib.hid (HW.out.below hb)
  replace HG := Lib.hid (HG.out.below hb)
  clear hb
  obtain ⟨vBW0, vBW1⟩ := BW.out.cells
  obtain ⟨vBG0, vBG1⟩ := BG.out.cells
  clear vBW0 vBW1 vBG0 vBG1
  have hb := Joins.below_alloc1 w6 (.cells #[.slice ya yn yc, .slice yb ym yd] 26)
  replace HB := Lib.hid (HB.out.trans (hb.mono HB.out.size))
  replace BW := Lib.hid (BW.out.below hb)
  replace BG := Lib.hid (BG.out.below hb)
  replace HW := Lib.hid (HW.out.below hb)
  replace HG := Lib.hid (HG.out.below hb)
  replace HH := Lib.hid (HH.out.below hb)
  have BH := Lib.hid (show Dk.Box (w6.alloc (.cells #[.slice ya yn yc, .slice yb ym yd] 26)) (w6.heap.size) _ _ 26 from Dk.blk_new w6 (.cells #[.slice ya yn yc, .slice yb ym yd] 26))
  clear hb
  obtain ⟨vBW0, vBW1⟩ := BW.out.cells
  obtain ⟨vBG0, vBG1⟩ := BG.out.cells
  obtain ⟨vBH0, vBH1⟩ := BH.out.cells
  go_wp2_with fail
  refine (eq_any _ (.slice ya yn yc) (.slice yb ym yd) (.slice pa pn pc) (.slice pb pm pd) R (by omega) (by omega) HH.out.holds HW.out.holds).mono ?_
  rintro e w7 ⟨rfl, hb⟩
  have s7 := hb.size
  simp only [World.size_alloc] at s7
  clear vBW0 vBW1 vBG0 vBG1 vBH0 vBH1
  replace HB := Lib.hid (HB.out.trans (hb.mono HB.out.size))
  replace BW := Lib.hid (BW.out.below hb)
  replace BG := Lib.hid (BG.out.below hb)
  replace BH := Lib.hid (BH.out.below hb)
  replace HW := Lib.hid (HW.out.below hb)
  replace HG := Lib.hid (HG.out.below hb)
  replace HH := Lib.hid (HH.out.below hb)
  clear hb
  obtain ⟨vBW0, vBW1⟩ := BW.out.cells
  obtain ⟨vBG0, vBG1⟩ := BG.out.cells
  obtain ⟨vBH0, vBH1⟩ := BH.out.cells
  go_wp2_with fail
  refine (held_all _ (.slice ga gn gc) (.slice gb gm gd) R 1 (by omega) (by unfold Dk.behind; omega) HG.out.holds).mono ?_
  rintro e w8 ⟨rfl, hb⟩
  have s8 := hb.size
  clear vBW0 vBW1 vBG0 vBG1 vBH0 vBH1
  replace HB := Lib.hid (HB.out.trans (hb.mono HB.out.size))
  replace BW := Lib.hid (BW.out.below hb)
  replace BG := Lib.hid (BG.out.below hb)
  replace BH := Lib.hid (BH.out.below hb)
  replace HW := Lib.hid (HW.out.below hb)
  replace HG := Lib.hid (HG.out.below hb)
  replace HH := Lib.hid (HH.out.below hb)
  clear hb
  rw [← HK.out]
  obtain ⟨vBW0, vBW1⟩ := BW.out.cells
  obtain ⟨vBG0, vBG1⟩ := BG.out.cells
  obtain ⟨vBH0, vBH1⟩ := BH.out.cells
  go_wp2
  go_ret
  exact ⟨rfl, HB.out⟩

set_option maxRecDepth 100000 in
theorem lifted (os : Os) (started : os.Started) (H : Type) (enc : TypeId × Value → H) :
    ReturnsInHanded {} Try.checked os 5 .any (Rows.fnExactNewDiskSpec.pre6 enc Try.prog Try.f5 Rows.fnExactNewDiskRow.domain false) (Rows.fnExactNewDiskSpec.post enc Try.prog Try.f5 false true false false) := by
  refine returnsInHanded_of_change (C := Try.checked) Kit.own started (by kernel_rfl) Try.func5
    (ChangeSpec.witness6 (enc := enc) (C := Try.checked) false ⟨#[], #[.int .i64 0], []⟩ 8 (by kernel_rfl) (by kernel_rfl) (by kernel_rfl) (by kernel_rfl)) ?_
  intro W base args ds gs before hval0 hW hcnd _
  have hval : ∀ (j : Nat) t v, Try.f5.params[j]? = some t → args[j]? = some v → Value.okWide Try.prog W .any base t v := hval0
  have hW' := hW
  obtain ⟨p, q, hA0, hV, rfl, hfz, hnd⟩ := hW
  have hA : DataW.TrodAll enc Try.prog W 0 (fun _ => true) true Try.f5.params.toList args.toList ds p := hA0
  rw [Try.params5] at hA hval
  obtain ⟨v0, d0, rfl, rfl, h0⟩ := trodAll_one hA
  obtain ⟨a0, rfl, rfl, rfl, w0⟩ := open_int Try.underlying3 (hval 0 3 v0 rfl rfl) h0
  refine (law_any a0 W w0).mono fun e W' ⟨he, hb⟩ => ?_
  subst he
  exact ⟨_, rfl, Kit.law_post Kit.laidOut (by kernel_rfl) Try.underlying4 rfl rfl (fun H ds hl => by match ds, hl with | [d0], _ => rfl) hW' hb⟩

theorem holds : Rows.FnExactNewDiskSaid :=
  OpenClaim.holds_of_wide 5 Try.f5 rfl rfl rfl rfl rfl rfl rfl ⟨rfl, rfl, rfl, rfl, rfl⟩ rfl rfl rfl rfl rfl (by kernel_rfl) Try.func5 (by kernel_rfl)
    (of_decide_eq_true (by kernel_rfl)) (by unfold Func.isWrapper; first | (rw [if_pos (by decide +kernel)]; kernel_rfl) | (rw [if_neg (by decide +kernel)]; exact ⟨rfl, rfl⟩))
    (fun os started H enc _ => lifted os started H enc)
#print axioms holds
end Go.Proofs.Ytbfbcfnnajaeeaa.NewLaw
