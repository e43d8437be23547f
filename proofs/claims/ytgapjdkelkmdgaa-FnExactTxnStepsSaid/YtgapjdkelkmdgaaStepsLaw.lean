/- Proved: for every int and every list of writes, the law FnExactTxnSteps returns true and leaves its arguments as they were: the program's TxnSteps answers as the model's, in memory of its own. No condition beyond the row's own. -/
import Derived.Test.YtgapjdkelkmdgaaStepsSpec
import Derived.Test.YtgapjdkelkmdgaaSpTwo
import Derived.Test.YtgapjdkelkmdgaaWrIn
namespace Go.Proofs.Ytgapjdkelkmdgaa.StepsLaw
open Go.ChangeShapes Go.WideShapes Go.ChangeAt Go.RowKit
open Go.ChangeMaps (open_string shut_string)
open Dk (D Holds Ok In Own cost costOf cost_pos cost_neg cost_len sz_any to_any eq_any mark_all held_all)
open Wr (LIn lcost)
set_option linter.unusedVariables false

theorem steps_len (seq : Int) (l : List Wr.Wt) (h : l.length ≤ 1048576) : (Txn.stepsV seq l).length ≤ 3000000 := by
  unfold Txn.stepsV
  split
  · exact Nat.zero_le _
  · rw [List.length_append, List.length_append, List.length_map, Steps.end_len]
    have := Steps.jour_small l
    simp only [List.length_cons, List.length_nil]
    omega
set_option maxRecDepth 100000 in
set_option maxHeartbeats 4000000 in
theorem law_any (seq : Int) (lv : Value) (l : List Wr.Wt) (w : World) (_hi : (Lit.int .i64 seq).wf = true) (hl : LIn w lv l) :
    Calls Try.prog 9 #[.int .i64 seq, lv] w fun e w' => e = .returned (.bool true) ∧ Below w.heap.size w w' := by
  have HLN := Lib.hid hl
  clear hl _hi
  by_cases hc : lcost l ≤ 1048576
  · have HC := Lib.hid (Wr.budget_pos hc)
    have hl3 : l.length ≤ 1048576 := by unfold lcost at hc; omega
    have hd : Strs.total (Wr.datas l) ≤ 1048576 := by unfold lcost at hc; omega
    obtain ⟨r, hr⟩ : ∃ r : Nat, r = 1048576 - lcost l := ⟨_, rfl⟩
    rw [← hr] at HC
    have hR := steps_len seq l hl3
    obtain ⟨R, hRR⟩ : ∃ R, R = Txn.stepsV seq l := ⟨_, rfl⟩
    rw [← hRR] at hR
    have HRR := Lib.hid hRR
    obtain ⟨KM, hKM⟩ : ∃ k, k = 1 + 3 * R.length := ⟨_, rfl⟩
    have HK := Lib.hid hKM
    clear hc hr hRR hKM
    go_enter Try.func9, Try.ntmps9
    have HB := Lib.hid (Below.refl w.heap.size w)
    go_wp2_with fail
    refine (Wr.sz_any _ lv l 1048576 (by omega) HLN.out.len HLN.out.sz (Wr.holds_below (B := 0) HLN.out.holds HB.out)).mono ?_
    rintro e w1 ⟨rfl, hb⟩
    have s1 := hb.size
    replace HB := Lib.hid (HB.out.trans (hb.mono HB.out.size))
    clear hb
    rw [HC.out]
    go_wp2_with fail
    refine (Wr.to_any _ lv l (by omega) (Wr.holds_below (B := 0) HLN.out.holds HB.out)).mono ?_
    rintro e w2 ⟨kl, rfl, hown, hb⟩
    have s2 := hb.size
    have HT := Lib.hid (Dk.RowIn.fresh hown)
    clear hown
    replace HB := Lib.hid (HB.out.trans (hb.mono HB.out.size))
    clear hb
    go_wp2_with fail
    refine (Steps.spec_any _ kl seq l (by omega) hd (Wr.holds_of_own HT.out.1)).mono ?_
    rintro e w3 ⟨pv, rfl, hown, hb⟩
    have s3 := hb.size
    rw [← HRR.out] at hown
    have HW := Lib.hid (Dk.RowIn.fresh hown)
    clear hown
    replace HB := Lib.hid (HB.out.trans (hb.mono HB.out.size))
    replace HT := Lib.hid (HT.out.below hb)
    clear hb
    clear HT
    go_wp2_with fail
    refine (Wr.to_any _ lv l (by omega) (Wr.holds_below (B := 0) HLN.out.holds HB.out)).mono ?_
    rintro e w4 ⟨xl, rfl, hown, hb⟩
    have s4 := hb.size
    have HX := Lib.hid (Dk.RowIn.fresh hown)
    clear hown
    replace HB := Lib.hid (HB.out.trans (hb.mono HB.out.size))
    replace HW := Lib.hid (HW.out.below hb)
    clear hb
    go_wp2_with fail
    refine (Steps.impl_any _ xl seq l (by omega) hd (Wr.holds_of_own HX.out.1)).mono ?_
    rintro e w5 ⟨gv, rfl, hown, hb⟩
    have s5 := hb.size
    rw [← HRR.out] at hown
    have HG := Lib.hid (Dk.RowIn.fresh hown)
    clear hown
    replace HB := Lib.hid (HB.out.trans (hb.mono HB.out.size))
    replace HW := Lib.hid (HW.out.below hb)
    replace HX := Lib.hid (HX.out.below hb)
    clear hb
    go_wp2_with fail
    refine (Sp.eq_any _ gv pv R (by omega) (Sp.holds_of_own HG.out.1) (Sp.holds_of_own HW.out.1)).mono ?_
    rintro e w6 ⟨rfl, hb⟩
    have s6 := hb.size
    replace HB := Lib.hid (HB.out.trans (hb.mono HB.out.size))
    replace HW := Lib.hid (HW.out.below hb)
    replace HX := Lib.hid (HX.out.below hb)
    replace HG := Lib.hid (HG.out.below hb)
    clear hb
    go_wp2_with fail
    refine (Wr.to_any _ lv l (by omega) (Wr.holds_below (B := 0) HLN.out.holds HB.out)).mono ?_
    rintro e w7 ⟨zl, rfl, hown, hb⟩
    have s7 := hb.size
    have HZ := Lib.hid (Dk.RowIn.fresh hown)
    clear hown
    replace HB := Lib.hid (HB.out.trans (hb.mono HB.out.size))
    replace HW := Lib.hid (HW.out.below hb)
    replace HX := Lib.hid (HX.out.below hb)
    replace HG := Lib.hid (HG.out.below hb)
    clear hb
    go_wp2_with fail
    refine (Wr.eq_any _ xl zl l (by omega) (Wr.holds_of_own HX.out.1) (Wr.holds_of_own HZ.out.1)).mono ?_
    rintro e w8 ⟨rfl, hb⟩
    have s8 := hb.size
    replace HB := Lib.hid (HB.out.trans (hb.mono HB.out.size))
    replace HW := Lib.hid (HW.out.below hb)
    replace HX := Lib.hid (HX.out.below hb)
    replace HG := Lib.hid (HG.out.below hb)
    replace HZ := Lib.hid (HZ.out.below hb)
    clear hb
    clear HZ
    go_wp2_with fail
    refine (Wr.mark_in _ _ _ xl l 1 (by omega) (by omega) (by omega) HX.out).mono ?_
    rintro e w9 ⟨rfl, hown, ht⟩
    have s9 := ht.size
    replace HB := Lib.hid (HB.out.trans (ht.below (by (try simp only [World.size_alloc]); omega) (by (try simp only [World.size_alloc]); omega)))
    replace HW := Lib.hid (HW.out.turned ht (by (try simp only [World.size_alloc]); omega))
    replace HG := Lib.hid (HG.out.turned ht (by (try simp only [World.size_alloc]); omega))
    replace HX := Lib.hid hown
    clear hown ht
    generalize 1 + 2 * l.length = K1
    go_wp2_with fail
    refine (Sp.eq_any _ gv pv R (by omega) (Sp.holds_of_own HG.out.1) (Sp.holds_of_own HW.out.1)).mono ?_
    rintro e w10 ⟨rfl, hb⟩
    have s10 := hb.size
    replace HB := Lib.hid (HB.out.trans (hb.mono HB.out.size))
    replace HW := Lib.hid (HW.out.below hb)
    replace HX := Lib.hid (HX.out.below hb)
    replace HG := Lib.hid (HG.out.below hb)
    clear hb
    clear HX
    go_wp2_with fail
    refine (Sp.mark_in _ _ _ gv R 1 (by omega) (by omega) (by omega) HG.out).mono ?_
    rintro e w11 ⟨rfl, hown, ht⟩
    have s11 := ht.size
    replace HB := Lib.hid (HB.out.trans (ht.below (by (try simp only [World.size_alloc]); omega) (by (try simp only [World.size_alloc]); omega)))
    replace HW := Lib.hid (HW.out.turned ht (by (try simp only [World.size_alloc]); omega))
    replace HG := Lib.hid hown
    clear hown ht
    rw [← HK.out]
    go_wp2_with fail
    refine (Sp.held_in _ gv R.length 1 (by omega) (by omega) (Sp.holds_of_own HG.out.1)).mono ?_
    rintro e w12 ⟨rfl, hb⟩
    have s12 := hb.size
    replace HB := Lib.hid (HB.out.trans (hb.mono HB.out.size))
    replace HW := Lib.hid (HW.out.below hb)
    replace HG := Lib.hid (HG.out.below hb)
    clear hb
    rw [← HK.out]
    go_wp2_with fail
    refine (Wr.to_any _ lv l (by omega) (Wr.holds_below (B := 0) HLN.out.holds HB.out)).mono ?_
    rintro e w13 ⟨ml, rfl, hown, hb⟩
    have s13 := hb.size
    have HT := Lib.hid (Dk.RowIn.fresh hown)
    clear hown
    replace HB := Lib.hid (HB.out.trans (hb.mono HB.out.size))
    replace HW := Lib.hid (HW.out.below hb)
    replace HG := Lib.hid (HG.out.below hb)
    clear hb
    go_wp2_with fail
    refine (Steps.impl_any _ ml seq l (by omega) hd (Wr.holds_of_own HT.out.1)).mono ?_
    rintro e w14 ⟨yv, rfl, hown, hb⟩
    have s14 := hb.size
    rw [← HRR.out] at hown
    have HH := Lib.hid (Dk.RowIn.fresh hown)
    clear hown
    replace HB := Lib.hid (HB.out.trans (hb.mono HB.out.size))
    replace HW := Lib.hid (HW.out.below hb)
    replace HG := Lib.hid (HG.out.below hb)
    replace HT := Lib.hid (HT.out.below hb)
    clear hb
    clear HT
    go_wp2_with fail
    refine (Sp.eq_any _ yv pv R (by omega) (Sp.holds_of_own HH.out.1) (Sp.holds_of_own HW.out.1)).mono ?_
    rintro e w15 ⟨rfl, hb⟩
    have s15 := hb.size
    replace HB := Lib.hid (HB.out.trans (hb.mono HB.out.size))
    replace HW := Lib.hid (HW.out.below hb)
    replace HG := Lib.hid (HG.out.below hb)
    replace HH := Lib.hid (HH.out.below hb)
    clear hb
    go_wp2_with fail
    refine (Sp.held_in _ gv R.length 1 (by omega) (by omega) (Sp.holds_of_own HG.out.1)).mono ?_
    rintro e w16 ⟨rfl, hb⟩
    have s16 := hb.size
    replace HB := Lib.hid (HB.out.trans (hb.mono HB.out.size))
    replace HW := Lib.hid (HW.out.below hb)
    replace HG := Lib.hid (HG.out.below hb)
    replace HH := Lib.hid (HH.out.below hb)
    clear hb
    rw [← HK.out]
    go_wp2
    go_ret
    exact ⟨rfl, HB.out⟩
  · have HC := Lib.hid (Wr.budget_neg hc)
    clear hc
    go_enter Try.func9, Try.ntmps9
    have HB := Lib.hid (Below.refl w.heap.size w)
    go_wp2_with fail
    refine (Wr.sz_any _ lv l 1048576 (by omega) HLN.out.len HLN.out.sz (Wr.holds_below (B := 0) HLN.out.holds HB.out)).mono ?_
    rintro e w1 ⟨rfl, hb⟩
    have s1 := hb.size
    replace HB := Lib.hid (HB.out.trans (hb.mono HB.out.size))
    clear hb
    rw [HC.out]
    go_wp2
    go_ret
    exact ⟨rfl, HB.out⟩

set_option maxRecDepth 100000 in
theorem lifted (os : Os) (started : os.Started) (H : Type) (enc : TypeId × Value → H) :
    ReturnsInHanded {} Try.checked os 9 .any (Rows.fnExactTxnStepsSpec.pre6 enc Try.prog Try.f9 Rows.fnExactTxnStepsRow.domain false) (Rows.fnExactTxnStepsSpec.post enc Try.prog Try.f9 false true false false) := by
  refine returnsInHanded_of_change (C := Try.checked) Kit.own started (by kernel_rfl) Try.func9
    (ChangeSpec.witness6 (enc := enc) (C := Try.checked) false ⟨#[], #[.int .i64 0, .slice none 0 0], []⟩ 8 (by kernel_rfl) (by kernel_rfl) (by kernel_rfl) (by kernel_rfl)) ?_
  intro W base args ds gs before hval0 hW hcnd _
  have hval : ∀ (j : Nat) t v, Try.f9.params[j]? = some t → args[j]? = some v → Value.okWide Try.prog W .any base t v := hval0
  have hW' := hW
  obtain ⟨p, q, hA0, hV, rfl, hfz, hnd⟩ := hW
  have hA : DataW.TrodAll enc Try.prog W 0 (fun _ => true) true Try.f9.params.toList args.toList ds p := hA0
  rw [Try.params9] at hA hval
  obtain ⟨v0, v1, d0, d1, p0, p1, rfl, rfl, rfl, h0, h1⟩ := trodAll_two hA
  obtain ⟨a0, rfl, rfl, rfl, w0⟩ := open_int Try.underlying3 (hval 0 3 v0 rfl rfl) h0
  obtain ⟨a1, w1⟩ := Wr.list_of (hval 1 48 v1 rfl rfl) h1
  refine (law_any a0 _ a1 W w0 w1).mono fun e W' ⟨he, hb⟩ => ?_
  subst he
  exact ⟨_, rfl, Kit.law_post Kit.laidOut (by kernel_rfl) Try.underlying4 rfl rfl (fun H ds hl => by match ds, hl with | [d0, d1], _ => rfl) hW' hb⟩

theorem holds : Rows.FnExactTxnStepsSaid :=
  OpenClaim.holds_of_wide 9 Try.f9 rfl rfl rfl rfl rfl rfl rfl ⟨rfl, rfl, rfl, rfl, rfl⟩ rfl rfl rfl rfl rfl (by kernel_rfl) Try.func9 (by kernel_rfl)
    (of_decide_eq_true (by kernel_rfl)) (by unfold Func.isWrapper; first | (rw [if_pos (by decide +kernel)]; kernel_rfl) | (rw [if_neg (by decide +kernel)]; exact ⟨rfl, rfl⟩))
    (fun os started H enc _ => lifted os started H enc)
#print axioms holds
end Go.Proofs.Ytgapjdkelkmdgaa.StepsLaw
