/- Proved: for every list of writes, the law FnExactJournalWrites returns true and leaves its argument as it was: the program's JournalWrites answers as the model's, in memory of its own. No condition beyond the row's own. -/
import Derived.Test.YtgapjdkelkmdgaaJournalSpec
import Derived.Test.YtgapjdkelkmdgaaWrIn
namespace Go.Proofs.Ytgapjdkelkmdgaa.JournalLaw
open Go.ChangeShapes Go.WideShapes Go.ChangeAt Go.RowKit
open Go.ChangeMaps (open_string shut_string)
open Dk (D Holds Ok In Own cost costOf cost_pos cost_neg cost_len sz_any to_any eq_any mark_all held_all)
open Wr (LIn lcost)
set_option linter.unusedVariables false

theorem jour_len (l : List Wr.Wt) (h : l.length ≤ 1048576) : (Txn.jourV l).length ≤ 3000000 := by
  by_cases hh : Txn.Tgt l ∧ Txn.Full l
  · rw [Txn.jour_yes hh.1 hh.2, List.length_append, Txn.tgtW_len, Txn.payW_len]
    have h1 := CutAll.cutAll_len (Txn.tgts l) 32
    have h2 := Txn.tgts_size l
    have h3 := hh.1.1.2
    omega
  · rw [Txn.jour_no hh]
    exact Nat.zero_le _
set_option maxRecDepth 100000 in
set_option maxHeartbeats 4000000 in
theorem law_any (lv : Value) (l : List Wr.Wt) (w : World) (hl : LIn w lv l) :
    Calls Try.prog 7 #[lv] w fun e w' => e = .returned (.bool true) ∧ Below w.heap.size w w' := by
  have HLN := Lib.hid hl
  clear hl
  by_cases hc : lcost l ≤ 1048576
  · have HC := Lib.hid (Wr.budget_pos hc)
    have hl3 : l.length ≤ 1048576 := by unfold lcost at hc; omega
    obtain ⟨r, hr⟩ : ∃ r : Nat, r = 1048576 - lcost l := ⟨_, rfl⟩
    rw [← hr] at HC
    have hR := jour_len l hl3
    obtain ⟨R, hRR⟩ : ∃ R, R = Txn.jourV l := ⟨_, rfl⟩
    rw [← hRR] at hR
    have HRR := Lib.hid hRR
    obtain ⟨KM, hKM⟩ : ∃ k, k = 1 + 2 * R.length := ⟨_, rfl⟩
    have HK := Lib.hid hKM
    clear hc hr hRR hKM
    go_enter Try.func7, Try.ntmps7
    have HB := Lib.hid (Below.refl w.heap.size w)
    go_wp2_with fail
    refine (Wr.sz_any _ lv l 1048576 (by omega) HLN.out.len HLN.out.sz (Wr.holds_below (B := 0) HLN.out.holds HB.out)).mono ?_
    rintro e w1 ⟨rfl, hb⟩
    have s1 := hb.size
    replace HB := Lib.hid (HB.out.trans (hb.mono HB.out.size))
    clear hb
    rw [HC.out]
    go_wp2_with fail
    refine (Wr.to_any _ lv l (by omega) (Wr.holds_below (B := 0) HLN.out.holds HB.out)).mono ?_
    rintro e w2 ⟨kl, rfl, hown, hb⟩
    have s2 := hb.size
    have HT := Lib.hid (Dk.RowIn.fresh hown)
    clear hown
    replace HB := Lib.hid (HB.out.trans (hb.mono HB.out.size))
    clear hb
    go_wp2_with fail
    refine (Journal.spec_any _ kl l (by omega) (Wr.holds_of_own HT.out.1)).mono ?_
    rintro e w3 ⟨pv, rfl, hown, hb⟩
    have s3 := hb.size
    rw [← HRR.out] at hown
    have HW := Lib.hid (Dk.RowIn.fresh hown)
    clear hown
    replace HB := Lib.hid (HB.out.trans (hb.mono HB.out.size))
    replace HT := Lib.hid (HT.out.below hb)
    clear hb
    clear HT
    go_wp2_with fail
    refine (Wr.to_any _ lv l (by omega) (Wr.holds_below (B := 0) HLN.out.holds HB.out)).mono ?_
    rintro e w4 ⟨xl, rfl, hown, hb⟩
    have s4 := hb.size
    have HX := Lib.hid (Dk.RowIn.fresh hown)
    clear hown
    replace HB := Lib.hid (HB.out.trans (hb.mono HB.out.size))
    replace HW := Lib.hid (HW.out.below hb)
    clear hb
    go_wp2_with fail
    refine (Journal.impl_row _ xl l (by omega) (Wr.holds_of_own HX.out.1)).mono ?_
    rintro e w5 ⟨gv, rfl, hown, hb⟩
    have s5 := hb.size
    rw [← HRR.out] at hown
    have HG := Lib.hid (Dk.RowIn.fresh hown)
    clear hown
    replace HB := Lib.hid (HB.out.trans (hb.mono HB.out.size))
    replace HW := Lib.hid (HW.out.below hb)
    replace HX := Lib.hid (HX.out.below hb)
    clear hb
    go_wp2_with fail
    refine (Wr.eq_any _ gv pv R (by omega) (Wr.holds_of_own HG.out.1) (Wr.holds_of_own HW.out.1)).mono ?_
    rintro e w6 ⟨rfl, hb⟩
    have s6 := hb.size
    replace HB := Lib.hid (HB.out.trans (hb.mono HB.out.size))
    replace HW := Lib.hid (HW.out.below hb)
    replace HX := Lib.hid (HX.out.below hb)
    replace HG := Lib.hid (HG.out.below hb)
    clear hb
    go_wp2_with fail
    refine (Wr.to_any _ lv l (by omega) (Wr.holds_below (B := 0) HLN.out.holds HB.out)).mono ?_
    rintro e w7 ⟨zl, rfl, hown, hb⟩
    have s7 := hb.size
    have HZ := Lib.hid (Dk.RowIn.fresh hown)
    clear hown
    replace HB := Lib.hid (HB.out.trans (hb.mono HB.out.size))
    replace HW := Lib.hid (HW.out.below hb)
    replace HX := Lib.hid (HX.out.below hb)
    replace HG := Lib.hid (HG.out.below hb)
    clear hb
    go_wp2_with fail
    refine (Wr.eq_any _ xl zl l (by omega) (Wr.holds_of_own HX.out.1) (Wr.holds_of_own HZ.out.1)).mono ?_
    rintro e w8 ⟨rfl, hb⟩
    have s8 := hb.size
    replace HB := Lib.hid (HB.out.trans (hb.mono HB.out.size))
    replace HW := Lib.hid (HW.out.below hb)
    replace HX := Lib.hid (HX.out.below hb)
    replace HG := Lib.hid (HG.out.below hb)
    replace HZ := Lib.hid (HZ.out.below hb)
    clear hb
    clear HZ
    go_wp2_with fail
    refine (Wr.mark_in _ _ _ xl l 1 (by omega) (by omega) (by omega) HX.out).mono ?_
    rintro e w9 ⟨rfl, hown, ht⟩
    have s9 := ht.size
    replace HB := Lib.hid (HB.out.trans (ht.below (by (try simp only [World.size_alloc]); omega) (by (try simp only [World.size_alloc]); omega)))
    replace HW := Lib.hid (HW.out.turned ht (by (try simp only [World.size_alloc]); omega))
    replace HG := Lib.hid (HG.out.turned ht (by (try simp only [World.size_alloc]); omega))
    replace HX := Lib.hid hown
    clear hown ht
    generalize 1 + 2 * l.length = K1
    go_wp2_with fail
    refine (Wr.eq_any _ gv pv R (by omega) (Wr.holds_of_own HG.out.1) (Wr.holds_of_own HW.out.1)).mono ?_
    rintro e w10 ⟨rfl, hb⟩
    have s10 := hb.size
    replace HB := Lib.hid (HB.out.trans (hb.mono HB.out.size))
    replace HW := Lib.hid (HW.out.below hb)
    replace HX := Lib.hid (HX.out.below hb)
    replace HG := Lib.hid (HG.out.below hb)
    clear hb
    clear HX
    go_wp2_with fail
    refine (Wr.mark_in _ _ _ gv R 1 (by omega) (by omega) (by omega) HG.out).mono ?_
    rintro e w11 ⟨rfl, hown, ht⟩
    have s11 := ht.size
    replace HB := Lib.hid (HB.out.trans (ht.below (by (try simp only [World.size_alloc]); omega) (by (try simp only [World.size_alloc]); omega)))
    replace HW := Lib.hid (HW.out.turned ht (by (try simp only [World.size_alloc]); omega))
    replace HG := Lib.hid hown
    clear hown ht
    rw [← HK.out]
    go_wp2_with fail
    refine (Wr.held_in _ gv R.length 1 (by omega) (by omega) (Wr.holds_of_own HG.out.1)).mono ?_
    rintro e w12 ⟨rfl, hb⟩
    have s12 := hb.size
    replace HB := Lib.hid (HB.out.trans (hb.mono HB.out.size))
    replace HW := Lib.hid (HW.out.below hb)
    replace HG := Lib.hid (HG.out.below hb)
    clear hb
    rw [← HK.out]
    go_wp2_with fail
    refine (Wr.to_any _ lv l (by omega) (Wr.holds_below (B := 0) HLN.out.holds HB.out)).mono ?_
    rintro e w13 ⟨ml, rfl, hown, hb⟩
    have s13 := hb.size
    have HT := Lib.hid (Dk.RowIn.fresh hown)
    clear hown
    replace HB := Lib.hid (HB.out.trans (hb.mono HB.out.size))
    replace HW := Lib.hid (HW.out.below hb)
    replace HG := Lib.hid (HG.out.below hb)
    clear hb
    go_wp2_with fail
    refine (Journal.impl_row _ ml l (by omega) (Wr.holds_of_own HT.out.1)).mono ?_
    rintro e w14 ⟨yv, rfl, hown, hb⟩
    have s14 := hb.size
    rw [← HRR.out] at hown
    have HH := Lib.hid (Dk.RowIn.fresh hown)
    clear hown
    replace HB := Lib.hid (HB.out.trans (hb.mono HB.out.size))
    replace HW := Lib.hid (HW.out.below hb)
    replace HG := Lib.hid (HG.out.below hb)
    replace HT := Lib.hid (HT.out.below hb)
    clear hb
    clear HT
    go_wp2_with fail
    refine (Wr.eq_any _ yv pv R (by omega) (Wr.holds_of_own HH.out.1) (Wr.holds_of_own HW.out.1)).mono ?_
    rintro e w15 ⟨rfl, hb⟩
    have s15 := hb.size
    replace HB := Lib.hid (HB.out.trans (hb.mono HB.out.size))
    replace HW := Lib.hid (HW.out.below hb)
    replace HG := Lib.hid (HG.out.below hb)
    replace HH := Lib.hid (HH.out.below hb)
    clear hb
    go_wp2_with fail
    refine (Wr.held_in _ gv R.length 1 (by omega) (by omega) (Wr.holds_of_own HG.out.1)).mono ?_
    rintro e w16 ⟨rfl, hb⟩
    have s16 := hb.size
    replace HB := Lib.hid (HB.out.trans (hb.mono HB.out.size))
    replace HW := Lib.hid (HW.out.below hb)
    replace HG := Lib.hid (HG.out.below hb)
    replace HH := Lib.hid (HH.out.below hb)
    clear hb
    rw [← HK.out]
    go_wp2
    go_ret
    exact ⟨rfl, HB.out⟩
  · have HC := Lib.hid (Wr.budget_neg hc)
    clear hc
    go_enter Try.func7, Try.ntmps7
    have HB := Lib.hid (Below.refl w.heap.size w)
    go_wp2_with fail
    refine (Wr.sz_any _ lv l 1048576 (by omega) HLN.out.len HLN.out.sz (Wr.holds_below (B := 0) HLN.out.holds HB.out)).mono ?_
    rintro e w1 ⟨rfl, hb⟩
    have s1 := hb.size
    replace HB := Lib.hid (HB.out.trans (hb.mono HB.out.size))
    clear hb
    rw [HC.out]
    go_wp2
    go_ret
    exact ⟨rfl, HB.out⟩

set_option maxRecDepth 100000 in
theorem lifted (os : Os) (started : os.Started) (H : Type) (enc : TypeId × Value → H) :
    ReturnsInHanded {} Try.checked os 7 .any (Rows.fnExactJournalWritesSpec.pre6 enc Try.prog Try.f7 Rows.fnExactJournalWritesRow.domain false) (Rows.fnExactJournalWritesSpec.post enc Try.prog Try.f7 false true false false) := by
  refine returnsInHanded_of_change (C := Try.checked) Kit.own started (by kernel_rfl) Try.func7
    (ChangeSpec.witness6 (enc := enc) (C := Try.checked) false ⟨#[], #[.slice none 0 0], []⟩ 8 (by kernel_rfl) (by kernel_rfl) (by kernel_rfl) (by kernel_rfl)) ?_
  intro W base args ds gs before hval0 hW hcnd _
  have hval : ∀ (j : Nat) t v, Try.f7.params[j]? = some t → args[j]? = some v → Value.okWide Try.prog W .any base t v := hval0
  have hW' := hW
  obtain ⟨p, q, hA0, hV, rfl, hfz, hnd⟩ := hW
  have hA : DataW.TrodAll enc Try.prog W 0 (fun _ => true) true Try.f7.params.toList args.toList ds p := hA0
  rw [Try.params7] at hA hval
  obtain ⟨v0, d0, rfl, rfl, h0⟩ := trodAll_one hA
  obtain ⟨a0, w0⟩ := Wr.list_of (hval 0 48 v0 rfl rfl) h0
  refine (law_any _ a0 W w0).mono fun e W' ⟨he, hb⟩ => ?_
  subst he
  exact ⟨_, rfl, Kit.law_post Kit.laidOut (by kernel_rfl) Try.underlying4 rfl rfl (fun H ds hl => by match ds, hl with | [d0], _ => rfl) hW' hb⟩

theorem holds : Rows.FnExactJournalWritesSaid :=
  OpenClaim.holds_of_wide 7 Try.f7 rfl rfl rfl rfl rfl rfl rfl ⟨rfl, rfl, rfl, rfl, rfl⟩ rfl rfl rfl rfl rfl (by kernel_rfl) Try.func7 (by kernel_rfl)
    (of_decide_eq_true (by kernel_rfl)) (by unfold Func.isWrapper; first | (rw [if_pos (by decide +kernel)]; kernel_rfl) | (rw [if_neg (by decide +kernel)]; exact ⟨rfl, rfl⟩))
    (fun os started H enc _ => lifted os started H enc)
#print axioms holds
end Go.Proofs.Ytgapjdkelkmdgaa.JournalLaw
