/- Proved: for every int and every list of writes, the law FnExactCommitSector returns true and leaves its arguments as they were: the program's CommitSector answers as the model's. No condition beyond the row's own. -/
import Derived.Test.YtgapjdkelkmdgaaCommitSpec
import Derived.Test.YtgapjdkelkmdgaaWrIn
namespace Go.Proofs.Ytgapjdkelkmdgaa.CommitLaw
open Go.ChangeShapes Go.WideShapes Go.ChangeAt Go.RowKit
open Go.ChangeMaps (open_string shut_string)
open Dk (D Holds Ok In Own cost costOf cost_pos cost_neg cost_len sz_any to_any eq_any mark_all held_all)
open Wr (LIn lcost)
set_option linter.unusedVariables false

set_option maxRecDepth 100000 in
set_option maxHeartbeats 4000000 in
theorem law_any (seq : Int) (lv : Value) (l : List Wr.Wt) (w : World) (_hi : (Lit.int .i64 seq).wf = true) (hl : LIn w lv l) :
    Calls Try.prog 6 #[.int .i64 seq, lv] w fun e w' => e = .returned (.bool true) ∧ Below w.heap.size w w' := by
  have HLN := Lib.hid hl
  clear hl _hi
  obtain ⟨V, hV⟩ : ∃ V, V = Txn.commitV seq l := ⟨_, rfl⟩
  have HV := Lib.hid hV
  clear hV
  by_cases hc : lcost l ≤ 1048576
  · have HC := Lib.hid (Wr.budget_pos hc)
    have hl3 : l.length ≤ 1048576 := by unfold lcost at hc; omega
    have hd : Strs.total (Wr.datas l) ≤ 1048576 := by unfold lcost at hc; omega
    obtain ⟨r, hr⟩ : ∃ r : Nat, r = 1048576 - lcost l := ⟨_, rfl⟩
    rw [← hr] at HC
    clear hc hr
    go_enter Try.func6, Try.ntmps6
    have HB := Lib.hid (Below.refl w.heap.size w)
    go_wp2_with fail
    refine (Wr.sz_any _ lv l 1048576 (by omega) HLN.out.len HLN.out.sz (Wr.holds_below (B := 0) HLN.out.holds HB.out)).mono ?_
    rintro e w1 ⟨rfl, hb⟩
    have s1 := hb.size
    replace HB := Lib.hid (HB.out.trans (hb.mono HB.out.size))
    clear hb
    rw [HC.out]
    go_wp2_with fail
    refine (Wr.to_any _ lv l (by omega) (Wr.holds_below (B := 0) HLN.out.holds HB.out)).mono ?_
    rintro e w2 ⟨kl, rfl, hown, hb⟩
    have s2 := hb.size
    have HTL := Lib.hid (Dk.RowIn.fresh hown)
    clear hown
    replace HB := Lib.hid (HB.out.trans (hb.mono HB.out.size))
    clear hb
    go_wp2_with fail
    refine (Commit.spec_any _ kl seq l (by omega) hd (Wr.holds_of_own HTL.out.1)).mono ?_
    rintro e w3 ⟨rfl, hb⟩
    have s3 := hb.size
    replace HB := Lib.hid (HB.out.trans (hb.mono HB.out.size))
    replace HTL := Lib.hid (HTL.out.below hb)
    clear hb
    rw [← HV.out]
    clear HTL
    go_wp2_with fail
    refine (Wr.to_any _ lv l (by omega) (Wr.holds_below (B := 0) HLN.out.holds HB.out)).mono ?_
    rintro e w4 ⟨xl, rfl, hown, hb⟩
    have s4 := hb.size
    have HXL := Lib.hid (Dk.RowIn.fresh hown)
    clear hown
    replace HB := Lib.hid (HB.out.trans (hb.mono HB.out.size))
    clear hb
    go_wp2_with fail
    refine (Commit.impl_any _ xl seq l (by omega) hd (Wr.holds_of_own HXL.out.1)).mono ?_
    rintro e w5 ⟨rfl, hb⟩
    have s5 := hb.size
    replace HB := Lib.hid (HB.out.trans (hb.mono HB.out.size))
    replace HXL := Lib.hid (HXL.out.below hb)
    clear hb
    rw [← HV.out]
    go_wp2_with fail
    refine (Wr.to_any _ lv l (by omega) (Wr.holds_below (B := 0) HLN.out.holds HB.out)).mono ?_
    rintro e w6 ⟨zl, rfl, hown, hb⟩
    have s6 := hb.size
    have HZL := Lib.hid (Dk.RowIn.fresh hown)
    clear hown
    replace HB := Lib.hid (HB.out.trans (hb.mono HB.out.size))
    replace HXL := Lib.hid (HXL.out.below hb)
    clear hb
    go_wp2_with fail
    refine (Wr.eq_any _ xl zl l (by omega) (Wr.holds_of_own HXL.out.1) (Wr.holds_of_own HZL.out.1)).mono ?_
    rintro e w7 ⟨rfl, hb⟩
    have s7 := hb.size
    replace HB := Lib.hid (HB.out.trans (hb.mono HB.out.size))
    replace HXL := Lib.hid (HXL.out.below hb)
    replace HZL := Lib.hid (HZL.out.below hb)
    clear hb
    go_wp2
    go_ret
    exact ⟨rfl, HB.out⟩
  · have HC := Lib.hid (Wr.budget_neg hc)
    clear hc
    go_enter Try.func6, Try.ntmps6
    have HB := Lib.hid (Below.refl w.heap.size w)
    go_wp2_with fail
    refine (Wr.sz_any _ lv l 1048576 (by omega) HLN.out.len HLN.out.sz (Wr.holds_below (B := 0) HLN.out.holds HB.out)).mono ?_
    rintro e w1 ⟨rfl, hb⟩
    have s1 := hb.size
    replace HB := Lib.hid (HB.out.trans (hb.mono HB.out.size))
    clear hb
    rw [HC.out]
    go_wp2
    go_ret
    exact ⟨rfl, HB.out⟩

set_option maxRecDepth 100000 in
theorem lifted (os : Os) (started : os.Started) (H : Type) (enc : TypeId × Value → H) :
    ReturnsInHanded {} Try.checked os 6 .any (Rows.fnExactCommitSectorSpec.pre6 enc Try.prog Try.f6 Rows.fnExactCommitSectorRow.domain false) (Rows.fnExactCommitSectorSpec.post enc Try.prog Try.f6 false true false false) := by
  refine returnsInHanded_of_change (C := Try.checked) Kit.own started (by kernel_rfl) Try.func6
    (ChangeSpec.witness6 (enc := enc) (C := Try.checked) false ⟨#[], #[.int .i64 0, .slice none 0 0], []⟩ 8 (by kernel_rfl) (by kernel_rfl) (by kernel_rfl) (by kernel_rfl)) ?_
  intro W base args ds gs before hval0 hW hcnd _
  have hval : ∀ (j : Nat) t v, Try.f6.params[j]? = some t → args[j]? = some v → Value.okWide Try.prog W .any base t v := hval0
  have hW' := hW
  obtain ⟨p, q, hA0, hV, rfl, hfz, hnd⟩ := hW
  have hA : DataW.TrodAll enc Try.prog W 0 (fun _ => true) true Try.f6.params.toList args.toList ds p := hA0
  rw [Try.params6] at hA hval
  obtain ⟨v0, v1, d0, d1, p0, p1, rfl, rfl, rfl, h0, h1⟩ := trodAll_two hA
  obtain ⟨a0, rfl, rfl, rfl, w0⟩ := open_int Try.underlying3 (hval 0 3 v0 rfl rfl) h0
  obtain ⟨a1, w1⟩ := Wr.list_of (hval 1 48 v1 rfl rfl) h1
  refine (law_any a0 _ a1 W w0 w1).mono fun e W' ⟨he, hb⟩ => ?_
  subst he
  exact ⟨_, rfl, Kit.law_post Kit.laidOut (by kernel_rfl) Try.underlying4 rfl rfl (fun H ds hl => by match ds, hl with | [d0, d1], _ => rfl) hW' hb⟩

theorem holds : Rows.FnExactCommitSectorSaid :=
  OpenClaim.holds_of_wide 6 Try.f6 rfl rfl rfl rfl rfl rfl rfl ⟨rfl, rfl, rfl, rfl, rfl⟩ rfl rfl rfl rfl rfl (by kernel_rfl) Try.func6 (by kernel_rfl)
    (of_decide_eq_true (by kernel_rfl)) (by unfold Func.isWrapper; first | (rw [if_pos (by decide +kernel)]; kernel_rfl) | (rw [if_neg (by decide +kernel)]; exact ⟨rfl, rfl⟩))
    (fun os started H enc _ => lifted os started H enc)
#print axioms holds
end Go.Proofs.Ytgapjdkelkmdgaa.CommitLaw
