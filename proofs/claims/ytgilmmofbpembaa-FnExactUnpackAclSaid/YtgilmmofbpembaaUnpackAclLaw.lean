/- Proved: for every string, the law FnExactUnpackAcl returns true: the program's UnpackAcl answers as the model's, and its answer owns its memory. Condition: none beyond the row's own. -/
import Derived.Test.YtgilmmofbpembaaAclU
import Derived.Test.YtgilmmofbpembaaAeIn
namespace Go.Proofs.Ytgilmmofbpembaa.UnpackAclLaw
open Go.ChangeShapes Go.WideShapes Go.ChangeAt Go.RowKit
open Go.ChangeMaps (open_string shut_string)
open AclV
open Dk (RowIn Turned)
set_option linter.unusedVariables false

set_option maxRecDepth 100000 in
set_option maxHeartbeats 3200000 in
theorem law_any (s : ByteArray) (w : World) (hs : s.size ≤ maxLen) :
    Calls Try.prog 7 #[.string s] w fun e w' => e = .returned (.bool true) ∧ Below w.heap.size w w' := by
  by_cases hc : s.size ≤ 1048576
  · have hS : ∀ W : World, Calls Try.prog 19 #[.string s] W fun e w' => ∃ v, e = .returned (.tuple #[v, .bool (AclU.resR (unpackV s)).2]) ∧ w'.ownsRow W.heap.size 39 3 v (AclU.resR (unpackV s)).1.length (Ae.cells (AclU.resR (unpackV s)).1) ∧ Below W.heap.size W w' := fun W => AclU.spec_any s W hc
    have hI : ∀ W : World, Calls Try.prog 20 #[.string s] W fun e w' => ∃ v, e = .returned (.tuple #[v, .bool (AclU.resR (unpackV s)).2]) ∧ w'.ownsRow W.heap.size 39 3 v (AclU.resR (unpackV s)).1.length (Ae.cells (AclU.resR (unpackV s)).1) ∧ Below W.heap.size W w' := fun W => AclU.impl_any s W hc
    have hR := AclU.unp_len s
    generalize AclU.resR (unpackV s) = r at hS hI hR
    obtain ⟨R, b⟩ := r
    dsimp only at hS hI hR
    have HK := Lib.hid (show ((1 + 3 * R.length : Nat) : Int) = ((1 + 3 * R.length : Nat) : Int) from rfl)
    obtain ⟨K, hK⟩ : ∃ K : Nat, K = 1 + 3 * R.length := ⟨_, rfl⟩
    replace HK := Lib.hid (show ((K : Nat) : Int) = ((1 + 3 * R.length : Nat) : Int) by rw [hK])
    clear hK
    have HS := Lib.hid hS
    have HI := Lib.hid hI
    skip
    clear hS hI
    go_enter Try.func7, Try.ntmps7
    go_wp2_with fail
    refine (HS.out _).mono ?_
    rintro e w1 ⟨pv, rfl, hown, hb⟩
    have sw1 := hb.size
    have HB := Lib.hid hb
    clear hb
    have HW := Lib.hid (RowIn.fresh hown)
    clear hown
    go_wp2_with fail
    refine (HI.out _).mono ?_
    rintro e w2 ⟨gv, rfl, hown, hb⟩
    have sw2 := hb.size
    replace HB := Lib.hid (HB.out.trans (hb.mono HB.out.size))
    replace HW := Lib.hid (RowIn.below HW.out hb)
    clear hb
    have HG := Lib.hid (RowIn.fresh hown)
    clear hown
    go_wp2_with fail
    refine (Ae.eq_any _ gv pv R (by omega) (Ae.holds_of_own HG.out.1) (Ae.holds_of_own HW.out.1)).mono ?_
    rintro e w3 ⟨rfl, hb⟩
    have sw3 := hb.size
    replace HB := Lib.hid (HB.out.trans (hb.mono HB.out.size))
    replace HW := Lib.hid (RowIn.below HW.out hb)
    replace HG := Lib.hid (RowIn.below HG.out hb)
    clear hb
    go_wp2_with fail
    refine (Ae.mark_in _ _ _ gv R 1 (by omega) (by omega) (by omega) HG.out).mono ?_
    rintro e w4 ⟨rfl, hown, ht⟩
    have s4 := ht.size
    replace HB := Lib.hid (HB.out.trans (ht.below (by omega) (by omega)))
    replace HW := Lib.hid (HW.out.turned ht (by omega))
    replace HG := Lib.hid hown
    clear hown ht
    rw [← HK.out]
    go_wp2_with fail
    refine (Ae.held_in _ gv R.length 1 (by omega) (by omega) (Ae.holds_of_own HG.out.1)).mono ?_
    rintro e w5 ⟨rfl, hb⟩
    have sw5 := hb.size
    replace HB := Lib.hid (HB.out.trans (hb.mono HB.out.size))
    replace HW := Lib.hid (RowIn.below HW.out hb)
    replace HG := Lib.hid (RowIn.below HG.out hb)
    clear hb
    rw [← HK.out]
    go_wp2_with fail
    refine (HI.out _).mono ?_
    rintro e w6 ⟨hv, rfl, hown, hb⟩
    have sw6 := hb.size
    replace HB := Lib.hid (HB.out.trans (hb.mono HB.out.size))
    replace HW := Lib.hid (RowIn.below HW.out hb)
    replace HG := Lib.hid (RowIn.below HG.out hb)
    clear hb
    have HH := Lib.hid (RowIn.fresh hown)
    clear hown
    go_wp2_with fail
    refine (Ae.eq_any _ hv pv R (by omega) (Ae.holds_of_own HH.out.1) (Ae.holds_of_own HW.out.1)).mono ?_
    rintro e w7 ⟨rfl, hb⟩
    have sw7 := hb.size
    replace HB := Lib.hid (HB.out.trans (hb.mono HB.out.size))
    replace HW := Lib.hid (RowIn.below HW.out hb)
    replace HG := Lib.hid (RowIn.below HG.out hb)
    replace HH := Lib.hid (RowIn.below HH.out hb)
    clear hb
    go_wp2_with fail
    refine (Ae.held_in _ gv R.length 1 (by omega) (by omega) (Ae.holds_of_own HG.out.1)).mono ?_
    rintro e w8 ⟨rfl, hb⟩
    have sw8 := hb.size
    replace HB := Lib.hid (HB.out.trans (hb.mono HB.out.size))
    replace HW := Lib.hid (RowIn.below HW.out hb)
    replace HG := Lib.hid (RowIn.below HG.out hb)
    replace HH := Lib.hid (RowIn.below HH.out hb)
    clear hb
    rw [← HK.out]
    go_wp2
    go_ret
    exact ⟨rfl, HB.out⟩
  · go_enter Try.func7, Try.ntmps7
    go_wp2
    go_ret
    exact ⟨rfl, Below.refl _ _⟩


set_option maxRecDepth 100000 in
theorem lifted (os : Os) (started : os.Started) (H : Type) (enc : TypeId × Value → H) :
    ReturnsInHanded {} Try.checked os 7 .any (Rows.fnExactUnpackAclSpec.pre6 enc Try.prog Try.f7 Rows.fnExactUnpackAclRow.domain false) (Rows.fnExactUnpackAclSpec.post enc Try.prog Try.f7 false true false false) := by
  refine returnsInHanded_of_change (C := Try.checked) Kit.own started (by kernel_rfl) Try.func7
    (ChangeSpec.witness6 (enc := enc) (C := Try.checked) false ⟨#[], #[.string ⟨#[]⟩], []⟩ 8 (by kernel_rfl) (by kernel_rfl) (by kernel_rfl) (by kernel_rfl)) ?_
  intro W base args ds gs before hval0 hW hcnd _
  have hval : ∀ (j : Nat) t v, Try.f7.params[j]? = some t → args[j]? = some v → Value.okWide Try.prog W .any base t v := hval0
  have hW' := hW
  obtain ⟨p, q, hA0, hV, rfl, hfz, hnd⟩ := hW
  have hA : DataW.TrodAll enc Try.prog W 0 (fun _ => true) true Try.f7.params.toList args.toList ds p := hA0
  rw [Try.params7] at hA hval
  obtain ⟨v0, d0, rfl, rfl, h0⟩ := trodAll_one hA
  obtain ⟨a0, rfl, rfl, rfl, w0⟩ := open_string Try.underlying9 (hval 0 9 v0 rfl rfl) h0
  refine (law_any a0 W w0).mono fun e W' ⟨he, hb⟩ => ?_
  subst he
  exact ⟨_, rfl, Kit.law_post Kit.laidOut (by kernel_rfl) Try.underlying4 rfl rfl (fun H ds hl => by match ds, hl with | [d0], _ => rfl) hW' hb⟩

theorem holds : Rows.FnExactUnpackAclSaid :=
  OpenClaim.holds_of_wide 7 Try.f7 rfl rfl rfl rfl rfl rfl rfl ⟨rfl, rfl, rfl, rfl, rfl⟩ rfl rfl rfl rfl rfl (by kernel_rfl) Try.func7 (by kernel_rfl)
    (of_decide_eq_true (by kernel_rfl)) (by unfold Func.isWrapper; first | (rw [if_pos (by decide +kernel)]; kernel_rfl) | (rw [if_neg (by decide +kernel)]; exact ⟨rfl, rfl⟩))
    (fun os started H enc _ => lifted os started H enc)
#print axioms holds
end Go.Proofs.Ytgilmmofbpembaa.UnpackAclLaw
