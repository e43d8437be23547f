/- Proved: for every list of entries, the law FnExactPackAcl returns true and leaves its argument as it was: the program's PackAcl answers as the model's. Condition: none beyond the row's own. -/
import Derived.Test.YtgilmmofbpembaaAclK
import Derived.Test.YtgilmmofbpembaaAeIn
namespace Go.Proofs.Ytgilmmofbpembaa.PackAclLaw
open Go.ChangeShapes Go.WideShapes Go.ChangeAt Go.RowKit
open AclV
set_option linter.unusedVariables false

set_option maxRecDepth 100000 in
set_option maxHeartbeats 1600000 in
theorem law_any (lv : Value) (l : List At) (w : World) (hl : Ae.LIn w lv l) :
    Calls Try.prog 6 #[lv] w fun e w' => e = .returned (.bool true) ∧ Below w.heap.size w w' := by
  have HLN := Lib.hid hl
  clear hl
  by_cases hc : l.length ≤ 1048576
  · obtain ⟨r, hr⟩ : ∃ r : Nat, r = 1048576 - l.length := ⟨_, rfl⟩
    have HC := Lib.hid (show (if l.length ≤ 1048576 then ((1048576 - l.length : Nat) : Int) else -1) = (r : Int) by rw [if_pos hc, hr])
    clear hr
    have hs : ∀ (W : World) (v : Value), Ae.Holds W v l → Calls Try.prog 17 #[v] W fun e w' => e = .returned (.string (packV l)) ∧ Below W.heap.size W w' := fun W v h => AclK.spec_any W v l (by omega) h
    have hi : ∀ (W : World) (v : Value), Ae.Holds W v l → Calls Try.prog 18 #[v] W fun e w' => e = .returned (.string (packV l)) ∧ Below W.heap.size W w' := fun W v h => AclK.impl_any W v l (by omega) h
    generalize packV l = g at hs hi
    have HS := Lib.hid hs
    have HI := Lib.hid hi
    clear hs hi
    · go_enter Try.func6, Try.ntmps6
      go_wp2_with fail
      refine (Ae.sz_any _ lv l 1048576 (by omega) HLN.out.len HLN.out.holds).mono ?_
      rintro e w1 ⟨rfl, hb⟩
      rw [HC.out]
      have HB := Lib.hid hb
      clear hb
      go_wp2_with fail
      refine (Ae.to_any _ lv l (by omega) (Ae.holds_below HLN.out.holds HB.out)).mono ?_
      rintro e w2 ⟨ka, rfl, hown, hb⟩
      have HK := Lib.hid (Ae.holds_of_own hown)
      replace HB := Lib.hid (HB.out.trans (hb.mono HB.out.size))
      clear hb
      clear hown
      go_wp2_with fail
      refine (HS.out _ ka HK.out).mono ?_
      rintro e w3 ⟨rfl, hb⟩
      replace HB := Lib.hid (HB.out.trans (hb.mono HB.out.size))
      clear hb
      clear HK
      go_wp2_with fail
      refine (Ae.to_any _ lv l (by omega) (Ae.holds_below HLN.out.holds HB.out)).mono ?_
      rintro e w4 ⟨xa, rfl, hown, hb⟩
      have HX := Lib.hid (Ae.holds_of_own hown)
      replace HB := Lib.hid (HB.out.trans (hb.mono HB.out.size))
      clear hb
      clear hown
      go_wp2_with fail
      refine (HI.out _ xa HX.out).mono ?_
      rintro e w5 ⟨rfl, hb⟩
      replace HX := Lib.hid (Ae.holds_below HX.out hb)
      replace HB := Lib.hid (HB.out.trans (hb.mono HB.out.size))
      clear hb
      go_wp2_with fail
      refine (Ae.to_any _ lv l (by omega) (Ae.holds_below HLN.out.holds HB.out)).mono ?_
      rintro e w6 ⟨za, rfl, hown, hb⟩
      have HZ := Lib.hid (Ae.holds_of_own hown)
      replace HX := Lib.hid (Ae.holds_below HX.out hb)
      replace HB := Lib.hid (HB.out.trans (hb.mono HB.out.size))
      clear hb
      clear hown
      go_wp2_with fail
      refine (Ae.eq_any _ xa za l (by omega) HX.out HZ.out).mono ?_
      rintro e w7 ⟨rfl, hb⟩
      replace HB := Lib.hid (HB.out.trans (hb.mono HB.out.size))
      clear hb
      go_wp2
      go_ret
      exact ⟨rfl, HB.out⟩
  · have HC := Lib.hid (show (if l.length ≤ 1048576 then ((1048576 - l.length : Nat) : Int) else -1) = -1 from if_neg hc)
    go_enter Try.func6, Try.ntmps6
    go_wp2_with fail
    refine (Ae.sz_any _ lv l 1048576 (by omega) HLN.out.len HLN.out.holds).mono ?_
    rintro e w1 ⟨rfl, hb⟩
    rw [HC.out]
    have HB := Lib.hid hb
    clear hb
    go_wp2
    go_ret
    exact ⟨rfl, HB.out⟩


set_option maxRecDepth 100000 in
theorem lifted (os : Os) (started : os.Started) (H : Type) (enc : TypeId × Value → H) :
    ReturnsInHanded {} Try.checked os 6 .any (Rows.fnExactPackAclSpec.pre6 enc Try.prog Try.f6 Rows.fnExactPackAclRow.domain false) (Rows.fnExactPackAclSpec.post enc Try.prog Try.f6 false true false false) := by
  refine returnsInHanded_of_change (C := Try.checked) Kit.own started (by kernel_rfl) Try.func6
    (ChangeSpec.witness6 (enc := enc) (C := Try.checked) false ⟨#[], #[.slice none 0 0], []⟩ 8 (by kernel_rfl) (by kernel_rfl) (by kernel_rfl) (by kernel_rfl)) ?_
  intro W base args ds gs before hval0 hW hcnd _
  have hval : ∀ (j : Nat) t v, Try.f6.params[j]? = some t → args[j]? = some v → Value.okWide Try.prog W .any base t v := hval0
  have hW' := hW
  obtain ⟨p, q, hA0, hV, rfl, hfz, hnd⟩ := hW
  have hA : DataW.TrodAll enc Try.prog W 0 (fun _ => true) true Try.f6.params.toList args.toList ds p := hA0
  rw [Try.params6] at hA hval
  obtain ⟨v0, d0, rfl, rfl, h0⟩ := trodAll_one hA
  obtain ⟨a0, w0⟩ := Ae.list_of (hval 0 22 v0 rfl rfl) h0
  refine (law_any _ a0 W w0).mono fun e W' ⟨he, hb⟩ => ?_
  subst he
  exact ⟨_, rfl, Kit.law_post Kit.laidOut (by kernel_rfl) Try.underlying4 rfl rfl (fun H ds hl => by match ds, hl with | [d0], _ => rfl) hW' hb⟩

theorem holds : Rows.FnExactPackAclSaid :=
  OpenClaim.holds_of_wide 6 Try.f6 rfl rfl rfl rfl rfl rfl rfl ⟨rfl, rfl, rfl, rfl, rfl⟩ rfl rfl rfl rfl rfl (by kernel_rfl) Try.func6 (by kernel_rfl)
    (of_decide_eq_true (by kernel_rfl)) (by unfold Func.isWrapper; first | (rw [if_pos (by decide +kernel)]; kernel_rfl) | (rw [if_neg (by decide +kernel)]; exact ⟨rfl, rfl⟩))
    (fun os started H enc _ => lifted os started H enc)
#print axioms holds
end Go.Proofs.Ytgilmmofbpembaa.PackAclLaw
