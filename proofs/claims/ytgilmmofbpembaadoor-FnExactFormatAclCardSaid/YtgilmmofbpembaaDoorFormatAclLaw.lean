/- Proved: for every list of entries, the law FnExactFormatAcl returns true and leaves its argument as it was: the program's FormatAcl answers as the model's. Condition: none beyond the row's own. -/
import Derived.Test.YtgilmmofbpembaaDoorAclF
import Derived.Test.YtgilmmofbpembaaDoorAeIn
import Derived.Test.YtgilmmofbpembaaDoorLaid
import Derived.Test.YtgilmmofbpembaaDoorCards
import Derived.Test.YtgilmmofbpembaaDoorTie
import Derived.SevenTiedAt
namespace Go.Proofs.YtgilmmofbpembaaDoor.FormatAclLaw
open Go.ChangeShapes Go.WideShapes Go.ChangeAt Go.RowKit
open AclV
set_option linter.unusedVariables false

set_option maxRecDepth 100000 in
set_option maxHeartbeats 1600000 in
theorem law_any (lv : Value) (l : List At) (w : World) (hl : Ae.LIn w lv l) :
    Calls Tryd.prog 4 #[lv] w fun e w' => e = .returned (.bool true) ∧ Below w.heap.size w w' := by
  have HLN := Lib.hid hl
  clear hl
  by_cases hc : l.length ≤ 1048576
  · obtain ⟨r, hr⟩ : ∃ r : Nat, r = 1048576 - l.length := ⟨_, rfl⟩
    have HC := Lib.hid (show (if l.length ≤ 1048576 then ((1048576 - l.length : Nat) : Int) else -1) = (r : Int) by rw [if_pos hc, hr])
    clear hr
    have hs : ∀ (W : World) (v : Value), Ae.Holds W v l → Calls Tryd.prog 15 #[v] W fun e w' => e = .returned (.string (formatV l)) ∧ Below W.heap.size W w' := fun W v h => AclF.spec_any W v l (by omega) h
    have hi : ∀ (W : World) (v : Value), Ae.Holds W v l → Calls Tryd.prog 8 #[v] W fun e w' => e = .returned (.string (formatV l)) ∧ Below W.heap.size W w' := fun W v h => AclF.impl_any W v l (by omega) h
    generalize formatV l = g at hs hi
    have HS := Lib.hid hs
    have HI := Lib.hid hi
    clear hs hi
    · go_enter Tryd.func4, Tryd.ntmps4
      go_wp2_with fail
      refine (Ae.sz_any _ lv l 1048576 (by omega) HLN.out.len HLN.out.holds).mono ?_
      rintro e w1 ⟨rfl, hb⟩
      rw [HC.out]
      have HB := Lib.hid hb
      clear hb
      go_wp2_with fail
      refine (Ae.to_any _ lv l (by omega) (Ae.holds_below HLN.out.holds HB.out)).mono ?_
      rintro e w2 ⟨ka, rfl, hown, hb⟩
      have HK := Lib.hid (Ae.holds_of_own hown)
      replace HB := Lib.hid (HB.out.trans (hb.mono HB.out.size))
      clear hb
      clear hown
      go_wp2_with fail
      refine (HS.out _ ka HK.out).mono ?_
      rintro e w3 ⟨rfl, hb⟩
      replace HB := Lib.hid (HB.out.trans (hb.mono HB.out.size))
      clear hb
      clear HK
      go_wp2_with fail
      refine (Ae.to_any _ lv l (by omega) (Ae.holds_below HLN.out.holds HB.out)).mono ?_
      rintro e w4 ⟨xa, rfl, hown, hb⟩
      have HX := Lib.hid (Ae.holds_of_own hown)
      replace HB := Lib.hid (HB.out.trans (hb.mono HB.out.size))
      clear hb
      clear hown
      go_wp2_with fail
      refine (HI.out _ xa HX.out).mono ?_
      rintro e w5 ⟨rfl, hb⟩
      replace HX := Lib.hid (Ae.holds_below HX.out hb)
      replace HB := Lib.hid (HB.out.trans (hb.mono HB.out.size))
      clear hb
      go_wp2_with fail
      refine (Ae.to_any _ lv l (by omega) (Ae.holds_below HLN.out.holds HB.out)).mono ?_
      rintro e w6 ⟨za, rfl, hown, hb⟩
      have HZ := Lib.hid (Ae.holds_of_own hown)
      replace HX := Lib.hid (Ae.holds_below HX.out hb)
      replace HB := Lib.hid (HB.out.trans (hb.mono HB.out.size))
      clear hb
      clear hown
      go_wp2_with fail
      refine (Ae.eq_any _ xa za l (by omega) HX.out HZ.out).mono ?_
      rintro e w7 ⟨rfl, hb⟩
      replace HB := Lib.hid (HB.out.trans (hb.mono HB.out.size))
      clear hb
      go_wp2
      go_ret
      exact ⟨rfl, HB.out⟩
  · have HC := Lib.hid (show (if l.length ≤ 1048576 then ((1048576 - l.length : Nat) : Int) else -1) = -1 from if_neg hc)
    go_enter Tryd.func4, Tryd.ntmps4
    go_wp2_with fail
    refine (Ae.sz_any _ lv l 1048576 (by omega) HLN.out.len HLN.out.holds).mono ?_
    rintro e w1 ⟨rfl, hb⟩
    rw [HC.out]
    have HB := Lib.hid hb
    clear hb
    go_wp2
    go_ret
    exact ⟨rfl, HB.out⟩


set_option maxRecDepth 100000 in
theorem lifted (os : Os) (started : os.Started) (H : Type) (enc : TypeId × Value → H) :
    ReturnsInHanded {} Tryd.checked os 4 .any (fun w args => (Rows.fnExactFormatAclSpec.pre enc Tryd.prog Tryd.f4 [] false w args ∧ laidMetH Tryd.prog Rows.fnExactFormatAclRow.laid w) ∧ sizedMet enc Tryd.prog Tryd.f4 (OpenSpec.ofChange Rows.fnExactFormatAclSpec) false w args)
      (Rows.fnExactFormatAclSpec.post enc Tryd.prog Tryd.f4 false true false false) := by
  refine returnsInHanded_of_change_and (C := Tryd.checked) (X := fun w _ => laidMetH Tryd.prog Rows.fnExactFormatAclRow.laid w) (fun _ _ _ hh h => h.of_heap hh) Kit.own started (by kernel_rfl) Tryd.func4
    (ChangeSpec.witness_shaped (enc := enc) (C := Tryd.checked) (os := os) (X := fun w _ => laidMetH Tryd.prog Rows.fnExactFormatAclRow.laid w) false (World.doorLaid Tryd.prog 400 os) #[.slice none 0 0] 8 rfl (World.shaped_of_RefB (by kernel_rfl) (by kernel_rfl)) (by kernel_rfl) (by kernel_rfl) (by kernel_rfl) (Laid.door3 os _)) ?_
  intro W base args ds gs before hval0 hW _ _ hL _
  have hval : ∀ (j : Nat) t v, Tryd.f4.params[j]? = some t → args[j]? = some v → Value.okWide Tryd.prog W .any base t v := hval0
  have hW' := hW
  obtain ⟨p, q, hA0, hV, rfl, hfz, hnd⟩ := hW
  have hA : DataW.TrodAll enc Tryd.prog W 0 (fun _ => true) true Tryd.f4.params.toList args.toList ds p := hA0
  rw [Tryd.params4] at hA hval
  obtain ⟨v0, d0, rfl, rfl, h0⟩ := trodAll_one hA
  obtain ⟨a0, w0⟩ := Ae.list_of (hval 0 35 v0 rfl rfl) h0
  refine (law_any _ a0 W w0).mono fun e W' ⟨he, hb⟩ => ?_
  subst he
  exact ⟨_, rfl, Kit.law_post Kit.laidOut (by kernel_rfl) Tryd.underlying4 rfl rfl (fun H ds hl => by match ds, hl with | [d0], _ => rfl) hW' hb⟩

theorem said : Rows.FnExactFormatAclSaid :=
  OpenClaim.holds_of_wide 4 Tryd.f4 rfl rfl rfl rfl rfl rfl rfl ⟨rfl, rfl, rfl, rfl, rfl⟩ rfl rfl rfl rfl rfl (by kernel_rfl) Tryd.func4 (by kernel_rfl)
    (of_decide_eq_true (by kernel_rfl)) (by unfold Func.isWrapper; first | (rw [if_pos (by decide +kernel)]; kernel_rfl) | (rw [if_neg (by decide +kernel)]; exact ⟨rfl, rfl⟩))
    (fun os started H enc _ => lifted os started H enc)

theorem plain (f : FuncId) (fn : Func) (hf : Tryd.pinned.checked.prog.funcNamed "loop.example/g00817/laws.FnExactFormatAcl" = some f) (hfn : Tryd.pinned.checked.prog.funcs[f]? = some fn) :
    Rows.fnExactFormatAclCard.stood.looks = Tryd.pinned.checked.prog.looks [] ∧ ∀ (j : Nat) t, fn.params[j]? = some t → Tryd.pinned.checked.prog.wantsStandIn t = false := by
  obtain rfl : f = 4 := Option.some.inj ((show Tryd.prog.funcNamed "loop.example/g00817/laws.FnExactFormatAcl" = some 4 by kernel_rfl).symm.trans hf) |>.symm
  obtain rfl : fn = Tryd.f4 := (Option.some.inj (Tryd.func4.symm.trans hfn)).symm
  refine ⟨by kernel_rfl, fun j t ht => ?_⟩
  rw [Tryd.params4] at ht
  have hm : t ∈ [35] := by simpa using Array.mem_of_getElem? ht
  have hall : ([35].all fun u => !Tryd.prog.wantsStandIn u) = true := by kernel_rfl
  exact (show Tryd.prog.wantsStandIn t = false by simpa using List.all_eq_true.1 hall t hm)

theorem holds : Rows.FnExactFormatAclCardSaid :=
  Claim7.holds_tied_plain_at .later [] _ _ _ _ said (fun _ h => by cases h) (by kernel_rfl) (fun _ h => by cases h) fnExactFormatAcl_row_tie rfl ⟨rfl, rfl⟩ (by kernel_rfl) rfl plain (by kernel_rfl)
#print axioms holds
end Go.Proofs.YtgilmmofbpembaaDoor.FormatAclLaw
