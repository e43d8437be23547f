/- Proved: for every string, the law FnExactParseAcl returns true: the program's ParseAcl answers as the model's, and its answer owns its memory. Condition: the library's table of powers of ten and its two sentinel errors read as their initialisers lay them (the card ties that to the program's text). -/
import Derived.Test.YtgilmmofbpembaaDoorAclZ
import Derived.Test.YtgilmmofbpembaaDoorAeIn
import Derived.Test.YtgilmmofbpembaaDoorLaid
import Derived.Test.YtgilmmofbpembaaDoorCards
import Derived.Test.YtgilmmofbpembaaDoorTie
import Derived.SevenTiedAt
namespace Go.Proofs.YtgilmmofbpembaaDoor.ParseAclLaw
open Go.ChangeShapes Go.WideShapes Go.ChangeAt Go.RowKit
open Go.ChangeMaps (open_string shut_string)
open AclV
open Dk (RowIn Turned)
set_option linter.unusedVariables false

set_option maxRecDepth 100000 in
set_option maxHeartbeats 3200000 in
theorem law_any (s : ByteArray) (w : World) (hs : s.size ≤ maxLen) (htv : AclY.Vars w) :
    Calls Tryd.prog 5 #[.string s] w fun e w' => e = .returned (.bool true) ∧ Below w.heap.size w w' := by
  by_cases hc : s.size ≤ 1048576
  · have hS : ∀ W : World, Calls Tryd.prog 18 #[.string s] W fun e w' => ∃ v, e = .returned (.tuple #[v, .bool (AclU.resR (parseV s)).2]) ∧ w'.ownsRow W.heap.size 30 3 v (AclU.resR (parseV s)).1.length (Ae.cells (AclU.resR (parseV s)).1) ∧ Below W.heap.size W w' := fun W => AclZ.full_any s W hc
    have hI : ∀ W : World, AclY.Vars W → Calls Tryd.prog 7 #[.string s] W fun e w' => ∃ v, e = .returned (.tuple #[v, .bool (AclU.resR (parseV s)).2]) ∧ w'.ownsRow W.heap.size 30 3 v (AclU.resR (parseV s)).1.length (Ae.cells (AclU.resR (parseV s)).1) ∧ Below W.heap.size W w' := fun W hv => AclX.impl_any s W hc hv
    have hR := AclW.parse_len s
    generalize AclU.resR (parseV s) = r at hS hI hR
    obtain ⟨R, b⟩ := r
    dsimp only at hS hI hR
    have HK := Lib.hid (show ((1 + 3 * R.length : Nat) : Int) = ((1 + 3 * R.length : Nat) : Int) from rfl)
    obtain ⟨K, hK⟩ : ∃ K : Nat, K = 1 + 3 * R.length := ⟨_, rfl⟩
    replace HK := Lib.hid (show ((K : Nat) : Int) = ((1 + 3 * R.length : Nat) : Int) by rw [hK])
    clear hK
    have HS := Lib.hid hS
    have HI := Lib.hid hI
    have HV := Lib.hid htv
    clear hS hI htv
    go_enter Tryd.func5, Tryd.ntmps5
    go_wp2_with fail
    refine (HS.out _).mono ?_
    rintro e w1 ⟨pv, rfl, hown, hb⟩
    have sw1 := hb.size
    have HB := Lib.hid hb
    clear hb
    have HW := Lib.hid (RowIn.fresh hown)
    clear hown
    go_wp2_with fail
    refine (HI.out _ (HV.out.below HB.out)).mono ?_
    rintro e w2 ⟨gv, rfl, hown, hb⟩
    have sw2 := hb.size
    replace HB := Lib.hid (HB.out.trans (hb.mono HB.out.size))
    replace HW := Lib.hid (RowIn.below HW.out hb)
    clear hb
    have HG := Lib.hid (RowIn.fresh hown)
    clear hown
    go_wp2_with fail
    refine (Ae.eq_any _ gv pv R (by omega) (Ae.holds_of_own HG.out.1) (Ae.holds_of_own HW.out.1)).mono ?_
    rintro e w3 ⟨rfl, hb⟩
    have sw3 := hb.size
    replace HB := Lib.hid (HB.out.trans (hb.mono HB.out.size))
    replace HW := Lib.hid (RowIn.below HW.out hb)
    replace HG := Lib.hid (RowIn.below HG.out hb)
    clear hb
    go_wp2_with fail
    refine (Ae.mark_in _ _ _ gv R 1 (by omega) (by omega) (by omega) HG.out).mono ?_
    rintro e w4 ⟨rfl, hown, ht⟩
    have s4 := ht.size
    replace HB := Lib.hid (HB.out.trans (ht.below (by omega) (by omega)))
    replace HW := Lib.hid (HW.out.turned ht (by omega))
    replace HG := Lib.hid hown
    clear hown ht
    rw [← HK.out]
    go_wp2_with fail
    refine (Ae.held_in _ gv R.length 1 (by omega) (by omega) (Ae.holds_of_own HG.out.1)).mono ?_
    rintro e w5 ⟨rfl, hb⟩
    have sw5 := hb.size
    replace HB := Lib.hid (HB.out.trans (hb.mono HB.out.size))
    replace HW := Lib.hid (RowIn.below HW.out hb)
    replace HG := Lib.hid (RowIn.below HG.out hb)
    clear hb
    rw [← HK.out]
    go_wp2_with fail
    refine (HI.out _ (HV.out.below HB.out)).mono ?_
    rintro e w6 ⟨hv, rfl, hown, hb⟩
    have sw6 := hb.size
    replace HB := Lib.hid (HB.out.trans (hb.mono HB.out.size))
    replace HW := Lib.hid (RowIn.below HW.out hb)
    replace HG := Lib.hid (RowIn.below HG.out hb)
    clear hb
    have HH := Lib.hid (RowIn.fresh hown)
    clear hown
    go_wp2_with fail
    refine (Ae.eq_any _ hv pv R (by omega) (Ae.holds_of_own HH.out.1) (Ae.holds_of_own HW.out.1)).mono ?_
    rintro e w7 ⟨rfl, hb⟩
    have sw7 := hb.size
    replace HB := Lib.hid (HB.out.trans (hb.mono HB.out.size))
    replace HW := Lib.hid (RowIn.below HW.out hb)
    replace HG := Lib.hid (RowIn.below HG.out hb)
    replace HH := Lib.hid (RowIn.below HH.out hb)
    clear hb
    go_wp2_with fail
    refine (Ae.held_in _ gv R.length 1 (by omega) (by omega) (Ae.holds_of_own HG.out.1)).mono ?_
    rintro e w8 ⟨rfl, hb⟩
    have sw8 := hb.size
    replace HB := Lib.hid (HB.out.trans (hb.mono HB.out.size))
    replace HW := Lib.hid (RowIn.below HW.out hb)
    replace HG := Lib.hid (RowIn.below HG.out hb)
    replace HH := Lib.hid (RowIn.below HH.out hb)
    clear hb
    rw [← HK.out]
    go_wp2
    go_ret
    exact ⟨rfl, HB.out⟩
  · go_enter Tryd.func5, Tryd.ntmps5
    go_wp2
    go_ret
    exact ⟨rfl, Below.refl _ _⟩


set_option maxRecDepth 100000 in
theorem lifted (os : Os) (started : os.Started) (H : Type) (enc : TypeId × Value → H) :
    ReturnsInHanded {} Tryd.checked os 5 .any (fun w args => (Rows.fnExactParseAclSpec.pre enc Tryd.prog Tryd.f5 [] false w args ∧ laidMetH Tryd.prog Rows.fnExactParseAclRow.laid w) ∧ sizedMet enc Tryd.prog Tryd.f5 (OpenSpec.ofChange Rows.fnExactParseAclSpec) false w args)
      (Rows.fnExactParseAclSpec.post enc Tryd.prog Tryd.f5 false true false false) := by
  refine returnsInHanded_of_change_and (C := Tryd.checked) (X := fun w _ => laidMetH Tryd.prog Rows.fnExactParseAclRow.laid w) (fun _ _ _ hh h => h.of_heap hh) Kit.own started (by kernel_rfl) Tryd.func5
    (ChangeSpec.witness_shaped (enc := enc) (C := Tryd.checked) (os := os) (X := fun w _ => laidMetH Tryd.prog Rows.fnExactParseAclRow.laid w) false (World.doorLaid Tryd.prog 400 os) #[.string ⟨#[]⟩] 8 rfl (World.shaped_of_RefB (by kernel_rfl) (by kernel_rfl)) (by kernel_rfl) (by kernel_rfl) (by kernel_rfl) (Laid.door5 os _)) ?_
  intro W base args ds gs before hval0 hW _ _ hL _
  have hval : ∀ (j : Nat) t v, Tryd.f5.params[j]? = some t → args[j]? = some v → Value.okWide Tryd.prog W .any base t v := hval0
  have hW' := hW
  obtain ⟨p, q, hA0, hV, rfl, hfz, hnd⟩ := hW
  have hA : DataW.TrodAll enc Tryd.prog W 0 (fun _ => true) true Tryd.f5.params.toList args.toList ds p := hA0
  rw [Tryd.params5] at hA hval
  obtain ⟨v0, d0, rfl, rfl, h0⟩ := trodAll_one hA
  obtain ⟨a0, rfl, rfl, rfl, w0⟩ := open_string Tryd.underlying9 (hval 0 9 v0 rfl rfl) h0
  refine (law_any a0 W w0 (AclZ.vars_of hL)).mono fun e W' ⟨he, hb⟩ => ?_
  subst he
  exact ⟨_, rfl, Kit.law_post Kit.laidOut (by kernel_rfl) Tryd.underlying4 rfl rfl (fun H ds hl => by match ds, hl with | [d0], _ => rfl) hW' hb⟩

theorem said : Rows.FnExactParseAclSaid :=
  OpenClaim.holds_of_wide 5 Tryd.f5 rfl rfl rfl rfl rfl rfl rfl ⟨rfl, rfl, rfl, rfl, rfl⟩ rfl rfl rfl rfl rfl (by kernel_rfl) Tryd.func5 (by kernel_rfl)
    (of_decide_eq_true (by kernel_rfl)) (by unfold Func.isWrapper; first | (rw [if_pos (by decide +kernel)]; kernel_rfl) | (rw [if_neg (by decide +kernel)]; exact ⟨rfl, rfl⟩))
    (fun os started H enc _ => lifted os started H enc)

theorem plain (f : FuncId) (fn : Func) (hf : Tryd.pinned.checked.prog.funcNamed "loop.example/g00817/laws.FnExactParseAcl" = some f) (hfn : Tryd.pinned.checked.prog.funcs[f]? = some fn) :
    Rows.fnExactParseAclCard.stood.looks = Tryd.pinned.checked.prog.looks [] ∧ ∀ (j : Nat) t, fn.params[j]? = some t → Tryd.pinned.checked.prog.wantsStandIn t = false := by
  obtain rfl : f = 5 := Option.some.inj ((show Tryd.prog.funcNamed "loop.example/g00817/laws.FnExactParseAcl" = some 5 by kernel_rfl).symm.trans hf) |>.symm
  obtain rfl : fn = Tryd.f5 := (Option.some.inj (Tryd.func5.symm.trans hfn)).symm
  refine ⟨by kernel_rfl, fun j t ht => ?_⟩
  rw [Tryd.params5] at ht
  have hm : t ∈ [9] := by simpa using Array.mem_of_getElem? ht
  have hall : ([9].all fun u => !Tryd.prog.wantsStandIn u) = true := by kernel_rfl
  exact (show Tryd.prog.wantsStandIn t = false by simpa using List.all_eq_true.1 hall t hm)

theorem holds : Rows.FnExactParseAclCardSaid :=
  Claim7.holds_tied_plain_at .later [] _ _ _ _ said (fun _ h => by cases h) (by kernel_rfl) (fun _ h => by cases h) fnExactParseAcl_row_tie rfl ⟨rfl, rfl⟩ (by kernel_rfl) rfl plain (by kernel_rfl)
#print axioms holds
end Go.Proofs.YtgilmmofbpembaaDoor.ParseAclLaw
