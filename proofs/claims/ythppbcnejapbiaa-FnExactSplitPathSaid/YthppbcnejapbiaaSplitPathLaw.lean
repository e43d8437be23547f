/- Proved: for every string the law FnExactSplitPath returns true: the program's SplitPath answers as the model's, in memory of its own. No condition beyond the row's own. -/
import Derived.Test.YthppbcnejapbiaaPaT
import Derived.Test.YthppbcnejapbiaaFlK
import Derived.Test.YthppbcnejapbiaaArgs
namespace Go.Proofs.Ythppbcnejapbiaa.SplitPathLaw
open Go.ChangeShapes Go.WideShapes Go.ChangeAt Go.RowKit
open Go.ChangeMaps (open_string shut_string)
open Foot
set_option linter.unusedVariables false

set_option maxRecDepth 100000 in
set_option maxHeartbeats 6400000 in
theorem law_any (p : ByteArray) (w : World) (hz0 : p.size ≤ maxLen)  :
    Calls Try.prog 3 #[.string p] w fun e w' => e = .returned (.bool true) ∧ Below w.heap.size w w' := by
  unfold maxLen at hz0
  by_cases hsz0 : p.size ≤ 1048576
  rotate_left
  · have q9 : decide (1048576 < (p.size : Int)) = true := decide_eq_true (by omega)
    go_enter Try.func3, Try.ntmps3
    have HB := Lib.hid (Below.refl w.heap.size w)
    go_wp2
    go_ret
    exact ⟨rfl, HB.out⟩
  have q9_0 : decide (1048576 < (p.size : Int)) = false := decide_eq_false (by omega)
  have hs : ∀ (W : World) , Calls Try.prog 5 #[.string p] W fun e w' => ∃ (y0 : Value) (S0 : List Nat), e = .returned (.tuple #[y0, (.bool (PaV.splitV p).2)]) ∧ TlF.Own w' W.heap.size y0 (PaV.splitV p).1 S0 ∧ Below W.heap.size W w' := fun W   => PaT.split_spec p W (by omega)
  have hi : ∀ (W : World) , Calls Try.prog 6 #[.string p] W fun e w' => ∃ (y0 : Value) (S0 : List Nat), e = .returned (.tuple #[y0, (.bool (PaV.splitV p).2)]) ∧ TlF.Own w' W.heap.size y0 (PaV.splitV p).1 S0 ∧ Below W.heap.size W w' := fun W   => PaS.split_impl p W (by omega)
  have HU0 : TlF.cost (PaV.splitV p).1 ≤ 1073741824 ∧ 1 + TlF.wid (PaV.splitV p).1 ≤ 1073741824 := (PaT.cost_split p)
  generalize (PaV.splitV p).1 = res0 at hs hi HU0
  obtain ⟨hu0, hw0⟩ := HU0
  have HS := Lib.hid hs
  have HI := Lib.hid hi
  clear hs hi
  obtain ⟨K, hK⟩ : ∃ K, K = 1 + TlF.wid res0 := ⟨_, rfl⟩
  have HK := Lib.hid hK
  clear hK
  go_enter Try.func3, Try.ntmps3
  have HB := Lib.hid (Below.refl w.heap.size w)
  go_wp2_with fail
  refine (HS.out _  ).mono ?_
  rintro e w1 ⟨w, SW, rfl, hown, hb⟩
  have s1 := hb.size
  have hlies := TlF.own_lies hown
  obtain ⟨wa, wc, rfl⟩ := TlF.own_form hown
  have RW := Lib.hid hown
  have LRW := Lib.hid hlies
  clear hown hlies
  replace HB := Lib.hid (HB.out.trans (hb.mono HB.out.size))
  clear hb
  go_wp2_with fail
  refine (HI.out _  ).mono ?_
  rintro e w2 ⟨g, SG, rfl, hown, hb⟩
  have s2 := hb.size
  have hlies := TlF.own_lies hown
  obtain ⟨ga, gc, rfl⟩ := TlF.own_form hown
  have RG := Lib.hid hown
  have LRG := Lib.hid hlies
  clear hown hlies
  replace HB := Lib.hid (HB.out.trans (hb.mono HB.out.size))
  replace RW := Lib.hid (TlF.own_below RW.out hb)
  clear hb
  go_wp2_with fail
  refine (TlF.eq_any _ (.slice ga res0.length gc) (.slice wa res0.length wc) res0 (by omega) (TlF.own_holds RG.out) (TlF.own_holds RW.out)).mono ?_
  rintro e w3 ⟨rfl, hb⟩
  have s3 := hb.size
  replace HB := Lib.hid (HB.out.trans (hb.mono HB.out.size))
  replace RW := Lib.hid (TlF.own_below RW.out hb)
  replace RG := Lib.hid (TlF.own_below RG.out hb)
  clear hb
  go_wp2_with fail
  refine (TlF.mark_any _ _ (.slice ga res0.length gc) res0 _ 1 (by omega) (by omega) RG.out).mono ?_
  rintro e w4 ⟨rfl, hown, hc⟩
  have s4 := hc.size
  replace HB := Lib.hid (FlK.below_chg HB.out hc (by (try simp only [World.size_alloc]); omega) LRG.out (by omega))
  replace RW := Lib.hid (TlF.own_chg RW.out hc (Foot.Lies.apart LRW.out LRG.out (by omega)))
  replace RG := Lib.hid hown
  clear hown hc
  rw [← HK.out]
  go_wp2_with fail
  refine (TlF.held_any _ (.slice ga res0.length gc) res0 1 (by omega) (by omega) (TlF.own_holds RG.out)).mono ?_
  rintro e w5 ⟨rfl, hb⟩
  have s5 := hb.size
  rw [← HK.out]
  replace HB := Lib.hid (HB.out.trans (hb.mono HB.out.size))
  replace RW := Lib.hid (TlF.own_below RW.out hb)
  replace RG := Lib.hid (TlF.own_below RG.out hb)
  clear hb
  go_wp2_with fail
  refine (HI.out _  ).mono ?_
  rintro e w6 ⟨h, SH, rfl, hown, hb⟩
  have s6 := hb.size
  have hlies := TlF.own_lies hown
  obtain ⟨ha, hc, rfl⟩ := TlF.own_form hown
  have RH := Lib.hid hown
  have LRH := Lib.hid hlies
  clear hown hlies
  replace HB := Lib.hid (HB.out.trans (hb.mono HB.out.size))
  replace RW := Lib.hid (TlF.own_below RW.out hb)
  replace RG := Lib.hid (TlF.own_below RG.out hb)
  clear hb
  go_wp2_with fail
  refine (TlF.eq_any _ (.slice ha res0.length hc) (.slice wa res0.length wc) res0 (by omega) (TlF.own_holds RH.out) (TlF.own_holds RW.out)).mono ?_
  rintro e w7 ⟨rfl, hb⟩
  have s7 := hb.size
  replace HB := Lib.hid (HB.out.trans (hb.mono HB.out.size))
  replace RW := Lib.hid (TlF.own_below RW.out hb)
  replace RG := Lib.hid (TlF.own_below RG.out hb)
  replace RH := Lib.hid (TlF.own_below RH.out hb)
  clear hb
  go_wp2_with fail
  refine (TlF.held_any _ (.slice ga res0.length gc) res0 1 (by omega) (by omega) (TlF.own_holds RG.out)).mono ?_
  rintro e w8 ⟨rfl, hb⟩
  have s8 := hb.size
  rw [← HK.out]
  replace HB := Lib.hid (HB.out.trans (hb.mono HB.out.size))
  replace RW := Lib.hid (TlF.own_below RW.out hb)
  replace RG := Lib.hid (TlF.own_below RG.out hb)
  replace RH := Lib.hid (TlF.own_below RH.out hb)
  clear hb
  go_wp2
  go_ret
  exact ⟨rfl, HB.out⟩
set_option maxRecDepth 100000 in
theorem lifted (os : Os) (started : os.Started) (H : Type) (enc : TypeId × Value → H) :
    ReturnsInHanded {} Try.checked os 3 .any (Rows.fnExactSplitPathSpec.pre6 enc Try.prog Try.f3 Rows.fnExactSplitPathRow.domain false) (Rows.fnExactSplitPathSpec.post enc Try.prog Try.f3 false true false false) := by
  refine returnsInHanded_of_change (C := Try.checked) Kit.own started (by kernel_rfl) Try.func3
    (ChangeSpec.witness6 (enc := enc) (C := Try.checked) false ⟨#[], #[.string ⟨#[]⟩], []⟩ 8 (by kernel_rfl) (by kernel_rfl) (by kernel_rfl) (by kernel_rfl)) ?_
  intro W base args ds gs before hval0 hW hcnd _
  have hval : ∀ (j : Nat) t v, Try.f3.params[j]? = some t → args[j]? = some v → Value.okWide Try.prog W .any base t v := hval0
  have hW' := hW
  obtain ⟨p, q, hA0, hV, rfl, hfz, hnd⟩ := hW
  have hA : DataW.TrodAll enc Try.prog W 0 (fun _ => true) true Try.f3.params.toList args.toList ds p := hA0
  rw [Try.params3] at hA hval
  obtain ⟨v0, d0, rfl, rfl, h0⟩ := trodAll_one hA
  obtain ⟨a0, rfl, rfl, rfl, w0⟩ := open_string Try.underlying9 (hval 0 9 v0 rfl rfl) h0
  refine (law_any a0 W w0).mono fun e W' ⟨he, hb⟩ => ?_
  subst he
  exact ⟨_, rfl, Kit.law_post Kit.laidOut (by kernel_rfl) Try.underlying4 rfl rfl (fun H ds hl => by match ds, hl with | [d0], _ => rfl) hW' hb⟩

theorem holds : Rows.FnExactSplitPathSaid :=
  OpenClaim.holds_of_wide 3 Try.f3 rfl rfl rfl rfl rfl rfl rfl ⟨rfl, rfl, rfl, rfl, rfl⟩ rfl rfl rfl rfl rfl (by kernel_rfl) Try.func3 (by kernel_rfl)
    (of_decide_eq_true (by kernel_rfl)) (by unfold Func.isWrapper; first | (rw [if_pos (by decide +kernel)]; kernel_rfl) | (rw [if_neg (by decide +kernel)]; exact ⟨rfl, rfl⟩))
    (fun os started H enc _ => lifted os started H enc)
#print axioms holds
end Go.Proofs.Ythppbcnejapbiaa.SplitPathLaw