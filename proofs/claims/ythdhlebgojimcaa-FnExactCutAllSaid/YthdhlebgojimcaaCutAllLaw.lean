/- Proved: for every string and every int, the law FnExactCutAll returns true: the program's CutAll answers as the model's, in memory of its own. No condition beyond the row's own. -/
import Derived.Test.YthdhlebgojimcaaCutAll
import Derived.Test.YthdhlebgojimcaaStrs
namespace Go.Proofs.Ythdhlebgojimcaa.CutAllLaw
open Go.ChangeShapes Go.WideShapes Go.ChangeAt Go.RowKit
open Go.ChangeMaps (open_string shut_string)
open Strs (Holds holds_of_own holds_below eq_any mark_all held_all marks marks_length own_below)
open SplitAny (own_apart own_of_heap below_drewN)
open CutAll (cutAll cutAll_len spec_any impl_any)
set_option linter.unusedVariables false

set_option maxHeartbeats 1000000 in
theorem law_any (s : ByteArray) (b : Int) (w : World) (_hs : s.size ≤ maxLen) (_hb : (Lit.int .i64 b).wf = true) :
    Calls Try.prog 8 #[.string s, .int .i64 b] w fun e w' => e = .returned (.bool true) ∧ Below w.heap.size w w' := by
  by_cases hbig : 1048576 < s.size
  · go_enter Try.func8, Try.ntmps8
    go_wp2
    go_ret
    exact ⟨rfl, Below.refl _ _⟩
  clear _hs _hb
  have hpl := cutAll_len s b
  have HPL := Lib.hid hpl
  clear hpl
  go_enter Try.func8, Try.ntmps8
  go_wp2_with fail
  refine (spec_any s b _ (by omega)).mono ?_
  rintro e w1 ⟨v0, rfl, hown0, hb1⟩
  have HO0 := Lib.hid hown0
  have HB1 := Lib.hid hb1
  clear hown0 hb1
  go_wp2_with fail
  refine (impl_any s b _ (by omega)).mono ?_
  rintro e w2 ⟨v1, rfl, hown1, hb2⟩
  have HO1 := Lib.hid hown1
  have HAP := Lib.hid (own_apart (w := w1) HO0.out hown1)
  have HO02 := Lib.hid (own_below HO0.out hb2)
  have HB2 := Lib.hid (HB1.out.trans (hb2.mono HB1.out.size))
  have HSZ := Lib.hid (Nat.le_trans HB1.out.size (Nat.le_refl _))
  clear hown1 hb2
  go_wp2_with fail
  refine (eq_any _ v1 v0 (cutAll s b) (by have := HPL.out; omega) (holds_of_own HO1.out) (holds_of_own HO02.out)).mono ?_
  rintro e w3 ⟨rfl, m3, hw3⟩
  have HO13 := Lib.hid (own_of_heap (w' := w3) HO1.out (by rw [hw3]; rfl))
  have HO03 := Lib.hid (own_of_heap (w' := w3) HO02.out (by rw [hw3]; rfl))
  have HB3 := Lib.hid (show Below w.heap.size w w3 by rw [hw3]; exact below_drewN HB2.out _)
  clear hw3
  go_wp2_with fail
  refine (mark_all _ _ v1 _ 1 (cutAll s b) (Nat.le_refl _) (by have := HPL.out; omega) HO13.out).mono ?_
  rintro e w4 ⟨rfl, hown14, hg4⟩
  have HO14 := Lib.hid hown14
  have HO04 := Lib.hid (World.ownsRow.kept HO03.out hg4 HAP.out)
  have HB4 := Lib.hid (HB3.out.grown hg4 HB3.out.size (fun k hk => Nat.le_trans HSZ.out (HO1.out.lt k hk).1))
  clear hown14 hg4
  go_wp2_with fail
  refine (held_all _ v1 (cutAll s b).length 1 (Nat.le_refl _) (by have := HPL.out; omega) (holds_of_own HO14.out)).mono ?_
  rintro e w5 ⟨rfl, hb5⟩
  have HO15 := Lib.hid (own_below HO14.out hb5)
  have HO05 := Lib.hid (own_below HO04.out hb5)
  have HB5 := Lib.hid (HB4.out.trans (hb5.mono HB4.out.size))
  clear hb5
  go_wp2_with fail
  refine (impl_any s b _ (by omega)).mono ?_
  rintro e w6 ⟨v2, rfl, hown2, hb6⟩
  have HO26 := Lib.hid hown2
  have HO16 := Lib.hid (own_below HO15.out hb6)
  have HO06 := Lib.hid (own_below HO05.out hb6)
  have HB6 := Lib.hid (HB5.out.trans (hb6.mono HB5.out.size))
  clear hown2 hb6
  go_wp2_with fail
  refine (eq_any _ v2 v0 (cutAll s b) (by have := HPL.out; omega) (holds_of_own HO26.out) (holds_of_own HO06.out)).mono ?_
  rintro e w7 ⟨rfl, m7, hw7⟩
  have HO17 := Lib.hid (own_of_heap (w' := w7) HO16.out (by rw [hw7]; rfl))
  have HB7 := Lib.hid (show Below w.heap.size w w7 by rw [hw7]; exact below_drewN HB6.out _)
  clear hw7
  go_wp2_with fail
  refine (held_all _ v1 (cutAll s b).length 1 (Nat.le_refl _) (by have := HPL.out; omega) (holds_of_own HO17.out)).mono ?_
  rintro e w8 ⟨rfl, hb8⟩
  have HB8 := Lib.hid (HB7.out.trans (hb8.mono HB7.out.size))
  clear hb8
  go_wp2
  go_ret
  exact ⟨rfl, HB8.out⟩

set_option maxRecDepth 100000 in
theorem lifted (os : Os) (started : os.Started) (H : Type) (enc : TypeId × Value → H) :
    ReturnsInHanded {} Try.checked os 8 .any (Rows.fnExactCutAllSpec.pre6 enc Try.prog Try.f8 Rows.fnExactCutAllRow.domain false) (Rows.fnExactCutAllSpec.post enc Try.prog Try.f8 false true false false) := by
  refine returnsInHanded_of_change (C := Try.checked) Kit.own started (by kernel_rfl) Try.func8
    (ChangeSpec.witness6 (enc := enc) (C := Try.checked) false ⟨#[], #[.string ⟨#[]⟩, .int .i64 0], []⟩ 8 (by kernel_rfl) (by kernel_rfl) (by kernel_rfl) (by kernel_rfl)) ?_
  intro W base args ds gs before hval0 hW hcnd _
  have hval : ∀ (j : Nat) t v, Try.f8.params[j]? = some t → args[j]? = some v → Value.okWide Try.prog W .any base t v := hval0
  have hW' := hW
  obtain ⟨p, q, hA0, hV, rfl, hfz, hnd⟩ := hW
  have hA : DataW.TrodAll enc Try.prog W 0 (fun _ => true) true Try.f8.params.toList args.toList ds p := hA0
  rw [Try.params8] at hA hval
  obtain ⟨v0, v1, d0, d1, p0, p1, rfl, rfl, rfl, h0, h1⟩ := trodAll_two hA
  obtain ⟨a0, rfl, rfl, rfl, w0⟩ := open_string Try.underlying9 (hval 0 9 v0 rfl rfl) h0
  obtain ⟨a1, rfl, rfl, rfl, w1⟩ := open_int Try.underlying3 (hval 1 3 v1 rfl rfl) h1
  refine (law_any a0 a1 W w0 w1).mono fun e W' ⟨he, hb⟩ => ?_
  subst he
  exact ⟨_, rfl, Kit.law_post Kit.laidOut (by kernel_rfl) Try.underlying4 rfl rfl (fun H ds hl => by match ds, hl with | [d0, d1], _ => rfl) hW' hb⟩

theorem holds : Rows.FnExactCutAllSaid :=
  OpenClaim.holds_of_wide 8 Try.f8 rfl rfl rfl rfl rfl rfl rfl ⟨rfl, rfl, rfl, rfl, rfl⟩ rfl rfl rfl rfl rfl (by kernel_rfl) Try.func8 (by kernel_rfl)
    (of_decide_eq_true (by kernel_rfl)) (by unfold Func.isWrapper; first | (rw [if_pos (by decide +kernel)]; kernel_rfl) | (rw [if_neg (by decide +kernel)]; exact ⟨rfl, rfl⟩))
    (fun os started H enc _ => lifted os started H enc)
#print axioms holds
end Go.Proofs.Ythdhlebgojimcaa.CutAllLaw
