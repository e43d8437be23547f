/- Proved: for every credentials and every three ints, the law FnExactMayRemove returns true and leaves its arguments as they were: the program's MayRemove answers as the model's. Condition: none beyond the row's own. -/
import Derived.Test.YtjdehgadfjopiaaArgs
import Derived.Test.YtjdehgadfjopiaaMr
import Derived.Test.YtjdehgadfjopiaaCr
namespace Go.Proofs.Ytjdehgadfjopiaa.MayRemoveLaw
open Go.ChangeShapes Go.WideShapes Go.ChangeAt Go.RowKit
open Go.ChangeMaps (open_string shut_string)
set_option linter.unusedVariables false

set_option maxRecDepth 100000 in
set_option maxHeartbeats 3200000 in
theorem law_any (u0 g0 : Int) (v0 : Value) (l0 : List Int) (d : Int) (m : Int) (x : Int) (w : World) (h0 : Cr.In w v0 l0) (_ : (Lit.int .i64 d).wf = true) (_ : (Lit.int .i64 m).wf = true) (_ : (Lit.int .i64 x).wf = true) :
    Calls Try.prog 12 #[.agg #[.int .i64 u0, .int .i64 g0, v0], .int .i64 d, .int .i64 m, .int .i64 x] w fun e w' => e = .returned (.bool true) ∧ Below w.heap.size w w' := by
  have HN0 := Lib.hid h0
  clear h0
  by_cases hc0 : l0.length ≤ 1048576
  · obtain ⟨r0, hr0⟩ : ∃ r0 : Nat, r0 = 1048576 - l0.length := ⟨_, rfl⟩
    have HC0 := Lib.hid (show Cr.costOf l0.length 1048576 = (r0 : Int) by rw [hr0]; exact if_pos hc0)
    have hle0 : r0 ≤ 1048576 := by omega
    have hlen0 : l0.length ≤ 1048576 := by omega
    clear hr0 hc0
    have hs : ∀ (W : World) (q0 : Value), Ni.HoldsN W q0 l0 → Calls Try.prog 37 #[.agg #[.int .i64 u0, .int .i64 g0, q0], .int .i64 d, .int .i64 m, .int .i64 x] W fun e w' => e = .returned (.bool (CredV.mayV (u0, g0, l0) d m x)) ∧ Below W.heap.size W w' := fun W q0 p0 => Mr.may_spec W u0 g0 q0 l0 d m x (by omega) p0
    have hi : ∀ (W : World) (q0 : Value), Ni.HoldsN W q0 l0 → Calls Try.prog 24 #[.agg #[.int .i64 u0, .int .i64 g0, q0], .int .i64 d, .int .i64 m, .int .i64 x] W fun e w' => e = .returned (.bool (CredV.mayV (u0, g0, l0) d m x)) ∧ Below W.heap.size W w' := fun W q0 p0 => Mr.may_impl W u0 g0 q0 l0 d m x (by omega) p0
    generalize CredV.mayV (u0, g0, l0) d m x = res at hs hi
    have HS := Lib.hid hs
    have HI := Lib.hid hi
    clear hs hi
    go_enter Try.func12, Try.ntmps12
    have HB := Lib.hid (Below.refl w.heap.size w)
    have hb := Joins.below_alloc1 w (.cells #[.int .i64 u0, .int .i64 g0, v0] 41)
    replace HB := Lib.hid (HB.out.trans (hb.mono HB.out.size))
    have BA0 := Lib.hid (Bx.new_at w #[.int .i64 u0, .int .i64 g0, v0] 41 (w.heap.size) (by simp))
    clear hb
    obtain ⟨vBA00, vBA01, vBA02⟩ := Bx.Bk.three BA0.out
    go_wp2_with fail
    refine (Cr.sz_any _ u0 g0 v0 l0 1048576 (by omega) HN0.out.len (Ni.holds_below HN0.out.holds HB.out)).mono ?_
    rintro e w1 ⟨rfl, hb⟩
    have s1 := hb.size
    simp only [World.size_alloc] at s1
    clear vBA00 vBA01 vBA02
    rw [HC0.out]
    replace HB := Lib.hid (HB.out.trans (hb.mono HB.out.size))
    replace BA0 := Lib.hid (Bx.Bk.all BA0.out hb)
    clear hb
    obtain ⟨vBA00, vBA01, vBA02⟩ := Bx.Bk.three BA0.out
    go_wp2_with fail
    refine (Cr.to_any _ u0 g0 v0 l0 (by omega) (Ni.holds_below HN0.out.holds HB.out)).mono ?_
    rintro e w2 ⟨k0, rfl, hown, hb⟩
    have s2 := hb.size
    clear vBA00 vBA01 vBA02
    have Hk0 := Lib.hid (Ni.holds_of_own hown)
    obtain ⟨k0a, k0c, rfl⟩ := Dk.slice_of hown
    clear hown
    replace HB := Lib.hid (HB.out.trans (hb.mono HB.out.size))
    replace BA0 := Lib.hid (Bx.Bk.all BA0.out hb)
    clear hb
    obtain ⟨vBA00, vBA01, vBA02⟩ := Bx.Bk.three BA0.out
    go_wp2_with fail
    refine (HS.out _ (.slice k0a l0.length k0c) Hk0.out).mono ?_
    rintro e w3 ⟨rfl, hb⟩
    have s3 := hb.size
    clear vBA00 vBA01 vBA02
    replace HB := Lib.hid (HB.out.trans (hb.mono HB.out.size))
    replace BA0 := Lib.hid (Bx.Bk.all BA0.out hb)
    replace Hk0 := Lib.hid (Ni.holds_below Hk0.out hb)
    clear hb
    obtain ⟨vBA00, vBA01, vBA02⟩ := Bx.Bk.three BA0.out
    clear Hk0
    go_wp2_with fail
    refine (Cr.to_any _ u0 g0 v0 l0 (by omega) (Ni.holds_below HN0.out.holds HB.out)).mono ?_
    rintro e w4 ⟨x0, rfl, hown, hb⟩
    have s4 := hb.size
    clear vBA00 vBA01 vBA02
    have Hx0 := Lib.hid (Ni.holds_of_own hown)
    obtain ⟨x0a, x0c, rfl⟩ := Dk.slice_of hown
    clear hown
    replace HB := Lib.hid (HB.out.trans (hb.mono HB.out.size))
    replace BA0 := Lib.hid (Bx.Bk.all BA0.out hb)
    clear hb
    obtain ⟨vBA00, vBA01, vBA02⟩ := Bx.Bk.three BA0.out
    clear vBA00 vBA01 vBA02
    have hb := Joins.below_alloc1 w4 (.cells #[.int .i64 u0, .int .i64 g0, .slice x0a l0.length x0c] 25)
    replace HB := Lib.hid (HB.out.trans (hb.mono HB.out.size))
    replace BA0 := Lib.hid (Bx.Bk.all BA0.out hb)
    replace Hx0 := Lib.hid (Ni.holds_below Hx0.out hb)
    have BX0 := Lib.hid (Bx.new_at w4 #[.int .i64 u0, .int .i64 g0, .slice x0a l0.length x0c] 25 (w4.heap.size) (by simp))
    clear hb
    obtain ⟨vBA00, vBA01, vBA02⟩ := Bx.Bk.three BA0.out
    obtain ⟨vBX00, vBX01, vBX02⟩ := Bx.Bk.three BX0.out
    go_wp2_with fail
    refine (HI.out _ (.slice x0a l0.length x0c) Hx0.out).mono ?_
    rintro e w5 ⟨rfl, hb⟩
    have s5 := hb.size
    simp only [World.size_alloc] at s5
    clear vBA00 vBA01 vBA02 vBX00 vBX01 vBX02
    replace HB := Lib.hid (HB.out.trans (hb.mono HB.out.size))
    replace BA0 := Lib.hid (Bx.Bk.all BA0.out hb)
    replace BX0 := Lib.hid (Bx.Bk.all BX0.out hb)
    replace Hx0 := Lib.hid (Ni.holds_below Hx0.out hb)
    clear hb
    obtain ⟨vBA00, vBA01, vBA02⟩ := Bx.Bk.three BA0.out
    obtain ⟨vBX00, vBX01, vBX02⟩ := Bx.Bk.three BX0.out
    go_wp2
    go_region_held3 (fun w' => w'.cell? ⟨w4.heap.size, 0, none⟩ = some (.int .i64 u0) ∧ w'.cell? ⟨w4.heap.size, 1, none⟩ = some (.int .i64 g0) ∧ w'.cell? ⟨w4.heap.size, 2, none⟩ = some (.slice x0a l0.length x0c) ∧ w'.cell? ⟨w.heap.size, 0, none⟩ = some (.int .i64 u0) ∧ w'.cell? ⟨w.heap.size, 1, none⟩ = some (.int .i64 g0) ∧ w'.cell? ⟨w.heap.size, 2, none⟩ = some (v0)) (go_keep)
      (first
        | (go_at_call 27; replace HB := Lib.hid HB.out.drew; replace BA0 := Lib.hid (Bx.Bk.drew BA0.out); replace BX0 := Lib.hid (Bx.Bk.drew BX0.out); replace Hx0 := Lib.hid (Ni.holds_below Hx0.out (Below.refl _ _).drew); refine (Cr.to_any _ u0 g0 v0 l0 (by omega) (Ni.holds_below HN0.out.holds HB.out)).mono ?_; rintro e w6 ⟨z0, rfl, hown, hb⟩; have s6 := hb.size; try simp only [World.size_alloc, World.size_drew] at s6; have Hz0 := Lib.hid (Ni.holds_of_own hown); clear hown; replace HB := Lib.hid (HB.out.trans (hb.mono HB.out.size)); replace BA0 := Lib.hid (Bx.Bk.all BA0.out hb); replace BX0 := Lib.hid (Bx.Bk.all BX0.out hb); replace Hx0 := Lib.hid (Ni.holds_below Hx0.out hb); clear hb; obtain ⟨vBA0w60, vBA0w61, vBA0w62⟩ := Bx.Bk.three BA0.out; obtain ⟨vBX0w60, vBX0w61, vBX0w62⟩ := Bx.Bk.three BX0.out)
        | (go_at_call 28; refine (Cr.eq_any _ u0 g0 (.slice x0a l0.length x0c) z0 l0 (by omega) Hx0.out Hz0.out).mono ?_; rintro e w7 ⟨rfl, hb⟩; have s7 := hb.size; replace HB := Lib.hid (HB.out.trans (hb.mono HB.out.size)); replace BA0 := Lib.hid (Bx.Bk.all BA0.out hb); replace BX0 := Lib.hid (Bx.Bk.all BX0.out hb); replace Hx0 := Lib.hid (Ni.holds_below Hx0.out hb); replace Hz0 := Lib.hid (Ni.holds_below Hz0.out hb); clear hb; obtain ⟨vBA0w70, vBA0w71, vBA0w72⟩ := Bx.Bk.three BA0.out; obtain ⟨vBX0w70, vBX0w71, vBX0w72⟩ := Bx.Bk.three BX0.out))
    clear vBA00 vBA01 vBA02 vBX00 vBX01 vBX02
    obtain ⟨vBA00, vBA01, vBA02⟩ := Bx.Bk.three BA0.out
    obtain ⟨vBX00, vBX01, vBX02⟩ := Bx.Bk.three BX0.out
    go_wp2
    go_ret
    exact ⟨rfl, HB.out⟩
  · have HC0 := Lib.hid (show Cr.costOf l0.length 1048576 = -1 from if_neg hc0)
    go_enter Try.func12, Try.ntmps12
    have HB := Lib.hid (Below.refl w.heap.size w)
    have hb := Joins.below_alloc1 w (.cells #[.int .i64 u0, .int .i64 g0, v0] 41)
    replace HB := Lib.hid (HB.out.trans (hb.mono HB.out.size))
    have BA0 := Lib.hid (Bx.new_at w #[.int .i64 u0, .int .i64 g0, v0] 41 (w.heap.size) (by simp))
    clear hb
    obtain ⟨vBA00, vBA01, vBA02⟩ := Bx.Bk.three BA0.out
    go_wp2_with fail
    refine (Cr.sz_any _ u0 g0 v0 l0 1048576 (by omega) HN0.out.len (Ni.holds_below HN0.out.holds HB.out)).mono ?_
    rintro e w1 ⟨rfl, hb⟩
    have s1 := hb.size
    simp only [World.size_alloc] at s1
    clear vBA00 vBA01 vBA02
    rw [HC0.out]
    replace HB := Lib.hid (HB.out.trans (hb.mono HB.out.size))
    replace BA0 := Lib.hid (Bx.Bk.all BA0.out hb)
    clear hb
    obtain ⟨vBA00, vBA01, vBA02⟩ := Bx.Bk.three BA0.out
    go_wp2
    go_ret
    exact ⟨rfl, HB.out⟩

set_option maxRecDepth 100000 in
theorem lifted (os : Os) (started : os.Started) (H : Type) (enc : TypeId × Value → H) :
    ReturnsInHanded {} Try.checked os 12 .any (Rows.fnExactMayRemoveSpec.pre6 enc Try.prog Try.f12 Rows.fnExactMayRemoveRow.domain false) (Rows.fnExactMayRemoveSpec.post enc Try.prog Try.f12 false true false false) := by
  refine returnsInHanded_of_change (C := Try.checked) Kit.own started (by kernel_rfl) Try.func12
    (ChangeSpec.witness6 (enc := enc) (C := Try.checked) false ⟨#[], #[.agg #[.int .i64 0, .int .i64 0, .slice none 0 0], .int .i64 0, .int .i64 0, .int .i64 0], []⟩ 8 (by kernel_rfl) (by kernel_rfl) (by kernel_rfl) (by kernel_rfl)) ?_
  intro W base args ds gs before hval0 hW hcnd _
  have hval : ∀ (j : Nat) t v, Try.f12.params[j]? = some t → args[j]? = some v → Value.okWide Try.prog W .any base t v := hval0
  have hW' := hW
  obtain ⟨p, q, hA0, hV, rfl, hfz, hnd⟩ := hW
  have hA : DataW.TrodAll enc Try.prog W 0 (fun _ => true) true Try.f12.params.toList args.toList ds p := hA0
  rw [Try.params12] at hA hval
  obtain ⟨v0, v1, v2, v3, d0, d1, d2, d3, rfl, rfl, ⟨_, h0⟩, ⟨_, h1⟩, ⟨_, h2⟩, ⟨_, h3⟩⟩ := Args.opened4 hA
  obtain ⟨a1, rfl, rfl, rfl, w1⟩ := open_int Try.underlying3 (hval 1 3 v1 rfl rfl) h1
  obtain ⟨a2, rfl, rfl, rfl, w2⟩ := open_int Try.underlying3 (hval 2 3 v2 rfl rfl) h2
  obtain ⟨a3, rfl, rfl, rfl, w3⟩ := open_int Try.underlying3 (hval 3 3 v3 rfl rfl) h3
  obtain ⟨u0, g0, s0, a0, rfl, w0⟩ := Cr.cred_of (hval 0 41 v0 rfl rfl) h0
  refine (law_any u0 g0 s0 a0 a1 a2 a3 W w0 w1 w2 w3).mono fun e W' ⟨he, hb⟩ => ?_
  subst he
  exact ⟨_, rfl, Kit.law_post Kit.laidOut (by kernel_rfl) Try.underlying4 rfl rfl (fun H ds hl => by match ds, hl with | [d0, d1, d2, d3], _ => rfl) hW' hb⟩

theorem holds : Rows.FnExactMayRemoveSaid :=
  OpenClaim.holds_of_wide 12 Try.f12 rfl rfl rfl rfl rfl rfl rfl ⟨rfl, rfl, rfl, rfl, rfl⟩ rfl rfl rfl rfl rfl (by kernel_rfl) Try.func12 (by kernel_rfl)
    (of_decide_eq_true (by kernel_rfl)) (by unfold Func.isWrapper; first | (rw [if_pos (by decide +kernel)]; kernel_rfl) | (rw [if_neg (by decide +kernel)]; exact ⟨rfl, rfl⟩))
    (fun os started H enc _ => lifted os started H enc)
#print axioms holds
end Go.Proofs.Ytjdehgadfjopiaa.MayRemoveLaw
