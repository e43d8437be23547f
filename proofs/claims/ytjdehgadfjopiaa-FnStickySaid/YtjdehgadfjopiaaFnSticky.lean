/- Proved: for every drawn code, the law FnSticky returns true: in a sticky directory the owners and the superuser alone may remove, elsewhere everybody. Condition: none beyond the row's own. -/
import Derived.Test.YtjdehgadfjopiaaCDraw
import Derived.Test.YtjdehgadfjopiaaMr
import Derived.Test.YtjdehgadfjopiaaCode
namespace Go.Proofs.Ytjdehgadfjopiaa.FnSticky
open Go.ChangeShapes Go.WideShapes Go.ChangeAt Go.RowKit
open Cur ModeV CredV
set_option linter.unusedVariables false

theorem may_all {c : Cr} {d x : Int} (h : credB c = true) : mayV c d 0 x = true := by
  rw [mayV, h]; rfl
theorem may_some {c : Cr} {d x : Int} (h : credB c = true) : mayV c d 512 x = (decide (c.1 = 0) || decide (c.1 = d) || decide (c.1 = x)) := by
  rw [mayV, h, show modeB 512 = true from rfl, show stickyB 512 = true from rfl]; rfl
set_option maxRecDepth 100000 in
set_option maxHeartbeats 1600000 in
theorem law_any (cv : Value) (ns : List Nat) (w : World) (hc : CodeIn w w.heap.size cv ns) :
    Calls Try.prog 5 #[cv] w fun e w' => e = .returned (.bool true) ∧ Below w.heap.size w w' := by
  have HCO := Lib.hid hc
  obtain ⟨a, cap, rfl⟩ : ∃ a cap, cv = .slice a ns.length cap := ⟨_, _, hc.choose_spec.choose_spec.1⟩
  have hlen := hc.choose_spec.choose_spec.2.1
  have hl2 : ¬ (1048576 : Int) < (ns.length : Int) := by omega
  clear hc
  go_enter Try.func5, Try.ntmps5
  have HB := Lib.hid (Below.refl w.heap.size w)
  go_wp2_with fail
  refine (CDraw.make_any _ _ ns 1 (by omega) (CDraw.code_at HCO.out HB.out)).mono ?_
  rintro e w1 ⟨u, gi, gv, gl, rfl, hu, hgi, hok, hown, hb⟩
  have s1 := hb.size
  have HG := Lib.hid (Ni.holds_of_own hown)
  obtain ⟨ga, gc, rfl⟩ := Dk.slice_of hown
  have HOK := Lib.hid hok
  have hgl := CredV.asc_len (show CredV.ascB gl gl.length = true by simp only [credB, Bool.and_eq_true] at hok; exact hok.1.1)
  clear hown hok
  replace HB := Lib.hid (HB.out.trans (hb.mono HB.out.size))
  clear hb
  have hb := Joins.below_alloc1 w1 (.cells #[.int .i64 (u : Int), .int .i64 (gi : Int), .slice ga gl.length gc] 25)
  replace HB := Lib.hid (HB.out.trans (hb.mono HB.out.size))
  replace HG := Lib.hid (Ni.holds_below HG.out hb)
  have BX := Lib.hid (Bx.new_at w1 #[.int .i64 (u : Int), .int .i64 (gi : Int), .slice ga gl.length gc] 25 (w1.heap.size) (by simp))
  clear hb
  obtain ⟨vBX0, vBX1, vBX2⟩ := Bx.Bk.three BX.out
  go_wp2_with fail
  refine (Go.Proofs.Ytjdehgadfjopiaa.Make.num_any _ _ ns 4 (by omega) (CDraw.code_at HCO.out HB.out)).mono ?_
  rintro e w2 ⟨n1, hn1, rfl, hb⟩
  have s2 := hb.size
  simp only [World.size_alloc] at s2
  clear vBX0 vBX1 vBX2
  replace HB := Lib.hid (HB.out.trans (hb.mono HB.out.size))
  replace BX := Lib.hid (Bx.Bk.all BX.out hb)
  replace HG := Lib.hid (Ni.holds_below HG.out hb)
  clear hb
  obtain ⟨vBX0, vBX1, vBX2⟩ := Bx.Bk.three BX.out
  go_wp2_with fail
  generalize (n1 : Int) % 4 = d
  refine (Go.Proofs.Ytjdehgadfjopiaa.Make.num_any _ _ ns 5 (by omega) (CDraw.code_at HCO.out HB.out)).mono ?_
  rintro e w3 ⟨n2, hn2, rfl, hb⟩
  have s3 := hb.size
  clear vBX0 vBX1 vBX2
  replace HB := Lib.hid (HB.out.trans (hb.mono HB.out.size))
  replace BX := Lib.hid (Bx.Bk.all BX.out hb)
  replace HG := Lib.hid (Ni.holds_below HG.out hb)
  clear hb
  obtain ⟨vBX0, vBX1, vBX2⟩ := Bx.Bk.three BX.out
  have HMA := Lib.hid (fun W h => Mr.may_impl W (u : Int) (gi : Int) (.slice ga gl.length gc) gl d 512 ((n2 : Int) % 4) (by omega) h)
  have HMB := Lib.hid (fun W h => Mr.may_impl W (u : Int) (gi : Int) (.slice ga gl.length gc) gl d 0 ((n2 : Int) % 4) (by omega) h)
  rw [may_all HOK.out] at HMB
  rw [may_some HOK.out] at HMA
  dsimp only at HMA
  obtain ⟨NG, hNG⟩ : ∃ NG, NG = gl.length := ⟨_, rfl⟩
  rw [← hNG] at HMA HMB HG BX ⊢
  clear hNG
  clear vBX0 vBX1 vBX2
  obtain ⟨vBX0, vBX1, vBX2⟩ := Bx.Bk.three BX.out
  generalize hr : (decide ((u : Int) = 0) || decide ((u : Int) = d) || decide ((u : Int) = (n2 : Int) % 4)) = r at HMA
  have HR := Lib.hid hr
  clear hr
  go_wp2_with fail
  generalize (n2 : Int) % 4 = o at HMA HMB HR ⊢
  refine (HMA.out _ HG.out).mono ?_
  rintro e w4 ⟨rfl, hb⟩
  have s4 := hb.size
  clear vBX0 vBX1 vBX2
  replace HB := Lib.hid (HB.out.trans (hb.mono HB.out.size))
  replace BX := Lib.hid (Bx.Bk.all BX.out hb)
  replace HG := Lib.hid (Ni.holds_below HG.out hb)
  clear hb
  obtain ⟨vBX0, vBX1, vBX2⟩ := Bx.Bk.three BX.out
  go_wp2_with fail
  refine (HMB.out _ HG.out).mono ?_
  rintro e w5 ⟨rfl, hb⟩
  have s5 := hb.size
  clear vBX0 vBX1 vBX2
  replace HB := Lib.hid (HB.out.trans (hb.mono HB.out.size))
  replace BX := Lib.hid (Bx.Bk.all BX.out hb)
  replace HG := Lib.hid (Ni.holds_below HG.out hb)
  clear hb
  obtain ⟨vBX0, vBX1, vBX2⟩ := Bx.Bk.three BX.out
  have hcase : (u : Int) = 0 ∨ (u : Int) = d ∨ (u : Int) = o ∨ (((u : Int) == 0) = false ∧ ((u : Int) == d) = false ∧ ((u : Int) == o) = false) := by
    by_cases h1 : (u : Int) = 0
    · exact .inl h1
    · by_cases h2 : (u : Int) = d
      · exact .inr (.inl h2)
      · by_cases h3 : (u : Int) = o
        · exact .inr (.inr (.inl h3))
        · exact .inr (.inr (.inr ⟨beq_eq_false_iff_ne.2 h1, beq_eq_false_iff_ne.2 h2, beq_eq_false_iff_ne.2 h3⟩))
  have hrt : r = true ∨ r = false := by cases r <;> simp
  have hrr := HR.out
  generalize (u : Int) = U at *
  rcases hcase with h1 | h1 | h1 | ⟨h1, h2, h3⟩
  · obtain rfl : r = true := by rw [← hrr, decide_eq_true h1]; rfl
    clear hrr HR hrt
    go_wp2
    all_goals
      go_ret
      exact ⟨rfl, HB.out⟩
  · obtain rfl : r = true := by rw [← hrr, decide_eq_true h1]; simp
    clear hrr HR hrt
    go_wp2
    all_goals
      go_ret
      exact ⟨rfl, HB.out⟩
  · obtain rfl : r = true := by rw [← hrr, decide_eq_true h1]; simp
    clear hrr HR hrt
    go_wp2
    all_goals
      go_ret
      exact ⟨rfl, HB.out⟩
  · obtain rfl : r = false := by rw [← hrr, decide_eq_false (beq_eq_false_iff_ne.1 h1), decide_eq_false (beq_eq_false_iff_ne.1 h2), decide_eq_false (beq_eq_false_iff_ne.1 h3)]; rfl
    clear hrr HR hrt
    go_wp2
    all_goals
      go_ret
      exact ⟨rfl, HB.out⟩


theorem law_big (a0 : Option Addr) (len0 cap0 : Nat) (w : World) (h : 1048576 < len0) :
    Calls Try.prog 5 #[.slice a0 len0 cap0] w fun e w' => e = .returned (.bool true) ∧ Below w.heap.size w w' := by
  have h2 : (1048576 : Int) < (len0 : Int) := by omega
  go_enter Try.func5, Try.ntmps5
  go_wp2_with fail
  go_ret
  exact ⟨rfl, Below.refl _ _⟩

set_option maxRecDepth 100000 in
theorem lifted (os : Os) (started : os.Started) (H : Type) (enc : TypeId × Value → H) :
    ReturnsInHanded {} Try.checked os 5 .any (Rows.fnStickySpec.pre6 enc Try.prog Try.f5 Rows.fnStickyRow.domain false) (Rows.fnStickySpec.post enc Try.prog Try.f5 false true false false) := by
  refine returnsInHanded_of_change (C := Try.checked) Kit.own started (by kernel_rfl) Try.func5
    (ChangeSpec.witness6 (enc := enc) (C := Try.checked) false ⟨#[], #[.slice none 0 0], []⟩ 8 (by kernel_rfl) (by kernel_rfl) (by kernel_rfl) (by kernel_rfl)) ?_
  intro W base args ds gs before hval0 hW hcnd _
  have hval : ∀ (j : Nat) t v, Try.f5.params[j]? = some t → args[j]? = some v → Value.okWide Try.prog W .any base t v := hval0
  have hW' := hW
  obtain ⟨p, q, hA0, hV, rfl, hfz, hnd⟩ := hW
  have hA : DataW.TrodAll enc Try.prog W 0 (fun _ => true) true Try.f5.params.toList args.toList ds p := hA0
  rw [Try.params5] at hA hval
  obtain ⟨v0, d0, rfl, rfl, h0⟩ := trodAll_one hA
  obtain ⟨a0, len0, cap0, rfl⟩ := okWide_slice Try.underlying22 (hval 0 22 v0 rfl rfl)
  have hlaw : Calls Try.prog 5 #[.slice a0 len0 cap0] W fun e w' => e = .returned (.bool true) ∧ Below W.heap.size W w' := by
    by_cases hbig : 1048576 < len0
    · exact law_big _ _ _ W hbig
    · obtain ⟨ns, hns, hcode⟩ := Cur.open_code h0 (by omega)
      exact law_any _ ns W hcode
  refine hlaw.mono fun e W' ⟨he, hb⟩ => ?_
  subst he
  exact ⟨_, rfl, Kit.law_post Kit.laidOut (by kernel_rfl) Try.underlying4 rfl rfl (fun H ds hl => by match ds, hl with | [d0], _ => rfl) hW' hb⟩

theorem holds : Rows.FnStickySaid :=
  OpenClaim.holds_of_wide 5 Try.f5 rfl rfl rfl rfl rfl rfl rfl ⟨rfl, rfl, rfl, rfl, rfl⟩ rfl rfl rfl rfl rfl (by kernel_rfl) Try.func5 (by kernel_rfl)
    (of_decide_eq_true (by kernel_rfl)) (by unfold Func.isWrapper; first | (rw [if_pos (by decide +kernel)]; kernel_rfl) | (rw [if_neg (by decide +kernel)]; exact ⟨rfl, rfl⟩))
    (fun os started H enc _ => lifted os started H enc)
#print axioms holds
end Go.Proofs.Ytjdehgadfjopiaa.FnSticky
