/- Proved: for every drawn code, the law FnModes returns true: a mode is recovered from its text, a text of nine letters is none, and the three permissions make up the mode's last nine bits. Condition: none beyond the row's own. -/
import Derived.Test.YtjdehgadfjopiaaMp
import Derived.Test.YtjdehgadfjopiaaMake
import Derived.Test.YtjdehgadfjopiaaCode
namespace Go.Proofs.Ytjdehgadfjopiaa.FnModes
open Go.ChangeShapes Go.WideShapes Go.ChangeAt Go.RowKit
open Cur ModeV
set_option linter.unusedVariables false

theorem nine (m : Int) (h : modeB m = true) : formatM m ≠ ⟨#[114, 119, 120, 114, 119, 120, 114, 119, 120]⟩ := fun e => by
  have := formatM_size h
  rw [e] at this
  exact absurd this (by decide)
set_option maxRecDepth 100000 in
set_option maxHeartbeats 1600000 in
theorem law_any (cv : Value) (ns : List Nat) (w : World) (hc : CodeIn w w.heap.size cv ns) :
    Calls Try.prog 4 #[cv] w fun e w' => e = .returned (.bool true) ∧ Below w.heap.size w w' := by
  have HMK := Lib.hid (Go.Proofs.Ytjdehgadfjopiaa.Make.num_any w cv ns 1 (by omega) hc)
  obtain ⟨a, cap, rfl⟩ : ∃ a cap, cv = .slice a ns.length cap := ⟨_, _, hc.choose_spec.choose_spec.1⟩
  have hlen := hc.choose_spec.choose_spec.2.1
  have hl2 : ¬ (1048576 : Int) < (ns.length : Int) := by omega
  clear hc
  go_enter Try.func4, Try.ntmps4
  go_wp2_with fail
  refine HMK.out.mono ?_
  rintro e w1 ⟨n, hn, rfl, hb⟩
  have HB := Lib.hid hb
  have hm0 : 0 ≤ (n : Int) % 2048 := by omega
  have hm1 : (n : Int) % 2048 ≤ 2047 := by omega
  clear hb HMK
  go_wp2_with fail
  generalize (n : Int) % 2048 = m at hm0 hm1 ⊢
  have hmm := (mode_iff m).2 ⟨hm0, hm1⟩
  have HF := Lib.hid (fun W => Md.format_impl m W)
  have HZ := Lib.hid (show (formatM m).size ≤ 1048576 by rw [formatM_size hmm]; omega)
  have HP := Lib.hid (parseM_of hmm)
  have HN := Lib.hid (parseM_none (t := ⟨#[114, 119, 120, 114, 119, 120, 114, 119, 120]⟩) nine)
  have HQ := Lib.hid (fun k W => Pm.perm_impl m k W)
  have HS := Lib.hid (permOf_parts hmm)
  have h00 := permOf_range m 0
  have h01 := permOf_range m 1
  have h02 := permOf_range m 2
  clear hmm
  refine (HF.out _).mono ?_
  rintro e w2 ⟨rfl, hb⟩
  replace HB := Lib.hid (HB.out.trans (hb.mono HB.out.size))
  clear hb
  have HX := Lib.hid (fun W => Mp.parse_impl (formatM m) W HZ.out)
  rw [HP.out] at HX
  clear HP HZ HF
  generalize formatM m = t at HX ⊢
  go_wp2_with fail
  refine (HX.out _).mono ?_
  rintro e w3 ⟨rfl, hb⟩
  dsimp only [Mp.res]
  replace HB := Lib.hid (HB.out.trans (hb.mono HB.out.size))
  clear hb
  have HY := Lib.hid (fun W => Mp.parse_impl ⟨#[114, 119, 120, 114, 119, 120, 114, 119, 120]⟩ W (by decide))
  rw [HN.out] at HY
  clear HN
  go_wp2_with fail
  refine (HY.out _).mono ?_
  rintro e w4 ⟨rfl, hb⟩
  dsimp only [Mp.res]
  replace HB := Lib.hid (HB.out.trans (hb.mono HB.out.size))
  have HQ0 := Lib.hid (fun W => HQ.out 0 W)
  have HQ1 := Lib.hid (fun W => HQ.out 1 W)
  have HQ2 := Lib.hid (fun W => HQ.out 2 W)
  clear hb HQ
  generalize permOfV m 0 = p0 at HQ0 HS h00
  generalize permOfV m 1 = p1 at HQ1 HS h01
  generalize permOfV m 2 = p2 at HQ2 HS h02
  go_wp2_with fail
  refine (HQ0.out _).mono ?_
  rintro e wq ⟨rfl, rfl⟩
  go_wp2_with fail
  refine (HQ1.out _).mono ?_
  rintro e wq ⟨rfl, rfl⟩
  go_wp2_with fail
  refine (HQ2.out _).mono ?_
  rintro e wq ⟨rfl, rfl⟩
  have hsum := HS.out
  go_wp2
  go_ret
  exact ⟨rfl, HB.out⟩


theorem law_big (a0 : Option Addr) (len0 cap0 : Nat) (w : World) (h : 1048576 < len0) :
    Calls Try.prog 4 #[.slice a0 len0 cap0] w fun e w' => e = .returned (.bool true) ∧ Below w.heap.size w w' := by
  have h2 : (1048576 : Int) < (len0 : Int) := by omega
  go_enter Try.func4, Try.ntmps4
  go_wp2_with fail
  go_ret
  exact ⟨rfl, Below.refl _ _⟩

set_option maxRecDepth 100000 in
theorem lifted (os : Os) (started : os.Started) (H : Type) (enc : TypeId × Value → H) :
    ReturnsInHanded {} Try.checked os 4 .any (Rows.fnModesSpec.pre6 enc Try.prog Try.f4 Rows.fnModesRow.domain false) (Rows.fnModesSpec.post enc Try.prog Try.f4 false true false false) := by
  refine returnsInHanded_of_change (C := Try.checked) Kit.own started (by kernel_rfl) Try.func4
    (ChangeSpec.witness6 (enc := enc) (C := Try.checked) false ⟨#[], #[.slice none 0 0], []⟩ 8 (by kernel_rfl) (by kernel_rfl) (by kernel_rfl) (by kernel_rfl)) ?_
  intro W base args ds gs before hval0 hW hcnd _
  have hval : ∀ (j : Nat) t v, Try.f4.params[j]? = some t → args[j]? = some v → Value.okWide Try.prog W .any base t v := hval0
  have hW' := hW
  obtain ⟨p, q, hA0, hV, rfl, hfz, hnd⟩ := hW
  have hA : DataW.TrodAll enc Try.prog W 0 (fun _ => true) true Try.f4.params.toList args.toList ds p := hA0
  rw [Try.params4] at hA hval
  obtain ⟨v0, d0, rfl, rfl, h0⟩ := trodAll_one hA
  obtain ⟨a0, len0, cap0, rfl⟩ := okWide_slice Try.underlying22 (hval 0 22 v0 rfl rfl)
  have hlaw : Calls Try.prog 4 #[.slice a0 len0 cap0] W fun e w' => e = .returned (.bool true) ∧ Below W.heap.size W w' := by
    by_cases hbig : 1048576 < len0
    · exact law_big _ _ _ W hbig
    · obtain ⟨ns, hns, hcode⟩ := Cur.open_code h0 (by omega)
      exact law_any _ ns W hcode
  refine hlaw.mono fun e W' ⟨he, hb⟩ => ?_
  subst he
  exact ⟨_, rfl, Kit.law_post Kit.laidOut (by kernel_rfl) Try.underlying4 rfl rfl (fun H ds hl => by match ds, hl with | [d0], _ => rfl) hW' hb⟩

theorem holds : Rows.FnModesSaid :=
  OpenClaim.holds_of_wide 4 Try.f4 rfl rfl rfl rfl rfl rfl rfl ⟨rfl, rfl, rfl, rfl, rfl⟩ rfl rfl rfl rfl rfl (by kernel_rfl) Try.func4 (by kernel_rfl)
    (of_decide_eq_true (by kernel_rfl)) (by unfold Func.isWrapper; first | (rw [if_pos (by decide +kernel)]; kernel_rfl) | (rw [if_neg (by decide +kernel)]; exact ⟨rfl, rfl⟩))
    (fun os started H enc _ => lifted os started H enc)
#print axioms holds
end Go.Proofs.Ytjdehgadfjopiaa.FnModes
