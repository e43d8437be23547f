/- Proved: for every list of strings the law FnExactJoinPath returns true and leaves its argument as it was: the program's JoinPath answers as the model's. No condition beyond the row's own. -/
import Derived.Test.YthppbcnejapbiaaPaJ
namespace Go.Proofs.Ythppbcnejapbiaa.JoinPathLaw
open Go.ChangeShapes Go.WideShapes Go.ChangeAt Go.RowKit
open Go.ChangeMaps (open_string shut_string)
open Strs (Holds holds_of_own holds_below eq_any own_below total total_take_succ total_take_le budgetOf sz_any to_any)
set_option linter.unusedVariables false

set_option maxRecDepth 100000 in
set_option maxHeartbeats 1000000 in
theorem law_any (w : World) (v : Value) (xs : List ByteArray) (hlen : xs.length ≤ maxLen) (hsz : ∀ x ∈ xs, x.size ≤ maxLen) (h : Holds w v xs) :
    Calls Try.prog 4 #[v] w fun e w' => e = .returned (.bool true) ∧ Below w.heap.size w w' := by
  have HH := Lib.hid h
  have HS := Lib.hid hsz
  have HLE := Lib.hid hlen
  clear h hsz hlen
  by_cases hn : xs.length + total xs ≤ 1048576
  · have hl : budgetOf xs 1048576 = ((1048576 - xs.length - total xs : Nat) : Int) := by rw [budgetOf, if_pos hn]
    generalize 1048576 - xs.length - total xs = r at hl
    have HLO := Lib.hid hl
    clear hl
    go_enter Try.func4, Try.ntmps4
    go_wp2_with fail
    refine (sz_any _ v xs 1048576 (by omega) HLE.out HS.out HH.out).mono ?_
    rintro e w1 ⟨rfl, rfl⟩
    rw [HLO.out]
    go_wp2_with fail
    refine (to_any _ v xs (by omega) HH.out).mono ?_
    rintro e w2 ⟨v2, rfl, hown2, hb2⟩
    have HO2 := Lib.hid hown2
    have HB2 := Lib.hid hb2
    clear hown2 hb2
    go_wp2_with fail
    refine (PaJ.join_spec _ v2 xs hn (holds_of_own HO2.out)).mono ?_
    rintro e w3 ⟨rfl, rfl⟩
    go_wp2_with fail
    refine (to_any _ v xs (by omega) (holds_below (B := 0) HH.out HB2.out)).mono ?_
    rintro e w4 ⟨v4, rfl, hown4, hb4⟩
    have HO4 := Lib.hid hown4
    have HB4 := Lib.hid (HB2.out.trans (hb4.mono HB2.out.size))
    clear hown4 hb4
    go_wp2_with fail
    refine (PaJ.join_impl _ v4 xs hn (holds_of_own HO4.out) (Join.cap_of_own HO4.out)).mono ?_
    rintro e w5 ⟨rfl, hb5⟩
    have HO5 := Lib.hid (own_below HO4.out hb5)
    have HB5 := Lib.hid (HB4.out.trans (hb5.mono HB4.out.size))
    clear hb5
    go_wp2_with fail
    refine (to_any _ v xs (by omega) (holds_below (B := 0) HH.out HB5.out)).mono ?_
    rintro e w6 ⟨v6, rfl, hown6, hb6⟩
    have HO6 := Lib.hid hown6
    have HO46 := Lib.hid (own_below HO5.out hb6)
    have HB6 := Lib.hid (HB5.out.trans (hb6.mono HB5.out.size))
    clear hown6 hb6
    go_wp2_with fail
    refine (eq_any _ v4 v6 xs (by omega) (holds_of_own HO46.out) (holds_of_own HO6.out)).mono ?_
    rintro e w7 ⟨rfl, m7, hw7⟩
    have HB7 := Lib.hid (show Below w.heap.size w w7 by rw [hw7]; exact Join.below_drewN HB6.out _)
    clear hw7
    go_wp2
    go_ret
    exact ⟨rfl, HB7.out⟩
  · have HLO := Lib.hid (show budgetOf xs 1048576 = -1 by rw [budgetOf, if_neg hn])
    go_enter Try.func4, Try.ntmps4
    go_wp2_with fail
    refine (sz_any _ v xs 1048576 (by omega) HLE.out HS.out HH.out).mono ?_
    rintro e w1 ⟨rfl, rfl⟩
    rw [HLO.out]
    go_wp2
    go_ret
    exact ⟨rfl, Below.refl _ _⟩

set_option maxRecDepth 100000 in
theorem lifted (os : Os) (started : os.Started) (H : Type) (enc : TypeId × Value → H) :
    ReturnsInHanded {} Try.checked os 4 .any (Rows.fnExactJoinPathSpec.pre6 enc Try.prog Try.f4 Rows.fnExactJoinPathRow.domain false) (Rows.fnExactJoinPathSpec.post enc Try.prog Try.f4 false true false false) := by
  refine returnsInHanded_of_change (C := Try.checked) Kit.own started (by kernel_rfl) Try.func4
    (ChangeSpec.witness6 (enc := enc) (C := Try.checked) false ⟨#[], #[.slice none 0 0], []⟩ 8 (by kernel_rfl) (by kernel_rfl) (by kernel_rfl) (by kernel_rfl)) ?_
  intro W base args ds gs before hval0 hW hcnd _
  have hval : ∀ (j : Nat) t v, Try.f4.params[j]? = some t → args[j]? = some v → Value.okWide Try.prog W .any base t v := hval0
  have hW' := hW
  obtain ⟨p, q, hA0, hV, rfl, hfz, hnd⟩ := hW
  have hA : DataW.TrodAll enc Try.prog W 0 (fun _ => true) true Try.f4.params.toList args.toList ds p := hA0
  rw [Try.params4] at hA hval
  obtain ⟨v0, d0, rfl, rfl, h0⟩ := trodAll_one hA
  obtain ⟨a0, len0, cap0, rfl⟩ := okWide_slice Try.underlying22 (hval 0 22 v0 rfl rfl)
  obtain ⟨xs, hl, hsz, hh⟩ : ∃ xs : List ByteArray, xs.length ≤ maxLen ∧ (∀ x ∈ xs, x.size ≤ maxLen) ∧ Holds W (.slice a0 len0 cap0) xs := by
    obtain ⟨fuel, hf⟩ := h0
    rcases open_strings Try.underlying22 Try.underlying9 (by kernel_rfl) hf with ⟨hcs, _⟩ | ⟨x, l, c, ss, hcs, _, hl, hm, hz, _, hcell, hwz⟩
    · simp [Value.cells] at hcs
      obtain ⟨rfl, rfl, rfl⟩ := hcs
      exact ⟨[], by simp, by simp, none, 0, rfl, fun hh => absurd rfl hh⟩
    · simp [Value.cells] at hcs
      obtain ⟨rfl, rfl, rfl⟩ := hcs
      have hz' : ss.length = cap0 := by simpa using hz
      have htl : (ss.take len0).length = len0 := by simp; omega
      refine ⟨ss.take len0, by rw [htl]; omega, fun y hy => hwz y (List.mem_of_mem_take hy), some x, cap0, by rw [htl], fun hne => ?_⟩
      have hpos : 0 < len0 := by
        rcases Nat.eq_zero_or_pos len0 with h | h
        · subst h; exact absurd rfl hne
        · exact h
      obtain ⟨bk, off, spot⟩ := x
      have hc0 := hcell 0 (by omega)
      have hspot : spot = none := by simpa [Addr.add] using World.cell?_spot hc0
      subst hspot
      refine ⟨bk, off, rfl, ?_, fun j hj => ?_⟩
      · have := hc0
        simp only [World.cell?, Addr.add] at this
        split at this
        · rename_i heq; exact (Array.getElem?_eq_some_iff.1 heq).1
        · cases this
      · rw [htl] at hj
        have := hcell j (by omega)
        rw [Join.add_at bk off j] at this
        rw [this, Join.getD_take ss len0 j hj (by omega)]
  refine (law_any W _ xs hl hsz hh).mono fun e W' ⟨he, hb⟩ => ?_
  subst he
  exact ⟨_, rfl, Kit.law_post Kit.laidOut (by kernel_rfl) Try.underlying4 rfl rfl (fun H ds hl => by match ds, hl with | [d], _ => rfl) hW' hb⟩

theorem holds : Rows.FnExactJoinPathSaid :=
  OpenClaim.holds_of_wide 4 Try.f4 rfl rfl rfl rfl rfl rfl rfl ⟨rfl, rfl, rfl, rfl, rfl⟩ rfl rfl rfl rfl rfl (by kernel_rfl) Try.func4 (by kernel_rfl)
    (of_decide_eq_true (by kernel_rfl)) (by unfold Func.isWrapper; first | (rw [if_pos (by decide +kernel)]; kernel_rfl) | (rw [if_neg (by decide +kernel)]; exact ⟨rfl, rfl⟩))
    (fun os started H enc _ => lifted os started H enc)
#print axioms holds
end Go.Proofs.Ythppbcnejapbiaa.JoinPathLaw
