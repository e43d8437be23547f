/- Proved: for every string, the law FnExactSplitLines returns true and leaves its argument as it was: the program's SplitLines answers as the model's, in memory of its own. No condition beyond the row's own. -/
import Derived.Test.YtjeienkfocppfaaSplitAnyLaw
namespace Go.Proofs.Ytjeienkfocppfaa.SplitLines
open Go.ChangeShapes Go.WideShapes Go.ChangeAt Go.RowKit
open Go.ChangeMaps (open_string shut_string)
open Strs (Holds holds_of_own holds_below eq_any mark_all held_all marks marks_length own_below)
open SplitAny (parts parts_len own_apart own_of_heap below_drewN)
set_option linter.unusedVariables false

def nl : ByteArray := ⟨#[10]⟩
theorem nl_size : nl.size ≤ 1048576 := by decide
/-- The lines of s: the parts between newlines, the last one only if it is not empty. -/
def lines (s : ByteArray) : List ByteArray := if ((parts s nl).getLastD ⟨#[]⟩).toList.isEmpty = true then (parts s nl).dropLast else parts s nl
theorem lines_len (s : ByteArray) (h : s.size ≤ 1048576) : (lines s).length ≤ s.size + 1 := by
  have := parts_len s nl
  unfold lines
  split
  · simp; omega
  · exact this
theorem parts_pos (s : ByteArray) : ∃ m, (parts s nl).length = m + 1 := ⟨_, by simp [parts]; rfl⟩
theorem last_at (p : List ByteArray) (m : Nat) (h : p.length = m + 1) : (p.map Value.string)[m]? = some (.string (p.getLastD ⟨#[]⟩)) := by
  have hm : m < p.length := by omega
  have hne : p ≠ [] := by intro e; rw [e] at h; simp at h
  rw [List.getElem?_map, List.getElem?_eq_getElem hm]
  simp only [Option.map_some, Option.some.injEq, Value.string.injEq]
  rw [List.getLastD_eq_getLast?, List.getLast?_eq_getElem?, h]
  simp [List.getElem?_eq_getElem hm]
/-- A row that the call owns, cut by its last place. -/
theorem own_less {w : World} {base : Nat} {e : TypeId} {g m cap : Nat} {p : List ByteArray} (h : w.ownsRow base e 1 (.slice (some ⟨g, 0, none⟩) (m + 1) cap) (m + 1) (p.map Value.string)) : w.ownsRow base e 1 (.slice (some ⟨g, 0, none⟩) m cap) p.dropLast.length (p.dropLast.map Value.string) := by
  have hl := h.1
  simp at hl
  have hd : p.dropLast.length = m := by simp; omega
  rw [hd]
  refine ⟨by simp; omega, ?_⟩
  rcases h.2 with ⟨hh, _⟩ | ⟨g', cap', cur, hv, hb, hg, hn, hc, hs, ht⟩
  · cases hh
  · simp only [Value.slice.injEq, Option.some.injEq, Addr.mk.injEq, and_true, true_and] at hv
    obtain ⟨rfl, rfl⟩ := hv
    refine .inr ⟨g, cap, cur, rfl, hb, hg, by omega, hc, hs, ?_⟩
    have : cur.toList.take (m * 1) = (cur.toList.take ((m + 1) * 1)).take m := by rw [List.take_take]; congr 1; omega
    rw [this, ht, List.dropLast_eq_take, ← List.map_take, hl]
    simp
theorem own_form {w : World} {base : Nat} {e : TypeId} {v : Value} {m : Nat} {xs : List Value} (h : w.ownsRow base e 1 v (m + 1) xs) : ∃ g cap, v = .slice (some ⟨g, 0, none⟩) (m + 1) cap ∧ m + 1 ≤ cap ∧ cap ≤ maxLen := by
  rcases h.2 with ⟨_, h0⟩ | ⟨g, cap, cur, rfl, _, _, hn, hc, _⟩
  · omega
  · exact ⟨g, cap, rfl, hn, hc⟩

set_option maxHeartbeats 400000 in
theorem spec_any (s : ByteArray) (w : World) (hs : s.size ≤ 1048576) :
    Calls Try.prog 18 #[.string s] w fun e w' => ∃ v, e = .returned v ∧ w'.ownsRow w.heap.size 9 1 v (lines s).length ((lines s).map Value.string) ∧ Below w.heap.size w w' := by
  go_enter Try.func18, Try.ntmps18
  go_wp2_with fail
  refine (SplitAny.spec_any s nl _ hs nl_size).mono ?_
  rintro e w1 ⟨v, rfl, hown, hb1⟩
  have hpl := parts_len s nl
  obtain ⟨m, hm⟩ := parts_pos s
  rw [hm] at hown hpl
  obtain ⟨g, cap, rfl, hcap, hcm⟩ := own_form hown
  unfold maxLen at hcm
  have hc := hown.cellAt m (by omega)
  rw [last_at _ m hm] at hc
  have HO := Lib.hid hown
  have HB1 := Lib.hid hb1
  have HM := Lib.hid hm
  clear hown hb1 hm
  by_cases hemp : ((parts s nl).getLastD ⟨#[]⟩).toList.isEmpty = true
  · have HL := Lib.hid (show lines s = (parts s nl).dropLast by rw [lines, if_pos hemp])
    generalize (parts s nl).getLastD ⟨#[]⟩ = x at hemp hc
    go_wp2
    go_ret
    exact ⟨_, rfl, by rw [HL.out]; exact own_less HO.out, HB1.out⟩
  · have HL := Lib.hid (show lines s = parts s nl by rw [lines, if_neg hemp])
    have hemp' : ((parts s nl).getLastD ⟨#[]⟩).toList.isEmpty = false := by simpa using hemp
    clear hemp
    generalize (parts s nl).getLastD ⟨#[]⟩ = x at hemp' hc
    go_wp2
    go_ret
    exact ⟨_, rfl, by rw [HL.out, HM.out]; exact HO.out, HB1.out⟩
set_option maxHeartbeats 400000 in
theorem impl_any (s : ByteArray) (w : World) (hs : s.size ≤ 1048576) :
    Calls Try.prog 19 #[.string s] w fun e w' => ∃ v, e = .returned v ∧ w'.ownsRow w.heap.size 9 1 v (lines s).length ((lines s).map Value.string) ∧ Below w.heap.size w w' := by
  go_enter Try.func19, Try.ntmps19
  go_wp2_with fail
  refine (SplitAny.impl_any s nl _ hs nl_size).mono ?_
  rintro e w1 ⟨v, rfl, hown, hb1⟩
  have hpl := parts_len s nl
  obtain ⟨m, hm⟩ := parts_pos s
  rw [hm] at hown hpl
  obtain ⟨g, cap, rfl, hcap, hcm⟩ := own_form hown
  unfold maxLen at hcm
  have hc := hown.cellAt m (by omega)
  rw [last_at _ m hm] at hc
  have HO := Lib.hid hown
  have HB1 := Lib.hid hb1
  have HM := Lib.hid hm
  clear hown hb1 hm
  by_cases hemp : ((parts s nl).getLastD ⟨#[]⟩).toList.isEmpty = true
  · have HL := Lib.hid (show lines s = (parts s nl).dropLast by rw [lines, if_pos hemp])
    generalize (parts s nl).getLastD ⟨#[]⟩ = x at hemp hc
    go_wp2
    go_ret
    exact ⟨_, rfl, by rw [HL.out]; exact own_less HO.out, HB1.out⟩
  · have HL := Lib.hid (show lines s = parts s nl by rw [lines, if_neg hemp])
    have hemp' : ((parts s nl).getLastD ⟨#[]⟩).toList.isEmpty = false := by simpa using hemp
    clear hemp
    generalize (parts s nl).getLastD ⟨#[]⟩ = x at hemp' hc
    go_wp2
    go_ret
    exact ⟨_, rfl, by rw [HL.out, HM.out]; exact HO.out, HB1.out⟩
set_option maxHeartbeats 1000000 in
theorem law_any (s : ByteArray) (w : World) :
    Calls Try.prog 6 #[.string s] w fun e w' => e = .returned (.bool true) ∧ Below w.heap.size w w' := by
  by_cases hbig : 1048576 < s.size
  · go_enter Try.func6, Try.ntmps6
    go_wp2
    go_ret
    exact ⟨rfl, Below.refl _ _⟩
  have hpl := lines_len s (by omega)
  have HPL := Lib.hid hpl
  clear hpl
  go_enter Try.func6, Try.ntmps6
  go_wp2_with fail
  refine (spec_any s _ (by omega)).mono ?_
  rintro e w1 ⟨v0, rfl, hown0, hb1⟩
  have HO0 := Lib.hid hown0
  have HB1 := Lib.hid hb1
  clear hown0 hb1
  go_wp2_with fail
  refine (impl_any s _ (by omega)).mono ?_
  rintro e w2 ⟨v1, rfl, hown1, hb2⟩
  have HO1 := Lib.hid hown1
  have HAP := Lib.hid (own_apart (w := w1) HO0.out hown1)
  have HO02 := Lib.hid (own_below HO0.out hb2)
  have HB2 := Lib.hid (HB1.out.trans (hb2.mono HB1.out.size))
  have HSZ := Lib.hid (Nat.le_trans HB1.out.size (Nat.le_refl _))
  clear hown1 hb2
  go_wp2_with fail
  refine (eq_any _ v1 v0 (lines s) (by have := HPL.out; omega) (holds_of_own HO1.out) (holds_of_own HO02.out)).mono ?_
  rintro e w3 ⟨rfl, m3, hw3⟩
  have HO13 := Lib.hid (own_of_heap (w' := w3) HO1.out (by rw [hw3]; rfl))
  have HO03 := Lib.hid (own_of_heap (w' := w3) HO02.out (by rw [hw3]; rfl))
  have HB3 := Lib.hid (show Below w.heap.size w w3 by rw [hw3]; exact below_drewN HB2.out _)
  clear hw3
  go_wp2_with fail
  refine (mark_all _ _ v1 _ 1 (lines s) (Nat.le_refl _) (by have := HPL.out; omega) HO13.out).mono ?_
  rintro e w4 ⟨rfl, hown14, hg4⟩
  have HO14 := Lib.hid hown14
  have HO04 := Lib.hid (World.ownsRow.kept HO03.out hg4 HAP.out)
  have HB4 := Lib.hid (HB3.out.grown hg4 HB3.out.size (fun k hk => Nat.le_trans HSZ.out (HO1.out.lt k hk).1))
  clear hown14 hg4
  go_wp2_with fail
  refine (held_all _ v1 (lines s).length 1 (Nat.le_refl _) (by have := HPL.out; omega) (holds_of_own HO14.out)).mono ?_
  rintro e w5 ⟨rfl, hb5⟩
  have HO15 := Lib.hid (own_below HO14.out hb5)
  have HO05 := Lib.hid (own_below HO04.out hb5)
  have HB5 := Lib.hid (HB4.out.trans (hb5.mono HB4.out.size))
  clear hb5
  go_wp2_with fail
  refine (impl_any s _ (by omega)).mono ?_
  rintro e w6 ⟨v2, rfl, hown2, hb6⟩
  have HO26 := Lib.hid hown2
  have HO16 := Lib.hid (own_below HO15.out hb6)
  have HO06 := Lib.hid (own_below HO05.out hb6)
  have HB6 := Lib.hid (HB5.out.trans (hb6.mono HB5.out.size))
  clear hown2 hb6
  go_wp2_with fail
  refine (eq_any _ v2 v0 (lines s) (by have := HPL.out; omega) (holds_of_own HO26.out) (holds_of_own HO06.out)).mono ?_
  rintro e w7 ⟨rfl, m7, hw7⟩
  have HO17 := Lib.hid (own_of_heap (w' := w7) HO16.out (by rw [hw7]; rfl))
  have HB7 := Lib.hid (show Below w.heap.size w w7 by rw [hw7]; exact below_drewN HB6.out _)
  clear hw7
  go_wp2_with fail
  refine (held_all _ v1 (lines s).length 1 (Nat.le_refl _) (by have := HPL.out; omega) (holds_of_own HO17.out)).mono ?_
  rintro e w8 ⟨rfl, hb8⟩
  have HB8 := Lib.hid (HB7.out.trans (hb8.mono HB7.out.size))
  clear hb8
  go_wp2
  go_ret
  exact ⟨rfl, HB8.out⟩

set_option maxRecDepth 100000 in
theorem lifted (os : Os) (started : os.Started) (H : Type) (enc : TypeId × Value → H) :
    ReturnsInHanded {} Try.checked os 6 .any (Rows.fnExactSplitLinesSpec.pre6 enc Try.prog Try.f6 Rows.fnExactSplitLinesRow.domain false) (Rows.fnExactSplitLinesSpec.post enc Try.prog Try.f6 false true false false) := by
  refine returnsInHanded_of_change (C := Try.checked) Kit.own started (by kernel_rfl) Try.func6
    (ChangeSpec.witness6 (enc := enc) (C := Try.checked) false ⟨#[], #[.string ⟨#[]⟩], []⟩ 8 (by kernel_rfl) (by kernel_rfl) (by kernel_rfl) (by kernel_rfl)) ?_
  intro W base args ds gs before hval0 hW hcnd _
  have hval : ∀ (j : Nat) t v, Try.f6.params[j]? = some t → args[j]? = some v → Value.okWide Try.prog W .any base t v := hval0
  have hW' := hW
  obtain ⟨p, q, hA0, hV, rfl, hfz, hnd⟩ := hW
  have hA : DataW.TrodAll enc Try.prog W 0 (fun _ => true) true Try.f6.params.toList args.toList ds p := hA0
  rw [Try.params6] at hA hval
  obtain ⟨v0, d0, rfl, rfl, h0⟩ := trodAll_one hA
  obtain ⟨s, rfl, rfl, rfl, hs⟩ := open_string Try.underlying9 (hval 0 9 v0 rfl rfl) h0
  refine (law_any s W).mono fun e W' ⟨he, hb⟩ => ?_
  subst he
  exact ⟨_, rfl, Kit.law_post Kit.laidOut (by kernel_rfl) Try.underlying4 rfl rfl (fun H ds hl => by match ds, hl with | [d], _ => rfl) hW' hb⟩

theorem holds : Rows.FnExactSplitLinesSaid :=
  OpenClaim.holds_of_wide 6 Try.f6 rfl rfl rfl rfl rfl rfl rfl ⟨rfl, rfl, rfl, rfl, rfl⟩ rfl rfl rfl rfl rfl (by kernel_rfl) Try.func6 (by kernel_rfl)
    (of_decide_eq_true (by kernel_rfl)) (by unfold Func.isWrapper; first | (rw [if_pos (by decide +kernel)]; kernel_rfl) | (rw [if_neg (by decide +kernel)]; exact ⟨rfl, rfl⟩))
    (fun os started H enc _ => lifted os started H enc)
#print axioms holds
end Go.Proofs.Ytjeienkfocppfaa.SplitLines
