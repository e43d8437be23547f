/- Contracts: one step performed on a disk, by the program's two kinds of steps; which kind a step is. Conditions: the lengths. -/
import Derived.Test.YtgapjdkelkmdgaaStepsTwo
import Derived.Test.YtgapjdkelkmdgaaFlush
import Derived.Test.YtgapjdkelkmdgaaWrite
import Derived.Test.YtgapjdkelkmdgaaCopy
import Derived.Lib.SmallJoins
namespace Go.Proofs.Ytgapjdkelkmdgaa.Run
open Go.ChangeShapes Go.WideShapes Go.ChangeAt Go.RowKit
open Wr (Wt d0)
open Dk (D Holds Ok Own Box RowIn)
open Txn (St s0 fl stepV runL runV)
open Go.Proofs.Ytgapjdkelkmdgaa.Steps (pcell)
set_option linter.unusedVariables false

theorem runL_succ (d : D) (l : List St) (k : Nat) (h : k < l.length) : runL d (l.take (k + 1)) = stepV (runL d (l.take k)) (l.getD k s0) := by
  unfold runL
  rw [List.take_succ_eq_append_getElem h, List.foldl_append]
  simp [List.getD, List.getElem?_eq_getElem h]
theorem step_len (d : D) (s : St) : (stepV d s).1.length = d.1.length ∧ (stepV d s).2.length ≤ max d.2.length 400 := by
  unfold stepV
  split
  · unfold Store.storeV
    split
    · refine ⟨Store.stored_len _ _ _ _, ?_⟩
      exact Nat.zero_le _
    · exact ⟨rfl, Nat.le_max_left _ _⟩
  · unfold WriteS.writeF
    split
    · rename_i h
      refine ⟨rfl, ?_⟩
      show (d.2 ++ [_]).length ≤ _
      rw [List.length_append]
      have h1 := h.1.1.2
      have h2 := h.2.2.2
      simp only [List.length_cons, List.length_nil]
      omega
    · exact ⟨rfl, Nat.le_max_left _ _⟩
theorem run_len (d : D) : ∀ l : List St, (runL d l).1.length = d.1.length ∧ (runL d l).2.length ≤ max d.2.length 400 := by
  intro l
  induction l generalizing d with
  | nil => exact ⟨rfl, Nat.le_max_left _ _⟩
  | cons s l ih =>
    have h1 := ih (stepV d s)
    have h2 := step_len d s
    show (runL (stepV d s) l).1.length = _ ∧ (runL (stepV d s) l).2.length ≤ _
    omega

set_option maxRecDepth 100000 in
set_option maxHeartbeats 2000000 in
theorem runW_any (w : World) (vs vp : Value) (d : D) (x : Wt) (h1 : d.1.length ≤ 1073741824) (h2 : d.2.length ≤ 1073741824) (h3 : x.2.size ≤ 1073741824) (h : Holds w vs vp d) :
    Calls Try.prog 152 #[.agg #[.int .i64 x.1, .string x.2], .agg #[vs, vp]] w fun e w' => ∃ us up, e = .returned (.agg #[us, up]) ∧ Own w' w.heap.size w'.heap.size us up (WriteS.writeF d x.1 x.2).1 ∧ Below w.heap.size w w' := by
  have H := Lib.hid h
  clear h
  have HB := Lib.hid (Below.refl w.heap.size w)
  go_enter Try.func152, Try.ntmps152
  have hb := Joins.below_alloc1 w (.cells #[.int .i64 x.1, .string x.2] 129)
  replace HB := Lib.hid (HB.out.trans (hb.mono HB.out.size))
  have BW := Lib.hid (show Dk.Box (w.alloc (.cells #[.int .i64 x.1, .string x.2] 129)) (w.heap.size) _ _ 129 from Dk.blk_new w (.cells #[.int .i64 x.1, .string x.2] 129))
  clear hb
  obtain ⟨vBW0, vBW1⟩ := BW.out.cells
  clear vBW0 vBW1
  have hb := Joins.below_alloc1 (w.alloc (.cells #[.int .i64 x.1, .string x.2] 129)) (.cells #[vs, vp] 26)
  replace HB := Lib.hid (HB.out.trans (hb.mono HB.out.size))
  replace BW := Lib.hid (BW.out.below hb)
  have BD := Lib.hid (show Dk.Box ((w.alloc (.cells #[.int .i64 x.1, .string x.2] 129)).alloc (.cells #[vs, vp] 26)) (w.heap.size + 1) _ _ 26 from by have hk := Dk.blk_new (w.alloc (.cells #[.int .i64 x.1, .string x.2] 129)) (.cells #[vs, vp] 26); simp only [World.size_alloc] at hk; exact hk)
  clear hb
  obtain ⟨vBW0, vBW1⟩ := BW.out.cells
  obtain ⟨vBD0, vBD1, vBD2, vBD3⟩ := BD.out.four
  clear vBW0 vBW1 vBD0 vBD1 vBD2 vBD3
  have hb := Joins.below_alloc1 ((w.alloc (.cells #[.int .i64 x.1, .string x.2] 129)).alloc (.cells #[vs, vp] 26)) (.cells #[.slice none 0 0, .slice none 0 0] 26)
  replace HB := Lib.hid (HB.out.trans (hb.mono HB.out.size))
  replace BW := Lib.hid (BW.out.below hb)
  replace BD := Lib.hid (BD.out.below hb)
  have BR := Lib.hid (show Dk.Box (((w.alloc (.cells #[.int .i64 x.1, .string x.2] 129)).alloc (.cells #[vs, vp] 26)).alloc (.cells #[.slice none 0 0, .slice none 0 0] 26)) (w.heap.size + 1 + 1) _ _ 26 from by have hk := Dk.blk_new ((w.alloc (.cells #[.int .i64 x.1, .string x.2] 129)).alloc (.cells #[vs, vp] 26)) (.cells #[.slice none 0 0, .slice none 0 0] 26); simp only [World.size_alloc] at hk; exact hk)
  clear hb
  obtain ⟨vBW0, vBW1⟩ := BW.out.cells
  obtain ⟨vBD0, vBD1, vBD2, vBD3⟩ := BD.out.four
  obtain ⟨vBR0, vBR1, vBR2, vBR3⟩ := BR.out.four
  go_wp2_with fail
  refine (WriteS.impl_any _ vs vp d x.1 x.2 h1 h2 h3 (H.out.below HB.out)).mono ?_
  rintro e w1 ⟨_, _, rfl, hown, hb⟩
  have s1 := hb.size
  simp only [World.size_alloc] at s1
  clear vBW0 vBW1 vBD0 vBD1 vBD2 vBD3 vBR0 vBR1 vBR2 vBR3
  obtain ⟨⟨ua, un, uc, rfl⟩, ⟨ub, um, ud, rfl⟩⟩ := hown.forms
  have HO := Lib.hid hown
  clear hown
  replace HB := Lib.hid (HB.out.trans (hb.mono HB.out.size))
  replace BW := Lib.hid (BW.out.below hb)
  replace BD := Lib.hid (BD.out.below hb)
  replace BR := Lib.hid (BR.out.below hb)
  clear hb
  obtain ⟨vBW0, vBW1⟩ := BW.out.cells
  obtain ⟨vBD0, vBD1, vBD2, vBD3⟩ := BD.out.four
  obtain ⟨vBR0, vBR1, vBR2, vBR3⟩ := BR.out.four
  go_wp2
  obtain ⟨hO1, hF1, hS1⟩ := Dk.Own.into HO.out BD.out
  have hR := Dk.Box.other (i := 1) (u := (.slice ub um ud)) (c := w.heap.size + 1) (Dk.Box.other (i := 0) (u := (.slice ua un uc)) (c := w.heap.size + 1) BR.out (by omega)) (by omega)
  have hB1 := Dk.below_into (b := w.heap.size + 1) HB.out (by omega) (.slice ua un uc) (.slice ub um ud)
  generalize (w1.setCell ⟨w.heap.size + 1, 0, none⟩ (.slice ua un uc)).setCell ⟨w.heap.size + 1, 1, none⟩ (.slice ub um ud) = wa at hO1 hF1 hS1 hR hB1 ⊢
  obtain ⟨hO, hF, hS⟩ := Dk.Own.into hO1 hR
  have hBB := Dk.below_into (b := w.heap.size + 1 + 1) hB1 (by omega) (.slice ua un uc) (.slice ub um ud)
  generalize (wa.setCell ⟨w.heap.size + 1 + 1, 0, none⟩ (.slice ua un uc)).setCell ⟨w.heap.size + 1 + 1, 1, none⟩ (.slice ub um ud) = wf at hO hF hS hBB ⊢
  obtain ⟨c0, c1, _, _⟩ := Dk.Box.four hF
  exact bodyPost_ret (v := .agg #[.slice ua un uc, .slice ub um ud]) (by simp [results, Try.results152, go_sem, c0, c1]) rfl ⟨_, _, rfl, hO.wide (by (try simp only [World.size_alloc]); omega) (by rw [hS, hS1]; (try simp only [World.size_alloc]); omega), hBB⟩

set_option maxRecDepth 100000 in
set_option maxHeartbeats 2000000 in
theorem runF_any (w : World) (vs vp : Value) (d : D) (h1 : d.1.length ≤ 1073741824) (h2 : d.2.length ≤ 1073741824) (h : Holds w vs vp d) :
    Calls Try.prog 153 #[.agg #[], .agg #[vs, vp]] w fun e w' => ∃ us up, e = .returned (.agg #[us, up]) ∧ Own w' w.heap.size w'.heap.size us up (Store.storeV Store.allP d) ∧ Below w.heap.size w w' := by
  have H := Lib.hid h
  clear h
  have HB := Lib.hid (Below.refl w.heap.size w)
  go_enter Try.func153, Try.ntmps153
  have hb := Joins.below_alloc1 w (.cells #[] 131)
  replace HB := Lib.hid (HB.out.trans (hb.mono HB.out.size))
  clear hb
  have hb := Joins.below_alloc1 (w.alloc (.cells #[] 131)) (.cells #[vs, vp] 26)
  replace HB := Lib.hid (HB.out.trans (hb.mono HB.out.size))
  have BD := Lib.hid (show Dk.Box ((w.alloc (.cells #[] 131)).alloc (.cells #[vs, vp] 26)) (w.heap.size + 1) _ _ 26 from by have hk := Dk.blk_new (w.alloc (.cells #[] 131)) (.cells #[vs, vp] 26); simp only [World.size_alloc] at hk; exact hk)
  clear hb
  obtain ⟨vBD0, vBD1⟩ := BD.out.cells
  clear vBD0 vBD1
  have hb := Joins.below_alloc1 ((w.alloc (.cells #[] 131)).alloc (.cells #[vs, vp] 26)) (.cells #[.slice none 0 0, .slice none 0 0] 26)
  replace HB := Lib.hid (HB.out.trans (hb.mono HB.out.size))
  replace BD := Lib.hid (BD.out.below hb)
  have BR := Lib.hid (show Dk.Box (((w.alloc (.cells #[] 131)).alloc (.cells #[vs, vp] 26)).alloc (.cells #[.slice none 0 0, .slice none 0 0] 26)) (w.heap.size + 1 + 1) _ _ 26 from by have hk := Dk.blk_new ((w.alloc (.cells #[] 131)).alloc (.cells #[vs, vp] 26)) (.cells #[.slice none 0 0, .slice none 0 0] 26); simp only [World.size_alloc] at hk; exact hk)
  clear hb
  obtain ⟨vBD0, vBD1⟩ := BD.out.cells
  obtain ⟨vBR0, vBR1, vBR2, vBR3⟩ := BR.out.four
  go_wp2_with fail
  refine (Flush.impl_all _ vs vp d h1 h2 (H.out.below HB.out)).mono ?_
  rintro e w1 ⟨_, _, rfl, hown, hb⟩
  have s1 := hb.size
  simp only [World.size_alloc] at s1
  clear vBD0 vBD1 vBR0 vBR1 vBR2 vBR3
  obtain ⟨⟨ua, un, uc, rfl⟩, ⟨ub, um, ud, rfl⟩⟩ := hown.forms
  have HO := Lib.hid hown
  clear hown
  replace HB := Lib.hid (HB.out.trans (hb.mono HB.out.size))
  replace BD := Lib.hid (BD.out.below hb)
  replace BR := Lib.hid (BR.out.below hb)
  clear hb
  obtain ⟨vBD0, vBD1⟩ := BD.out.cells
  obtain ⟨vBR0, vBR1, vBR2, vBR3⟩ := BR.out.four
  go_wp2
  obtain ⟨hO, hF, hS⟩ := Dk.Own.into HO.out BR.out
  have hBB := Dk.below_into (b := w.heap.size + 1 + 1) HB.out (by omega) (.slice ua un uc) (.slice ub um ud)
  generalize (w1.setCell ⟨w.heap.size + 1 + 1, 0, none⟩ (.slice ua un uc)).setCell ⟨w.heap.size + 1 + 1, 1, none⟩ (.slice ub um ud) = wf at hO hF hS hBB ⊢
  obtain ⟨c0, c1, _, _⟩ := Dk.Box.four hF
  exact bodyPost_ret (v := .agg #[.slice ua un uc, .slice ub um ud]) (by simp [results, Try.results153, go_sem, c0, c1]) rfl ⟨_, _, rfl, hO.wide (by (try simp only [World.size_alloc]); omega) (by rw [hS]; (try simp only [World.size_alloc]); omega), hBB⟩

set_option maxRecDepth 100000 in
set_option maxHeartbeats 800000 in
theorem kind_any (x : St) (w : World) :
    Calls Try.prog 67 #[.agg #[.bool x.1, .int .i64 x.2.1, .string x.2.2]] w fun e w' => e = .returned (pcell x) ∧ Below w.heap.size w w' := by
  obtain ⟨z0, z1, z2⟩ := Sp.three (Dk.blk_new w (.cells #[.bool x.1, .int .i64 x.2.1, .string x.2.2] 88))
  have HB := Lib.hid (Joins.below_alloc1 w (.cells #[.bool x.1, .int .i64 x.2.1, .string x.2.2] 88))
  obtain ⟨f, n, s⟩ := x
  dsimp only at z0 z1 z2 HB ⊢
  cases f with
  | true =>
    go_enter Try.func67, Try.ntmps67
    go_wp2
    go_ret
    exact ⟨rfl, HB.out⟩
  | false =>
    go_enter Try.func67, Try.ntmps67
    go_wp2
    go_ret
    exact ⟨rfl, HB.out⟩
end Go.Proofs.Ytgapjdkelkmdgaa.Run
