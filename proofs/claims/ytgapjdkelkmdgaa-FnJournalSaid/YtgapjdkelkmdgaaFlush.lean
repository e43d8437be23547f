/- Contracts and plain facts that a law of this seat leans on. Conditions: as each theorem types them. -/
import Derived.Test.YtgapjdkelkmdgaaStore
import Derived.Deep.RegionHeld3
namespace Go.Proofs.Ytgapjdkelkmdgaa.Flush
open Go.ChangeShapes Go.WideShapes Go.ChangeAt Go.RowKit
open Wr (Wt wcells d0)
open Dk (D Holds Ok Own RowIn Box)
open Store (allP keepP storeF storeV HoldsB)
set_option linter.unusedVariables false

set_option maxRecDepth 100000 in
set_option maxHeartbeats 2000000 in
theorem spec_all (w : World) (vs vp : Value) (d : D) (h1 : d.1.length ≤ 1073741824) (h2 : d.2.length ≤ 1073741824) (h : Holds w vs vp d) :
    Calls Try.prog 101 #[.agg #[vs, vp]] w fun e w' => ∃ us up, e = .returned (.agg #[us, up]) ∧ Own w' w.heap.size w'.heap.size us up (storeV allP d) ∧ Below w.heap.size w w' := by
  have H := Lib.hid h
  clear h
  by_cases hok : Ok d
  · have HOK := Lib.hid (show decide (Ok d) = true from decide_eq_true hok)
    have hV : storeV allP d = storeF allP d := if_pos hok
    rw [hV]
    have HOKP := Lib.hid hok
    clear hV hok
    have HB := Lib.hid (Below.refl w.heap.size w)
    go_enter Try.func101, Try.ntmps101
    have hb := Joins.below_alloc1 w (.cells #[vs, vp] 26)
    replace HB := Lib.hid (HB.out.trans (hb.mono HB.out.size))
    have BD := Lib.hid (show Dk.Box (w.alloc (.cells #[vs, vp] 26)) (w.heap.size) _ _ 26 from Dk.blk_new w (.cells #[vs, vp] 26))
    clear hb
    obtain ⟨vBD0, vBD1⟩ := BD.out.cells
    clear vBD0 vBD1
    have hb := Joins.below_alloc1 (w.alloc (.cells #[vs, vp] 26)) (.cells #[.slice none 0 0, .slice none 0 0] 26)
    replace HB := Lib.hid (HB.out.trans (hb.mono HB.out.size))
    replace BD := Lib.hid (BD.out.below hb)
    have BR := Lib.hid (show Dk.Box ((w.alloc (.cells #[vs, vp] 26)).alloc (.cells #[.slice none 0 0, .slice none 0 0] 26)) (w.heap.size + 1) _ _ 26 from by have hk := Dk.blk_new (w.alloc (.cells #[vs, vp] 26)) (.cells #[.slice none 0 0, .slice none 0 0] 26); simp only [World.size_alloc] at hk; exact hk)
    clear hb
    obtain ⟨vBD0, vBD1⟩ := BD.out.cells
    obtain ⟨vBR0, vBR1, vBR2, vBR3⟩ := BR.out.four
    go_wp2_with fail
    refine (IsDisk.spec_any _ vs vp d h1 h2 (H.out.below HB.out)).mono ?_
    rintro e w1 ⟨rfl, hb⟩
    have s1 := hb.size
    simp only [World.size_alloc] at s1
    clear vBD0 vBD1 vBR0 vBR1 vBR2 vBR3
    replace HB := Lib.hid (HB.out.trans (hb.mono HB.out.size))
    replace BD := Lib.hid (BD.out.below hb)
    replace BR := Lib.hid (BR.out.below hb)
    clear hb
    rw [HOK.out]
    obtain ⟨vBD0, vBD1⟩ := BD.out.cells
    obtain ⟨vBR0, vBR1, vBR2, vBR3⟩ := BR.out.four
    go_wp2_with fail
    refine (Store.spec_all _ vs vp d h1 h2 HOKP.out (H.out.below HB.out)).mono ?_
    rintro e w2 ⟨_, _, rfl, hown, hb⟩
    have s2 := hb.size
    clear vBD0 vBD1 vBR0 vBR1 vBR2 vBR3
    obtain ⟨⟨ua, un, uc, rfl⟩, ⟨ub, um, ud, rfl⟩⟩ := hown.forms
    have HO := Lib.hid hown
    clear hown
    replace HB := Lib.hid (HB.out.trans (hb.mono HB.out.size))
    replace BD := Lib.hid (BD.out.below hb)
    replace BR := Lib.hid (BR.out.below hb)
    clear hb
    obtain ⟨vBD0, vBD1⟩ := BD.out.cells
    obtain ⟨vBR0, vBR1, vBR2, vBR3⟩ := BR.out.four
    go_wp2
    obtain ⟨hO, hF, hS⟩ := Dk.Own.into HO.out BR.out
    have hBB := Dk.below_into (b := w.heap.size + 1) HB.out (by omega) (.slice ua un uc) (.slice ub um ud)
    generalize (w2.setCell ⟨w.heap.size + 1, 0, none⟩ (.slice ua un uc)).setCell ⟨w.heap.size + 1, 1, none⟩ (.slice ub um ud) = wf at hO hF hS hBB ⊢
    obtain ⟨c0, c1, _, _⟩ := Dk.Box.four hF
    exact bodyPost_ret (v := .agg #[.slice ua un uc, .slice ub um ud]) (by simp [results, Try.results101, go_sem, c0, c1]) rfl ⟨_, _, rfl, hO.wide (by (try simp only [World.size_alloc]); omega) (by rw [hS]; (try simp only [World.size_alloc]); omega), hBB⟩
  · have HOK := Lib.hid (show decide (Ok d) = false from decide_eq_false hok)
    have hV : storeV allP d = d := if_neg hok
    rw [hV]
    clear hV hok
    have HB := Lib.hid (Below.refl w.heap.size w)
    go_enter Try.func101, Try.ntmps101
    have hb := Joins.below_alloc1 w (.cells #[vs, vp] 26)
    replace HB := Lib.hid (HB.out.trans (hb.mono HB.out.size))
    have BD := Lib.hid (show Dk.Box (w.alloc (.cells #[vs, vp] 26)) (w.heap.size) _ _ 26 from Dk.blk_new w (.cells #[vs, vp] 26))
    clear hb
    obtain ⟨vBD0, vBD1⟩ := BD.out.cells
    clear vBD0 vBD1
    have hb := Joins.below_alloc1 (w.alloc (.cells #[vs, vp] 26)) (.cells #[.slice none 0 0, .slice none 0 0] 26)
    replace HB := Lib.hid (HB.out.trans (hb.mono HB.out.size))
    replace BD := Lib.hid (BD.out.below hb)
    have BR := Lib.hid (show Dk.Box ((w.alloc (.cells #[vs, vp] 26)).alloc (.cells #[.slice none 0 0, .slice none 0 0] 26)) (w.heap.size + 1) _ _ 26 from by have hk := Dk.blk_new (w.alloc (.cells #[vs, vp] 26)) (.cells #[.slice none 0 0, .slice none 0 0] 26); simp only [World.size_alloc] at hk; exact hk)
    clear hb
    obtain ⟨vBD0, vBD1⟩ := BD.out.cells
    obtain ⟨vBR0, vBR1, vBR2, vBR3⟩ := BR.out.four
    go_wp2_with fail
    refine (IsDisk.spec_any _ vs vp d h1 h2 (H.out.below HB.out)).mono ?_
    rintro e w1 ⟨rfl, hb⟩
    have s1 := hb.size
    simp only [World.size_alloc] at s1
    clear vBD0 vBD1 vBR0 vBR1 vBR2 vBR3
    replace HB := Lib.hid (HB.out.trans (hb.mono HB.out.size))
    replace BD := Lib.hid (BD.out.below hb)
    replace BR := Lib.hid (BR.out.below hb)
    clear hb
    rw [HOK.out]
    obtain ⟨vBD0, vBD1⟩ := BD.out.cells
    obtain ⟨vBR0, vBR1, vBR2, vBR3⟩ := BR.out.four
    go_wp2_with fail
    refine (Copy.spec_any _ vs vp d h1 h2 (H.out.below HB.out)).mono ?_
    rintro e w2 ⟨_, _, rfl, hown, hb⟩
    have s2 := hb.size
    clear vBD0 vBD1 vBR0 vBR1 vBR2 vBR3
    obtain ⟨⟨ua, un, uc, rfl⟩, ⟨ub, um, ud, rfl⟩⟩ := hown.forms
    have HO := Lib.hid hown
    clear hown
    replace HB := Lib.hid (HB.out.trans (hb.mono HB.out.size))
    replace BD := Lib.hid (BD.out.below hb)
    replace BR := Lib.hid (BR.out.below hb)
    clear hb
    obtain ⟨vBD0, vBD1⟩ := BD.out.cells
    obtain ⟨vBR0, vBR1, vBR2, vBR3⟩ := BR.out.four
    go_wp2
    obtain ⟨hO, hF, hS⟩ := Dk.Own.into HO.out BR.out
    have hBB := Dk.below_into (b := w.heap.size + 1) HB.out (by omega) (.slice ua un uc) (.slice ub um ud)
    generalize (w2.setCell ⟨w.heap.size + 1, 0, none⟩ (.slice ua un uc)).setCell ⟨w.heap.size + 1, 1, none⟩ (.slice ub um ud) = wf at hO hF hS hBB ⊢
    obtain ⟨c0, c1, _, _⟩ := Dk.Box.four hF
    exact bodyPost_ret (v := .agg #[.slice ua un uc, .slice ub um ud]) (by simp [results, Try.results101, go_sem, c0, c1]) rfl ⟨_, _, rfl, hO.wide (by (try simp only [World.size_alloc]); omega) (by rw [hS]; (try simp only [World.size_alloc]); omega), hBB⟩

set_option maxRecDepth 100000 in
set_option maxHeartbeats 2000000 in
theorem impl_all (w : World) (vs vp : Value) (d : D) (h1 : d.1.length ≤ 1073741824) (h2 : d.2.length ≤ 1073741824) (h : Holds w vs vp d) :
    Calls Try.prog 154 #[.agg #[vs, vp]] w fun e w' => ∃ us up, e = .returned (.agg #[us, up]) ∧ Own w' w.heap.size w'.heap.size us up (storeV allP d) ∧ Below w.heap.size w w' := by
  have H := Lib.hid h
  clear h
  have HB := Lib.hid (Below.refl w.heap.size w)
  go_enter Try.func154, Try.ntmps154
  have hb := Joins.below_alloc1 w (.cells #[vs, vp] 26)
  replace HB := Lib.hid (HB.out.trans (hb.mono HB.out.size))
  have BD := Lib.hid (show Dk.Box (w.alloc (.cells #[vs, vp] 26)) (w.heap.size) _ _ 26 from Dk.blk_new w (.cells #[vs, vp] 26))
  clear hb
  obtain ⟨vBD0, vBD1⟩ := BD.out.cells
  clear vBD0 vBD1
  have hb := Joins.below_alloc1 (w.alloc (.cells #[vs, vp] 26)) (.cells #[.slice none 0 0, .slice none 0 0] 26)
  replace HB := Lib.hid (HB.out.trans (hb.mono HB.out.size))
  replace BD := Lib.hid (BD.out.below hb)
  have BR := Lib.hid (show Dk.Box ((w.alloc (.cells #[vs, vp] 26)).alloc (.cells #[.slice none 0 0, .slice none 0 0] 26)) (w.heap.size + 1) _ _ 26 from by have hk := Dk.blk_new (w.alloc (.cells #[vs, vp] 26)) (.cells #[.slice none 0 0, .slice none 0 0] 26); simp only [World.size_alloc] at hk; exact hk)
  clear hb
  obtain ⟨vBD0, vBD1⟩ := BD.out.cells
  obtain ⟨vBR0, vBR1, vBR2, vBR3⟩ := BR.out.four
  go_wp2_with fail
  refine (Store.impl_all _ vs vp d h1 h2 (H.out.below HB.out)).mono ?_
  rintro e w1 ⟨_, _, rfl, hown, hb⟩
  have s1 := hb.size
  simp only [World.size_alloc] at s1
  clear vBD0 vBD1 vBR0 vBR1 vBR2 vBR3
  obtain ⟨⟨ua, un, uc, rfl⟩, ⟨ub, um, ud, rfl⟩⟩ := hown.forms
  have HO := Lib.hid hown
  clear hown
  replace HB := Lib.hid (HB.out.trans (hb.mono HB.out.size))
  replace BD := Lib.hid (BD.out.below hb)
  replace BR := Lib.hid (BR.out.below hb)
  clear hb
  obtain ⟨vBD0, vBD1⟩ := BD.out.cells
  obtain ⟨vBR0, vBR1, vBR2, vBR3⟩ := BR.out.four
  go_wp2
  obtain ⟨hO, hF, hS⟩ := Dk.Own.into HO.out BR.out
  have hBB := Dk.below_into (b := w.heap.size + 1) HB.out (by omega) (.slice ua un uc) (.slice ub um ud)
  generalize (w1.setCell ⟨w.heap.size + 1, 0, none⟩ (.slice ua un uc)).setCell ⟨w.heap.size + 1, 1, none⟩ (.slice ub um ud) = wf at hO hF hS hBB ⊢
  obtain ⟨c0, c1, _, _⟩ := Dk.Box.four hF
  exact bodyPost_ret (v := .agg #[.slice ua un uc, .slice ub um ud]) (by simp [results, Try.results154, go_sem, c0, c1]) rfl ⟨_, _, rfl, hO.wide (by (try simp only [World.size_alloc]); omega) (by rw [hS]; (try simp only [World.size_alloc]); omega), hBB⟩

theorem makes_keep (a : Option Addr) (n c : Nat) (w : World) : Calls Try.prog 65 #[.slice a n c] w fun e w' => ∃ kb, e = .returned (.func (.func 108) #[] #[.pointer (some ⟨kb, 0, none⟩)]) ∧ kb < w'.heap.size ∧ w'.cell? ⟨kb, 0, none⟩ = some (.slice a n c) ∧ Below w.heap.size w w' := by
  go_enter Try.func65, Try.ntmps65
  go_wp2
  go_ret
  exact ⟨w.heap.size, rfl, by simp, by simp, Joins.below_alloc1 _ _⟩
set_option maxRecDepth 100000 in
set_option maxHeartbeats 2000000 in
theorem impl_keep (w : World) (vs vp : Value) (bs : List Bool) (kv : Value) (d : D) (h1 : d.1.length ≤ 1073741824) (h2 : d.2.length ≤ 1073741824) (h3 : bs.length ≤ 1073741824) (hkeep : HoldsB w kv bs) (h : Holds w vs vp d) :
    Calls Try.prog 19 #[.agg #[vs, vp], kv] w fun e w' => ∃ us up, e = .returned (.agg #[us, up]) ∧ Own w' w.heap.size w'.heap.size us up (storeV (keepP bs) d) ∧ Below w.heap.size w w' := by
  have H := Lib.hid h
  clear h
  have HKEEP := Lib.hid hkeep
  obtain ⟨ka, kc, rfl, _⟩ := hkeep
  have HB := Lib.hid (Below.refl w.heap.size w)
  go_enter Try.func19, Try.ntmps19
  have hb := Joins.below_alloc1 w (.cells #[vs, vp] 26)
  replace HB := Lib.hid (HB.out.trans (hb.mono HB.out.size))
  have BD := Lib.hid (show Dk.Box (w.alloc (.cells #[vs, vp] 26)) (w.heap.size) _ _ 26 from Dk.blk_new w (.cells #[vs, vp] 26))
  clear hb
  obtain ⟨vBD0, vBD1⟩ := BD.out.cells
  clear vBD0 vBD1
  have hb := Joins.below_alloc1 (w.alloc (.cells #[vs, vp] 26)) (.cells #[.slice none 0 0, .slice none 0 0] 26)
  replace HB := Lib.hid (HB.out.trans (hb.mono HB.out.size))
  replace BD := Lib.hid (BD.out.below hb)
  have BR := Lib.hid (show Dk.Box ((w.alloc (.cells #[vs, vp] 26)).alloc (.cells #[.slice none 0 0, .slice none 0 0] 26)) (w.heap.size + 1) _ _ 26 from by have hk := Dk.blk_new (w.alloc (.cells #[vs, vp] 26)) (.cells #[.slice none 0 0, .slice none 0 0] 26); simp only [World.size_alloc] at hk; exact hk)
  clear hb
  obtain ⟨vBD0, vBD1⟩ := BD.out.cells
  obtain ⟨vBR0, vBR1, vBR2, vBR3⟩ := BR.out.four
  clear vBD0 vBD1 vBR0 vBR1 vBR2 vBR3
  have hsz : ((w.alloc (.cells #[vs, vp] 26)).alloc (.cells #[.slice none 0 0, .slice none 0 0] 26)).heap.size = w.heap.size + 1 + 1 := by simp
  go_wp2
  generalize (w.alloc (.cells #[vs, vp] 26)).alloc (.cells #[.slice none 0 0, .slice none 0 0] 26) = w0 at HB BD BR hsz ⊢
  replace HB := Lib.hid HB.out.drew
  replace BD := Lib.hid (show Box w0.drew _ _ _ _ from BD.out)
  replace BR := Lib.hid (show Box w0.drew _ _ _ _ from BR.out)
  obtain ⟨x0, x1, _, _⟩ := Box.four BD.out
  go_region_held3 (fun w' => w'.cell? ⟨w.heap.size, 0, none⟩ = some vs ∧ w'.cell? ⟨w.heap.size, 1, none⟩ = some vp) (go_keep)
    (first | (go_at_call 65; refine (makes_keep _ _ _ _).mono ?_; rintro e w1 ⟨kb, rfl, hkb, hkx, hb1⟩; have s1 := hb1.size; replace HB := Lib.hid (HB.out.trans (hb1.mono HB.out.size)); replace BD := Lib.hid (Box.below BD.out hb1); replace BR := Lib.hid (Box.below BR.out hb1); clear hb1; obtain ⟨y0, y1, _, _⟩ := BD.out.four)
           | (go_at_call 64; refine (Store.impl_keep _ vs vp bs _ _ kb d h1 h2 h3 hkx hkb (HKEEP.out.below HB.out) (H.out.below HB.out)).mono ?_; rintro e w2 ⟨us, up, rfl, hown, hb2⟩; obtain ⟨⟨ua, un, uc, rfl⟩, ⟨ub, um, ud, rfl⟩⟩ := hown.forms; have s2 := hb2.size; have HO := Lib.hid hown; clear hown; replace HB := Lib.hid (HB.out.trans (hb2.mono HB.out.size)); replace BD := Lib.hid (Box.below BD.out hb2); replace BR := Lib.hid (Box.below BR.out hb2); clear hb2; obtain ⟨z0, z1, _, _⟩ := BD.out.four; obtain ⟨q0, q1, q2, q3⟩ := BR.out.four))
  have s3 : w0.heap.size ≤ w1.heap.size := s1
  go_wp2
  obtain ⟨hO, hF, hS⟩ := Dk.Own.into HO.out BR.out
  have hBB := Dk.below_into (b := w.heap.size + 1) HB.out (by omega) (.slice ua un uc) (.slice ub um ud)
  generalize (w2.setCell ⟨w.heap.size + 1, 0, none⟩ (.slice ua un uc)).setCell ⟨w.heap.size + 1, 1, none⟩ (.slice ub um ud) = wf at hO hF hS hBB ⊢
  obtain ⟨c0, c1, _, _⟩ := Dk.Box.four hF
  exact bodyPost_ret (v := .agg #[.slice ua un uc, .slice ub um ud]) (by simp [results, Try.results19, go_sem, c0, c1]) rfl ⟨_, _, rfl, hO.wide (by (try simp only [World.size_alloc]); omega) (by rw [hS]; (try simp only [World.size_alloc]); omega), hBB⟩
end Go.Proofs.Ytgapjdkelkmdgaa.Flush
