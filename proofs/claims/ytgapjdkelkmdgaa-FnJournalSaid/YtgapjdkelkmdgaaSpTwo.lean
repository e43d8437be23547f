/- Contracts of the law's own helpers over slices of steps: their size, a copy of one; what an argument that is a slice of steps offers. Conditions: as each theorem types them. -/
import Derived.Test.YtgapjdkelkmdgaaSpMark
import Derived.Test.YtgapjdkelkmdgaaWrTwo
import Derived.Test.YtgapjdkelkmdgaaWrIn
namespace Go.Proofs.Ytgapjdkelkmdgaa.Sp
open Go.ChangeShapes Go.WideShapes Go.ChangeAt Go.RowKit
open Strs (own_below ret_int budgetOf total total_take_succ total_take_le)
open Txn (St s0)
open Dk (RowIn Turned blk_new)
set_option linter.unusedVariables false

/-- The data of the steps. -/
def datas (ws : List St) : List ByteArray := ws.map (·.2.2)
theorem datas_length (ws : List St) : (datas ws).length = ws.length := by simp [datas]
theorem datas_getD (ws : List St) (k : Nat) (h : k < ws.length) : (datas ws).getD k ⟨#[]⟩ = (ws.getD k s0).2.2 := by
  simp [datas, List.getD, List.getElem?_eq_getElem h]

set_option maxRecDepth 100000 in
set_option maxHeartbeats 400000 in
theorem szOne_any (x : St) (r : Nat) (w : World) (hr : r ≤ 1073741824) (hx : x.2.2.size ≤ maxLen) :
    Calls Try.prog 99 #[.agg #[.bool x.1, .int .i64 x.2.1, .string x.2.2], .int .i64 r] w fun e w' => e = .returned (.int .i64 (if x.2.2.size ≤ r then ((r - x.2.2.size : Nat) : Int) else -1)) ∧ Below w.heap.size w w' := by
  obtain ⟨z0, z1, z2⟩ := three (blk_new w (.cells #[.bool x.1, .int .i64 x.2.1, .string x.2.2] 121))
  have HB := Lib.hid ((Below.refl w.heap.size w).alloc (Nat.le_refl _) (.cells #[.bool x.1, .int .i64 x.2.1, .string x.2.2] 121))
  have HX := Lib.hid hx
  clear hx
  by_cases h : x.2.2.size ≤ r
  · rw [if_pos h]
    go_enter Try.func99, Try.ntmps99
    go_wp2_with fail
    refine (Wr.szOne_any x.2 r _ hr HX.out).mono ?_
    rw [if_pos h]
    rintro e w1 ⟨rfl, hb⟩
    go_wp2_with fail
    go_ret
    exact ⟨rfl, HB.out.trans (hb.mono HB.out.size)⟩
  · rw [if_neg h]
    go_enter Try.func99, Try.ntmps99
    go_wp2_with fail
    refine (Wr.szOne_any x.2 r _ hr HX.out).mono ?_
    rw [if_neg h]
    rintro e w1 ⟨rfl, hb⟩
    go_wp2_with fail
    go_ret
    exact ⟨rfl, HB.out.trans (hb.mono HB.out.size)⟩

set_option maxRecDepth 100000 in
set_option maxHeartbeats 800000 in
theorem sz_any (w : World) (v : Value) (xs : List St) (left : Nat) (hleft : left ≤ 1073741824) (hlen : xs.length ≤ maxLen) (hsz : ∀ x ∈ xs, x.2.2.size ≤ maxLen) (h : Holds w v xs) :
    Calls Try.prog 44 #[v, .int .i64 left] w fun e w' => e = .returned (.int .i64 (budgetOf (datas xs) left)) ∧ Below w.heap.size w w' := by
  unfold maxLen at hlen
  obtain ⟨a, cap, rfl, hc⟩ := h
  by_cases hlt0 : left < xs.length
  · have HR := Lib.hid (show budgetOf (datas xs) left = -1 by rw [budgetOf, if_neg (by rw [datas_length]; omega)])
    clear hc hsz
    generalize xs.length = L at hlt0 hlen ⊢
    go_enter Try.func44, Try.ntmps44
    go_wp2
    go_ret
    exact ⟨ret_int HR.out.symm, Below.refl _ _⟩
  by_cases h0 : xs = []
  · subst h0
    simp only [List.length_nil]
    have HR := Lib.hid (show budgetOf (datas []) left = left by simp [budgetOf, total, datas])
    clear hc hsz hlt0 hlen
    go_enter Try.func44, Try.ntmps44
    go_wp2
    refine wp_loop_rounds 1 ?_
    rw [rounds_succ]
    go_wp2
    go_ret
    exact ⟨ret_int (by rw [HR.out]), Below.refl _ _⟩
  · obtain ⟨b, o, rfl, hb, hcell⟩ := hc h0
    have HC := Lib.hid hcell
    have HSZ := Lib.hid hsz
    have HTL := Lib.hid (total_take_le (datas xs))
    have hLE : xs.length ≤ left := by omega
    obtain ⟨L, hL⟩ : ∃ L, L = xs.length := ⟨_, rfl⟩
    rw [← hL] at hLE hlen ⊢
    have HL := Lib.hid hL
    clear hL hc hcell hsz h0 hlt0
    go_enter Try.func44, Try.ntmps44
    go_wp2
    go_loopw [1, 5] (fun lv iv wr => ∃ i r : Nat, i ≤ L ∧ iv = .int .i64 i ∧ lv = .int .i64 r ∧ r + L + total ((datas xs).take i) = left ∧ Below w.heap.size w wr) (fun _ iv _ => L - (intOf iv).toNat)
    case atStart => exact ⟨0, left - L, Nat.zero_le _, rfl, by go_num, by simp [total]; omega, Below.refl _ _⟩
    case round =>
      obtain ⟨i, r, hi, rfl, rfl, hr, hbel⟩ := hrel
      have HR := Lib.hid hr
      have HBEL := Lib.hid hbel
      have hrl : r ≤ 1073741824 := by omega
      clear hr hbel
      by_cases hlt : i < L
      · have hlx : i < xs.length := by rw [← HL.out]; exact hlt
        have hc3 := (HC.out i hlx).below hb HBEL.out
        have ht := Lib.hid (total_take_succ (datas xs) i (by rw [datas_length]; exact hlx))
        rw [datas_getD xs i hlx] at ht
        have hts := HTL.out (i + 1)
        have HTS := Lib.hid hts
        clear hts
        have hxs : (xs.getD i s0).2.2.size ≤ maxLen := by
          refine HSZ.out _ ?_
          rw [List.getD_eq_getElem?_getD, List.getElem?_eq_getElem hlx]
          exact List.getElem_mem _
        generalize xs.getD i s0 = x at hc3 ht hxs
        obtain ⟨g1, g2, g3⟩ := hc3
        by_cases hneg : r < x.2.2.size
        · have HN := Lib.hid (show budgetOf (datas xs) left = -1 by
            rw [budgetOf, if_neg]
            have := ht.out; have := HTS.out; have := HR.out; have := HL.out
            rw [datas_length]
            omega)
          have HX := Lib.hid hxs
          clear hxs
          go_wp2_with fail
          refine (szOne_any x r _ hrl HX.out).mono ?_
          rw [if_neg (by omega)]
          rintro e w1 ⟨rfl, hb1⟩
          go_wp2
          go_ret
          exact ⟨ret_int HN.out.symm, HBEL.out.trans (hb1.mono HBEL.out.size)⟩
        · have HX := Lib.hid hxs
          clear hxs
          go_wp2_with fail
          refine (szOne_any x r _ hrl HX.out).mono ?_
          rw [if_pos (by omega)]
          rintro e w1 ⟨rfl, hb1⟩
          go_wp2
          go_roundw
          case rel => exact ⟨i + 1, r - x.2.2.size, by omega, by go_num, by go_num, by have := ht.out; have := HR.out; omega, HBEL.out.trans (hb1.mono HBEL.out.size)⟩
          case measure => simp [intOf]; omega
      · have HN := Lib.hid (show budgetOf (datas xs) left = r by
          have h1 := HR.out
          have h2 := HL.out
          rw [List.take_of_length_le (by rw [datas_length]; omega)] at h1
          rw [budgetOf, if_pos (by rw [datas_length]; omega), datas_length]
          omega)
        go_wp2
        go_ret
        exact ⟨ret_int HN.out.symm, HBEL.out⟩

theorem put3 {w : World} {g : Nat} {a b c u v s : Value} {t : TypeId} (h : w.heap[g]? = some (.cells #[a, b, c] t (0, 0))) :
    (((w.setCell ⟨g, 0, none⟩ u).setCell ⟨g, 1, none⟩ v).setCell ⟨g, 2, none⟩ s).heap[g]? = some (.cells #[u, v, s] t (0, 0)) := by
  have h1 := heap_setCell_same w g 0 _ _ u h
  have h2 := heap_setCell_same _ g 1 _ _ v h1
  have h3 := heap_setCell_same _ g 2 _ _ s h2
  simpa using h3
theorem put2 {w : World} {g : Nat} {a b c v s : Value} {t : TypeId} (h : w.heap[g]? = some (.cells #[a, b, c] t (0, 0))) :
    ((w.setCell ⟨g, 1, none⟩ v).setCell ⟨g, 2, none⟩ s).heap[g]? = some (.cells #[a, v, s] t (0, 0)) := by
  have h2 := heap_setCell_same _ g 1 _ _ v h
  have h3 := heap_setCell_same _ g 2 _ _ s h2
  simpa using h3
theorem keep3 {w : World} {g k : Nat} {i : Nat} {v : Value} (hne : k ≠ g) : (w.setCell ⟨g, i, none⟩ v).heap[k]? = w.heap[k]? := heap_setCell_other w _ _ _ (by simpa using hne)
theorem free3 {w : World} {g : Nat} {a b c : Value} {t : TypeId} (h : w.heap[g]? = some (.cells #[a, b, c] t (0, 0))) : w.frozen? ⟨g, 0, none⟩ = false ∧ w.frozen? ⟨g, 1, none⟩ = false ∧ w.frozen? ⟨g, 2, none⟩ = false := ⟨Checksum.free_of h 0, Checksum.free_of h 1, Checksum.free_of h 2⟩
theorem cell3 {w : World} {g : Nat} {a b c : Value} {t : TypeId} (h : w.heap[g]? = some (.cells #[a, b, c] t (0, 0))) : w.cell? ⟨g, 0, none⟩ = some a ∧ w.cell? ⟨g, 1, none⟩ = some b ∧ w.cell? ⟨g, 2, none⟩ = some c := by
  refine ⟨?_, ?_, ?_⟩ <;> rw [Checksum.cell_of h] <;> rfl

set_option maxRecDepth 100000 in
set_option maxHeartbeats 800000 in
theorem toOne_any (x : St) (w : World) :
    Calls Try.prog 103 #[.agg #[.bool x.1, .int .i64 x.2.1, .string x.2.2]] w fun e w' => e = .returned (.agg #[.bool x.1, .int .i64 x.2.1, .string x.2.2]) ∧ Below w.heap.size w w' := by
  obtain ⟨f, n, s⟩ := x
  dsimp only
  have hA := Dk.blk_alloc (Dk.blk_alloc (blk_new w (.cells #[.bool f, .int .i64 n, .string s] 121)) (.cells #[.bool false, .int .i64 0, .string ⟨#[]⟩] 88)) (.cells #[.bool f, .int .i64 0, .string ⟨#[]⟩] 88)
  have hR := Dk.blk_alloc (blk_new (w.alloc (.cells #[.bool f, .int .i64 n, .string s] 121)) (.cells #[.bool false, .int .i64 0, .string ⟨#[]⟩] 88)) (.cells #[.bool f, .int .i64 0, .string ⟨#[]⟩] 88)
  have hV := blk_new ((w.alloc (.cells #[.bool f, .int .i64 n, .string s] 121)).alloc (.cells #[.bool false, .int .i64 0, .string ⟨#[]⟩] 88)) (.cells #[.bool f, .int .i64 0, .string ⟨#[]⟩] 88)
  have hB := (((Below.refl w.heap.size w).alloc (Nat.le_refl _) (.cells #[.bool f, .int .i64 n, .string s] 121)).alloc (by simp) (.cells #[.bool false, .int .i64 0, .string ⟨#[]⟩] 88)).alloc (by simp; omega) (.cells #[.bool f, .int .i64 0, .string ⟨#[]⟩] 88)
  have hsz : w.heap.size + 2 < (((w.alloc (.cells #[.bool f, .int .i64 n, .string s] 121)).alloc (.cells #[.bool false, .int .i64 0, .string ⟨#[]⟩] 88)).alloc (.cells #[.bool f, .int .i64 0, .string ⟨#[]⟩] 88)).heap.size := by simp
  simp only [World.size_alloc] at hR hV
  have HA := Lib.hid hA
  have HR := Lib.hid hR
  have HV := Lib.hid hV
  have HB := Lib.hid hB
  clear hA hR hV hB
  go_enter Try.func103, Try.ntmps103
  go_wp2_with fail
  generalize ((w.alloc (.cells #[.bool f, .int .i64 n, .string s] 121)).alloc (.cells #[.bool false, .int .i64 0, .string ⟨#[]⟩] 88)).alloc (.cells #[.bool f, .int .i64 0, .string ⟨#[]⟩] 88) = w0 at HA HR HV HB hsz ⊢
  refine (Wr.toOne_any (n, s) _).mono ?_
  rintro e w1 ⟨rfl, hb⟩
  have HR1 := Lib.hid (Dk.blk_of HR.out hb (by omega))
  have HV1 := Lib.hid (Dk.blk_of HV.out hb (by omega))
  have HB1 := Lib.hid (HB.out.trans (hb.mono HB.out.size))
  clear hb HA HR HV HB
  obtain ⟨f0, f1, f2⟩ := free3 HV1.out
  obtain ⟨c0, c1, c2⟩ := cell3 HV1.out
  obtain ⟨r0, r1, r2⟩ := free3 HR1.out
  obtain ⟨q0, q1, q2⟩ := cell3 HR1.out
  have hV2 := put2 (v := .int .i64 n) (s := .string s) HV1.out
  have hR2 := HR1.out
  rw [← keep3 (w := w1) (g := w.heap.size + 1 + 1) (i := 1) (v := .int .i64 n) (show w.heap.size + 1 ≠ w.heap.size + 1 + 1 by omega), ← keep3 (w := w1.setCell ⟨w.heap.size + 1 + 1, 1, none⟩ (.int .i64 n)) (g := w.heap.size + 1 + 1) (i := 2) (v := .string s) (show w.heap.size + 1 ≠ w.heap.size + 1 + 1 by omega)] at hR2
  have hF := put3 (u := .bool f) (v := .int .i64 n) (s := .string s) hR2
  have hB2 := ((((HB1.out.setCell (p := ⟨w.heap.size + 1 + 1, 1, none⟩) (by simp; omega) (.int .i64 n)).setCell (p := ⟨w.heap.size + 1 + 1, 2, none⟩) (by simp; omega) (.string s)).setCell (p := ⟨w.heap.size + 1, 0, none⟩) (by simp) (.bool f)).setCell (p := ⟨w.heap.size + 1, 1, none⟩) (by simp) (.int .i64 n)).setCell (p := ⟨w.heap.size + 1, 2, none⟩) (by simp) (.string s)
  have HF := Lib.hid hF
  have HB2 := Lib.hid hB2
  clear hV2 hR2 hF hB2
  go_wp2
  have hF := HF.out
  have hB2 := HB2.out
  generalize (((((w1.setCell ⟨w.heap.size + 1 + 1, 1, none⟩ (.int .i64 n)).setCell ⟨w.heap.size + 1 + 1, 2, none⟩ (.string s)).setCell ⟨w.heap.size + 1, 0, none⟩ (.bool f)).setCell ⟨w.heap.size + 1, 1, none⟩ (.int .i64 n)).setCell ⟨w.heap.size + 1, 2, none⟩ (.string s)) = w4 at hF hB2 ⊢
  obtain ⟨d0, d1, d2⟩ := cell3 hF
  exact bodyPost_ret (v := .agg #[.bool f, .int .i64 n, .string s]) (by simp [results, Try.results103, go_sem, d0, d1, d2]) rfl ⟨rfl, hB2⟩

theorem spInfo : (Try.prog.info? 88).map (fun i => (i.zero, i.size, i.bytes)) = some (some (.agg #[.bool false, .int .i64 0, .string ⟨#[]⟩]), 3, 32) := by kernel_rfl
theorem take_set3 (l : List Value) (i : Nat) (u v s : Value) (h : i * 3 + 2 < l.length) : (((l.set (i * 3) u).set (i * 3 + 1) v).set (i * 3 + 2) s).take ((i + 1) * 3) = l.take (i * 3) ++ [u, v, s] := by
  rw [show (i + 1) * 3 = i * 3 + 2 + 1 from by omega, List.take_succ_eq_append_getElem (by simpa using h), List.take_set_of_le (Nat.le_refl _), List.take_succ_eq_append_getElem (by simp; omega), List.take_set_of_le (Nat.le_refl _), List.take_succ_eq_append_getElem (by simp; omega), List.take_set_of_le (Nat.le_refl _)]
  simp

set_option maxRecDepth 100000 in
set_option maxHeartbeats 1600000 in
/-- A copy, in a row of the call's own. -/
theorem to_any (w : World) (v : Value) (xs : List St) (hlen : xs.length ≤ 1073741824) (h : Holds w v xs) :
    Calls Try.prog 46 #[v] w fun e w' => ∃ v', e = .returned v' ∧ w'.ownsRow w.heap.size 88 3 v' xs.length (scells xs) ∧ Below w.heap.size w w' := by
  obtain ⟨i0, hi, hz0, hz1, hz2⟩ := info_parts spInfo
  obtain ⟨a, cap, rfl, hc⟩ := h
  obtain ⟨L, hL⟩ : ∃ L, L = xs.length := ⟨_, rfl⟩
  have hcase : L = 0 ∨ ∃ b o, a = some ⟨b, o, none⟩ ∧ b < w.heap.size ∧ ∀ j, j < xs.length → Cell3 w b (o + j * 3) (xs.getD j s0) := by
    by_cases h0 : xs = []
    · left; rw [hL, h0]; rfl
    · right; exact hc h0
  rw [← hL] at hlen ⊢
  have HL := Lib.hid hL
  clear hL hc
  have hro : i0.bytes * L ≤ 281474976710656 := by rw [hz2]; omega
  have HRO := Lib.hid hro
  have HB := Lib.hid hz2
  clear hro hz2
  rcases hcase with rfl | ⟨b, o, rfl, hb, hcell⟩
  · go_enter Try.func46, Try.ntmps46
    go_wp2_with (at_make; refine wpList_make_full _ rfl _ _ 29 rfl w.heap.size 88 i0 (.agg #[.bool false, .int .i64 0, .string ⟨#[]⟩]) 3 Try.underlying29 hi hz0 hz1 .i64 .i64 _ _ 0 rfl rfl rfl rfl ?c1 ?c2 ?c3 ?_)
    case c1 => exact HRO.out
    case c2 => unfold maxLen; omega
    case c3 => exact Nat.le_refl _
    intro w1 hown1 hg1
    have HO1 := Lib.hid hown1
    have HB1 := Lib.hid (show Below w.heap.size w w1 from (Below.refl _ _).grown hg1 (Nat.le_refl _) (fun k hk => by cases hk))
    clear hown1 hg1
    go_wp2
    refine wp_loop_rounds 1 ?_
    rw [rounds_succ]
    go_wp2
    go_ret
    have hx : xs = [] := List.eq_nil_of_length_eq_zero HL.out.symm
    refine ⟨_, rfl, ?_, HB1.out⟩
    subst hx
    have := HO1.out
    simpa [madeCells, scells] using this
  · have HC := Lib.hid hcell
    clear hcell
    go_enter Try.func46, Try.ntmps46
    go_wp2_with (at_make; refine wpList_make_full _ rfl _ _ 29 rfl w.heap.size 88 i0 (.agg #[.bool false, .int .i64 0, .string ⟨#[]⟩]) 3 Try.underlying29 hi hz0 hz1 .i64 .i64 _ _ L rfl rfl rfl rfl ?c1 ?c2 ?c3 ?_)
    case c1 => exact HRO.out
    case c2 => unfold maxLen; omega
    case c3 => exact Nat.le_refl _
    intro w1 hown1 hg1
    have HO1 := Lib.hid hown1
    have HB1 := Lib.hid (show Below w.heap.size w w1 from (Below.refl _ _).grown hg1 (Nat.le_refl _) (fun k hk => by cases hk))
    clear hown1 hg1
    go_wp2
    go_loopw [4] (fun iv wr => ∃ (i : Nat) (l : List Value), i ≤ L ∧ iv = .int .i64 i ∧ wr.ownsRow w.heap.size 88 3 (.slice (some ⟨w.heap.size, 0, none⟩) L L) L l ∧ l.take (i * 3) = scells (xs.take i) ∧ Below w.heap.size w wr) (fun iv _ => L - (intOf iv).toNat)
    case atStart => exact ⟨0, _, Nat.zero_le _, rfl, HO1.out, rfl, HB1.out⟩
    case round =>
      obtain ⟨i, l, hi, rfl, hown, htake, hbel⟩ := hrel
      have HO := Lib.hid hown
      have HT := Lib.hid htake
      have HBEL := Lib.hid hbel
      clear hown htake hbel HO1 HB1
      by_cases hlt : i < L
      · have hlx : i < xs.length := by rw [← HL.out]; exact hlt
        have hll : i * 3 + 2 < l.length := by have := HO.out.1; omega
        have hc3 := (HC.out i hlx).below hb HBEL.out
        have hx : scells (xs.take (i + 1)) = scells (xs.take i) ++ scell (xs.getD i s0) := by
          rw [List.take_succ_eq_append_getElem hlx, scells_append]
          simp [List.getD, List.getElem?_eq_getElem hlx, scells]
        have HXX := Lib.hid hx
        clear hx
        generalize xs.getD i s0 = x at hc3 HXX
        obtain ⟨g1, g2, g3⟩ := hc3
        go_wp2_with fail
        refine (toOne_any x _).mono ?_
        rintro e w2 ⟨rfl, hb2⟩
        have HB2 := Lib.hid (HBEL.out.trans (hb2.mono HBEL.out.size))
        have hown := own_below HO.out hb2
        have hc := hown.cellAt (i * 3) (by omega)
        have hcc := hown.cellAt (i * 3 + 1) (by omega)
        have hccc := hown.cellAt (i * 3 + 2) (by omega)
        rw [List.getElem?_eq_getElem (by omega)] at hc
        rw [List.getElem?_eq_getElem (by omega)] at hcc
        rw [List.getElem?_eq_getElem hll] at hccc
        have hf := hown.frozenAt (i * 3)
        have hff := hown.frozenAt (i * 3 + 1)
        have hfff := hown.frozenAt (i * 3 + 2)
        have hst := ((hown.stored (i * 3) (.bool x.1)).1.stored (i * 3 + 1) (.int .i64 x.2.1)).1.stored (i * 3 + 2) (.string x.2.2)
        have hts := take_set3 l i (.bool x.1) (.int .i64 x.2.1) (.string x.2.2) hll
        rw [HT.out, show [Value.bool x.1, .int .i64 x.2.1, .string x.2.2] = scell x from rfl, ← HXX.out] at hts
        have HST := Lib.hid hst.1
        have HTS := Lib.hid hts
        clear hst hts hown g1 g2 g3 hb2
        generalize l[i * 3] = y at hc
        generalize l[i * 3 + 1] = yy at hcc
        generalize l[i * 3 + 2] = yyy at hccc
        go_wp2
        go_roundw
        case rel => exact ⟨i + 1, (((l.set (i * 3) (.bool x.1)).set (i * 3 + 1) (.int .i64 x.2.1)).set (i * 3 + 2) (.string x.2.2)), by omega, by go_num, HST.out, HTS.out, ((HB2.out.setCell (Nat.le_refl _) _).setCell (Nat.le_refl _) _).setCell (Nat.le_refl _) _⟩
        case measure => simp [intOf]; omega
      · obtain rfl : i = L := by omega
        go_wp2
        go_ret
        refine ⟨_, rfl, ?_, HBEL.out⟩
        have h1 := HT.out
        have h2 := HO.out.1
        rw [List.take_of_length_le (by omega), List.take_of_length_le (by rw [HL.out]; exact Nat.le_refl _)] at h1
        rw [← h1]; exact HO.out
end Go.Proofs.Ytgapjdkelkmdgaa.Sp
