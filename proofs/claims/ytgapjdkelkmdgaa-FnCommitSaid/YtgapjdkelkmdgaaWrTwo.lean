/- Contracts of the law's own helpers over slices of writes: their size, a copy of one. Conditions: as each theorem types them. -/
import Derived.Test.YtgapjdkelkmdgaaWr
namespace Go.Proofs.Ytgapjdkelkmdgaa.Wr
open Go.ChangeShapes Go.WideShapes Go.ChangeAt Go.RowKit
open Strs (own_below ret_int budgetOf total total_take_succ total_take_le take_set_succ)
set_option linter.unusedVariables false

/-- The data of the writes. -/
def datas (ws : List Wt) : List ByteArray := ws.map (·.2)
theorem datas_length (ws : List Wt) : (datas ws).length = ws.length := by simp [datas]
theorem datas_getD (ws : List Wt) (k : Nat) (h : k < ws.length) : (datas ws).getD k ⟨#[]⟩ = (ws.getD k d0).2 := by
  simp [datas, List.getD, List.getElem?_eq_getElem h]

set_option maxRecDepth 100000 in
theorem szOne_any (x : Wt) (r : Nat) (w : World) (hr : r ≤ 1073741824) (hx : x.2.size ≤ maxLen) :
    Calls Try.prog 81 #[.agg #[.int .i64 x.1, .string x.2], .int .i64 r] w fun e w' => e = .returned (.int .i64 (if x.2.size ≤ r then ((r - x.2.size : Nat) : Int) else -1)) ∧ Below w.heap.size w w' := by
  obtain ⟨n, s⟩ := x
  dsimp only at hx ⊢
  unfold maxLen at hx
  by_cases h : s.size ≤ r
  · rw [if_pos h]
    go_enter Try.func81, Try.ntmps81
    go_wp2
    go_ret
    exact ⟨ret_int (by omega), (Below.refl w.heap.size w).alloc (Nat.le_refl _) _⟩
  · rw [if_neg h]
    go_enter Try.func81, Try.ntmps81
    go_wp2
    go_ret
    exact ⟨rfl, (Below.refl w.heap.size w).alloc (Nat.le_refl _) _⟩

set_option maxRecDepth 100000 in
set_option maxHeartbeats 800000 in
theorem sz_any (w : World) (v : Value) (xs : List Wt) (left : Nat) (hleft : left ≤ 1073741824) (hlen : xs.length ≤ maxLen) (hsz : ∀ x ∈ xs, x.2.size ≤ maxLen) (h : Holds w v xs) :
    Calls Try.prog 28 #[v, .int .i64 left] w fun e w' => e = .returned (.int .i64 (budgetOf (datas xs) left)) ∧ Below w.heap.size w w' := by
  unfold maxLen at hlen
  obtain ⟨a, cap, rfl, hc⟩ := h
  by_cases hlt0 : left < xs.length
  · have HR := Lib.hid (show budgetOf (datas xs) left = -1 by rw [budgetOf, if_neg (by rw [datas_length]; omega)])
    clear hc hsz
    generalize xs.length = L at hlt0 hlen ⊢
    go_enter Try.func28, Try.ntmps28
    go_wp2
    go_ret
    exact ⟨ret_int HR.out.symm, Below.refl _ _⟩
  by_cases h0 : xs = []
  · subst h0
    simp only [List.length_nil]
    have HR := Lib.hid (show budgetOf (datas []) left = left by simp [budgetOf, total, datas])
    clear hc hsz hlt0 hlen
    go_enter Try.func28, Try.ntmps28
    go_wp2
    refine wp_loop_rounds 1 ?_
    rw [rounds_succ]
    go_wp2
    go_ret
    exact ⟨ret_int (by rw [HR.out]), Below.refl _ _⟩
  · obtain ⟨b, o, rfl, hb, hcell⟩ := hc h0
    have HC := Lib.hid hcell
    have HSZ := Lib.hid hsz
    have HTL := Lib.hid (total_take_le (datas xs))
    have hLE : xs.length ≤ left := by omega
    obtain ⟨L, hL⟩ : ∃ L, L = xs.length := ⟨_, rfl⟩
    rw [← hL] at hLE hlen ⊢
    have HL := Lib.hid hL
    clear hL hc hcell hsz h0 hlt0
    go_enter Try.func28, Try.ntmps28
    go_wp2
    go_loopw [1, 5] (fun lv iv wr => ∃ i r : Nat, i ≤ L ∧ iv = .int .i64 i ∧ lv = .int .i64 r ∧ r + L + total ((datas xs).take i) = left ∧ Below w.heap.size w wr) (fun _ iv _ => L - (intOf iv).toNat)
    case atStart => exact ⟨0, left - L, Nat.zero_le _, rfl, by go_num, by simp [total]; omega, Below.refl _ _⟩
    case round =>
      obtain ⟨i, r, hi, rfl, rfl, hr, hbel⟩ := hrel
      have HR := Lib.hid hr
      have HBEL := Lib.hid hbel
      have hrl : r ≤ 1073741824 := by omega
      clear hr hbel
      by_cases hlt : i < L
      · have hlx : i < xs.length := by rw [← HL.out]; exact hlt
        obtain ⟨g1, g2⟩ := HC.out i hlx
        rw [← HBEL.out.cell (p := ⟨b, _, none⟩) hb] at g1 g2
        have ht := Lib.hid (total_take_succ (datas xs) i (by rw [datas_length]; exact hlx))
        rw [datas_getD xs i hlx] at ht
        have hts := HTL.out (i + 1)
        have HTS := Lib.hid hts
        clear hts
        have hxs : (xs.getD i d0).2.size ≤ maxLen := by
          refine HSZ.out _ ?_
          rw [List.getD_eq_getElem?_getD, List.getElem?_eq_getElem hlx]
          exact List.getElem_mem _
        generalize xs.getD i d0 = x at g1 g2 ht hxs
        by_cases hneg : r < x.2.size
        · have HN := Lib.hid (show budgetOf (datas xs) left = -1 by
            rw [budgetOf, if_neg]
            have := ht.out; have := HTS.out; have := HR.out; have := HL.out
            rw [datas_length]
            omega)
          have HX := Lib.hid hxs
          clear hxs
          go_wp2_with fail
          refine (szOne_any x r _ hrl HX.out).mono ?_
          rw [if_neg (by omega)]
          rintro e w1 ⟨rfl, hb1⟩
          go_wp2
          go_ret
          exact ⟨ret_int HN.out.symm, HBEL.out.trans (hb1.mono HBEL.out.size)⟩
        · have HX := Lib.hid hxs
          clear hxs
          go_wp2_with fail
          refine (szOne_any x r _ hrl HX.out).mono ?_
          rw [if_pos (by omega)]
          rintro e w1 ⟨rfl, hb1⟩
          go_wp2
          go_roundw
          case rel => exact ⟨i + 1, r - x.2.size, by omega, by go_num, by go_num, by have := ht.out; have := HR.out; omega, HBEL.out.trans (hb1.mono HBEL.out.size)⟩
          case measure => simp [intOf]; omega
      · have HN := Lib.hid (show budgetOf (datas xs) left = r by
          have h1 := HR.out
          have h2 := HL.out
          rw [List.take_of_length_le (by rw [datas_length]; omega)] at h1
          rw [budgetOf, if_pos (by rw [datas_length]; omega), datas_length]
          omega)
        go_wp2
        go_ret
        exact ⟨ret_int HN.out.symm, HBEL.out⟩

set_option maxRecDepth 100000 in
set_option maxHeartbeats 400000 in
theorem toOne_any (x : Wt) (w : World) :
    Calls Try.prog 85 #[.agg #[.int .i64 x.1, .string x.2]] w fun e w' => e = .returned (.agg #[.int .i64 x.1, .string x.2]) ∧ Below w.heap.size w w' := by
  obtain ⟨n, s⟩ := x
  dsimp only
  go_enter Try.func85, Try.ntmps85
  go_wp2
  refine bodyPost_ret (v := .agg #[.int .i64 n, .string s]) (by simp [results, Try.results85, go_sem]) rfl ⟨rfl, ?_⟩
  exact (((Below.refl w.heap.size w).alloc (Nat.le_refl _) _).alloc (by simp) _).alloc (by simp; omega) _

theorem wrInfo : (Try.prog.info? 39).map (fun i => (i.zero, i.size, i.bytes)) = some (some (.agg #[.int .i64 0, .string ⟨#[]⟩]), 2, 24) := by kernel_rfl
theorem wcells_take (ws : List Wt) (k : Nat) : wcells (ws.take k) = (wcells ws).take (k * 2) := by
  induction ws generalizing k with
  | nil => simp [wcells]
  | cons a l ih =>
    cases k with
    | zero => simp [wcells]
    | succ k =>
      rw [List.take_succ_cons, show wcells (a :: l.take k) = wcell a ++ wcells (l.take k) from rfl, ih, show wcells (a :: l) = wcell a ++ wcells l from rfl, show (k + 1) * 2 = k * 2 + 1 + 1 from by omega]
      simp [wcell]
theorem take_set2 (l : List Value) (i : Nat) (u v : Value) (h : i * 2 + 1 < l.length) : ((l.set (i * 2) u).set (i * 2 + 1) v).take ((i + 1) * 2) = l.take (i * 2) ++ [u, v] := by
  rw [show (i + 1) * 2 = i * 2 + 1 + 1 from by omega, List.take_succ_eq_append_getElem (by simpa using h), List.take_set_of_le (Nat.le_refl _), List.take_succ_eq_append_getElem (by simp; omega), List.take_set_of_le (Nat.le_refl _)]
  simp

set_option maxRecDepth 100000 in
set_option maxHeartbeats 800000 in
/-- A copy, in a row of the call's own. -/
theorem to_any (w : World) (v : Value) (xs : List Wt) (hlen : xs.length ≤ 1073741824) (h : Holds w v xs) :
    Calls Try.prog 31 #[v] w fun e w' => ∃ v', e = .returned v' ∧ w'.ownsRow w.heap.size 39 2 v' xs.length (wcells xs) ∧ Below w.heap.size w w' := by
  obtain ⟨i0, hi, hz0, hz1, hz2⟩ := info_parts wrInfo
  obtain ⟨a, cap, rfl, hc⟩ := h
  obtain ⟨L, hL⟩ : ∃ L, L = xs.length := ⟨_, rfl⟩
  have hcase : L = 0 ∨ ∃ b o, a = some ⟨b, o, none⟩ ∧ b < w.heap.size ∧ ∀ j, j < xs.length → w.cell? ⟨b, o + j * 2, none⟩ = some (.int .i64 (xs.getD j d0).1) ∧ w.cell? ⟨b, o + j * 2 + 1, none⟩ = some (.string (xs.getD j d0).2) := by
    by_cases h0 : xs = []
    · left; rw [hL, h0]; rfl
    · right; exact hc h0
  rw [← hL] at hlen ⊢
  have HL := Lib.hid hL
  clear hL hc
  have hro : i0.bytes * L ≤ 281474976710656 := by rw [hz2]; omega
  have HRO := Lib.hid hro
  have HB := Lib.hid hz2
  clear hro hz2
  rcases hcase with rfl | ⟨b, o, rfl, hb, hcell⟩
  · go_enter Try.func31, Try.ntmps31
    go_wp2_with (at_make; refine wpList_make_full _ rfl _ _ 24 rfl w.heap.size 39 i0 (.agg #[.int .i64 0, .string ⟨#[]⟩]) 2 Try.underlying24 hi hz0 hz1 .i64 .i64 _ _ 0 rfl rfl rfl rfl ?c1 ?c2 ?c3 ?_)
    case c1 => exact HRO.out
    case c2 => unfold maxLen; omega
    case c3 => exact Nat.le_refl _
    intro w1 hown1 hg1
    have HO1 := Lib.hid hown1
    have HB1 := Lib.hid (show Below w.heap.size w w1 from (Below.refl _ _).grown hg1 (Nat.le_refl _) (fun k hk => by cases hk))
    clear hown1 hg1
    go_wp2
    refine wp_loop_rounds 1 ?_
    rw [rounds_succ]
    go_wp2
    go_ret
    have hx : xs = [] := List.eq_nil_of_length_eq_zero HL.out.symm
    refine ⟨_, rfl, ?_, HB1.out⟩
    subst hx
    have := HO1.out
    simpa [madeCells, wcells] using this
  · have HC := Lib.hid hcell
    clear hcell
    go_enter Try.func31, Try.ntmps31
    go_wp2_with (at_make; refine wpList_make_full _ rfl _ _ 24 rfl w.heap.size 39 i0 (.agg #[.int .i64 0, .string ⟨#[]⟩]) 2 Try.underlying24 hi hz0 hz1 .i64 .i64 _ _ L rfl rfl rfl rfl ?c1 ?c2 ?c3 ?_)
    case c1 => exact HRO.out
    case c2 => unfold maxLen; omega
    case c3 => exact Nat.le_refl _
    intro w1 hown1 hg1
    have HO1 := Lib.hid hown1
    have HB1 := Lib.hid (show Below w.heap.size w w1 from (Below.refl _ _).grown hg1 (Nat.le_refl _) (fun k hk => by cases hk))
    clear hown1 hg1
    go_wp2
    go_loopw [4] (fun iv wr => ∃ (i : Nat) (l : List Value), i ≤ L ∧ iv = .int .i64 i ∧ wr.ownsRow w.heap.size 39 2 (.slice (some ⟨w.heap.size, 0, none⟩) L L) L l ∧ l.take (i * 2) = wcells (xs.take i) ∧ Below w.heap.size w wr) (fun iv _ => L - (intOf iv).toNat)
    case atStart => exact ⟨0, _, Nat.zero_le _, rfl, HO1.out, rfl, HB1.out⟩
    case round =>
      obtain ⟨i, l, hi, rfl, hown, htake, hbel⟩ := hrel
      have HO := Lib.hid hown
      have HT := Lib.hid htake
      have HBEL := Lib.hid hbel
      clear hown htake hbel HO1 HB1
      by_cases hlt : i < L
      · have hlx : i < xs.length := by rw [← HL.out]; exact hlt
        have hll : i * 2 + 1 < l.length := by have := HO.out.1; omega
        obtain ⟨g1, g2⟩ := HC.out i hlx
        rw [← HBEL.out.cell (p := ⟨b, _, none⟩) hb] at g1 g2
        have hx : wcells (xs.take (i + 1)) = wcells (xs.take i) ++ wcell (xs.getD i d0) := by
          rw [List.take_succ_eq_append_getElem hlx, wcells_append]
          simp [List.getD, List.getElem?_eq_getElem hlx, wcells]
        have HXX := Lib.hid hx
        clear hx
        generalize xs.getD i d0 = x at g1 g2 HXX
        go_wp2_with fail
        refine (toOne_any x _).mono ?_
        rintro e w2 ⟨rfl, hb2⟩
        have HB2 := Lib.hid (HBEL.out.trans (hb2.mono HBEL.out.size))
        have hown := own_below HO.out hb2
        have hc := hown.cellAt (i * 2) (by omega)
        have hcc := hown.cellAt (i * 2 + 1) (by omega)
        rw [List.getElem?_eq_getElem (by omega)] at hc
        rw [List.getElem?_eq_getElem hll] at hcc
        have hf := hown.frozenAt (i * 2)
        have hff := hown.frozenAt (i * 2 + 1)
        have hst := (hown.stored (i * 2) (.int .i64 x.1)).1.stored (i * 2 + 1) (.string x.2)
        have hts := take_set2 l i (.int .i64 x.1) (.string x.2) hll
        rw [HT.out, show [Value.int .i64 x.1, .string x.2] = wcell x from rfl, ← HXX.out] at hts
        have HST := Lib.hid hst.1
        have HTS := Lib.hid hts
        clear hst hts hown g1 g2 hb2
        generalize l[i * 2] = y at hc
        generalize l[i * 2 + 1] = yy at hcc
        go_wp2
        go_roundw
        case rel => exact ⟨i + 1, ((l.set (i * 2) (.int .i64 x.1)).set (i * 2 + 1) (.string x.2)), by omega, by go_num, HST.out, HTS.out, (HB2.out.setCell (Nat.le_refl _) _).setCell (Nat.le_refl _) _⟩
        case measure => simp [intOf]; omega
      · obtain rfl : i = L := by omega
        go_wp2
        go_ret
        refine ⟨_, rfl, ?_, HBEL.out⟩
        have h1 := HT.out
        have h2 := HO.out.1
        rw [List.take_of_length_le (by omega), List.take_of_length_le (by rw [HL.out]; exact Nat.le_refl _)] at h1
        rw [← h1]; exact HO.out
end Go.Proofs.Ytgapjdkelkmdgaa.Wr
