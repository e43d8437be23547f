/- Contracts: the program's IsDisk and the model's say of every disk whether it keeps its limits. Conditions: the two lengths. -/
import Derived.Test.YtgapjdkelkmdgaaDkAt
namespace Go.Proofs.Ytgapjdkelkmdgaa.IsDisk
open Go.ChangeShapes Go.WideShapes Go.ChangeAt Go.RowKit
open Wr (Wt wcells datas d0)
open Dk (D Holds Ok Fits AtS AtW atS atW ret_bool not_ok blk_new blk_of blk_two blk_alloc)
set_option linter.unusedVariables false

theorem in_any (n lo hi : Int) (w : World) :
    Calls Try.prog 83 #[.int .i64 n, .int .i64 lo, .int .i64 hi] w fun e w' => e = .returned (.bool (decide (lo ≤ n ∧ n ≤ hi))) ∧ w = w' := by
  by_cases h1 : lo ≤ n
  · go_enter Try.func83, Try.ntmps83
    go_wp2
    go_ret
    exact ⟨ret_bool (decide_eq_decide.2 ⟨fun h => ⟨h1, h⟩, fun h => h.2⟩), rfl⟩
  · have hd : decide (lo ≤ n) = false := decide_eq_false h1
    go_enter Try.func83, Try.ntmps83
    go_wp2
    go_ret
    exact ⟨ret_bool (by simp [h1]), rfl⟩

set_option maxRecDepth 100000 in
set_option maxHeartbeats 800000 in
theorem spec_any (w : World) (vs vp : Value) (d : D) (h1 : d.1.length ≤ 1073741824) (h2 : d.2.length ≤ 1073741824) (h : Holds w vs vp d) :
    Calls Try.prog 82 #[.agg #[vs, vp]] w fun e w' => e = .returned (.bool (decide (Ok d))) ∧ Below w.heap.size w w' := by
  obtain ⟨a, ca, rfl, hA⟩ := atS h.1
  obtain ⟨b, cb, rfl, hB⟩ := atW h.2
  have HA := Lib.hid hA
  have HB := Lib.hid hB
  clear hA hB h
  obtain ⟨ss, ws⟩ := d
  dsimp only at HA HB h1 h2 ⊢
  obtain ⟨L, hL⟩ : ∃ L, L = ss.length := ⟨_, rfl⟩
  obtain ⟨M, hM⟩ : ∃ M, M = ws.length := ⟨_, rfl⟩
  have HOK := Lib.hid (show Ok (ss, ws) ↔ (L ≤ 400 ∧ M ≤ 400) ∧ (∀ i, i < L → (ss.getD i ⟨#[]⟩).size = 32) ∧ ∀ i, i < M → Fits L (ws.getD i d0) by rw [hL, hM]; rfl)
  rw [← hL] at h1 ⊢
  rw [← hM] at h2 ⊢
  have HL := Lib.hid hL
  have HM := Lib.hid hM
  clear hL hM
  go_enter Try.func82, Try.ntmps82
  go_wp2
  have hbox := blk_new w (.cells #[.slice a L ca, .slice b M cb] 26)
  have hb0 := (Below.refl w.heap.size w).alloc (Nat.le_refl _) (.cells #[.slice a L ca, .slice b M cb] 26)
  have hsz0 : (w.alloc (.cells #[.slice a L ca, .slice b M cb] 26)).heap.size = w.heap.size + 1 := by simp
  generalize w.alloc (.cells #[.slice a L ca, .slice b M cb] 26) = w0 at hbox hb0 hsz0 ⊢
  have HBOX := Lib.hid hbox
  have HB0 := Lib.hid hb0
  obtain ⟨x0, x1, _, _⟩ := blk_two hbox
  have HA0 := Lib.hid (HA.out.below hb0)
  have HBB0 := Lib.hid (HB.out.below hb0)
  clear hbox hb0 HA HB
  go_loop [10] (fun iv => ∃ i : Nat, i ≤ L ∧ iv = .int .i64 i ∧ ∀ j, j < i → (ss.getD j ⟨#[]⟩).size = 32) (fun iv => L - (intOf iv).toNat)
  case atStart => exact ⟨0, Nat.zero_le _, rfl, fun j hj => absurd hj (Nat.not_lt_zero _)⟩
  case round =>
    obtain ⟨i, hi, rfl, hgood⟩ := hrel
    have HG := Lib.hid hgood
    clear hgood
    by_cases hlt : i < L
    · obtain ⟨bs, os, rfl, hbs, hc⟩ := HA0.out i (by rw [← HL.out]; exact hlt)
      by_cases h32 : (ss.getD i ⟨#[]⟩).size = 32
      · have HGN := Lib.hid (show ∀ j, j < i + 1 → (ss.getD j ⟨#[]⟩).size = 32 from fun j hj => (by
          rcases Nat.lt_or_ge j i with hji | hji
          · exact HG.out j hji
          · rw [show j = i from by omega]; exact h32))
        generalize ss.getD i ⟨#[]⟩ = s at hc h32
        go_wp2
        go_round
        case rel => exact ⟨i + 1, by omega, by go_num, HGN.out⟩
        case measure => simp [intOf]; omega
      · have HN := Lib.hid (show decide (Ok (ss, ws)) = false from not_ok (fun hok => h32 ((HOK.out.1 hok).2.1 i hlt)))
        generalize ss.getD i ⟨#[]⟩ = s at hc h32
        have hd : decide (s.size = 32) = false := decide_eq_false h32
        go_wp2
        go_ret
        exact ⟨ret_bool HN.out.symm, HB0.out⟩
    · obtain rfl : i = L := by omega
      go_wp2
      go_loopw [21] (fun iv wr => ∃ k : Nat, k ≤ M ∧ iv = .int .i64 k ∧ (∀ j, j < k → Fits i (ws.getD j d0)) ∧ Below w0.heap.size w0 wr) (fun iv _ => M - (intOf iv).toNat)
      case atStart => exact ⟨0, Nat.zero_le _, rfl, fun j hj => absurd hj (Nat.not_lt_zero _), Below.refl _ _⟩
      case round =>
        obtain ⟨k, hk, rfl, hfit, hbel⟩ := hrel
        have HF := Lib.hid hfit
        have HBEL := Lib.hid hbel
        have hsz := hbel.size
        clear hfit hbel
        obtain ⟨y0, y1, _, _⟩ := blk_two (blk_of HBOX.out HBEL.out (by omega))
        have hlt0 : w.heap.size < wr.heap.size := by omega
        by_cases hkl : k < M
        · obtain ⟨bw, ow, rfl, hbw, hc1, hc2⟩ := HBB0.out k (by rw [← HM.out]; exact hkl)
          rw [← HBEL.out.cell (p := ⟨bw, _, none⟩) hbw] at hc1 hc2
          by_cases hx : 0 ≤ (ws.getD k d0).1 ∧ (ws.getD k d0).1 ≤ (i : Int) - 1
          · by_cases h32 : (ws.getD k d0).2.size = 32
            · have HFN := Lib.hid (show ∀ j, j < k + 1 → Fits i (ws.getD j d0) from fun j hj => (by
                rcases Nat.lt_or_ge j k with hji | hji
                · exact HF.out j hji
                · rw [show j = k from by omega]; exact ⟨⟨hx.1, by omega⟩, h32⟩))
              have hdx : decide (0 ≤ (ws.getD k d0).1 ∧ (ws.getD k d0).1 ≤ (i : Int) - 1) = true := decide_eq_true hx
              generalize ws.getD k d0 = x at hc1 hc2 h32 hdx
              clear hx
              go_wp2_with fail
              refine (in_any x.1 0 ((i : Int) - 1) _).mono ?_
              rw [hdx]
              rintro e w2 ⟨rfl, rfl⟩
              go_wp2
              go_roundw
              case rel => exact ⟨k + 1, by omega, by go_num, HFN.out, HBEL.out.alloc hsz _⟩
              case measure => simp [intOf]; omega
            · have HN := Lib.hid (show decide (Ok (ss, ws)) = false from not_ok (fun hok => h32 (((HOK.out.1 hok).2.2 k hkl).2)))
              have hdx : decide (0 ≤ (ws.getD k d0).1 ∧ (ws.getD k d0).1 ≤ (i : Int) - 1) = true := decide_eq_true hx
              generalize ws.getD k d0 = x at hc1 hc2 h32 hdx
              clear hx
              have hd : decide (x.2.size = 32) = false := decide_eq_false h32
              go_wp2_with fail
              refine (in_any x.1 0 ((i : Int) - 1) _).mono ?_
              rw [hdx]
              rintro e w2 ⟨rfl, rfl⟩
              go_wp2
              go_ret
              exact ⟨ret_bool HN.out.symm, HB0.out.trans ((HBEL.out.alloc hsz _).mono (by omega))⟩
          · have HN := Lib.hid (show decide (Ok (ss, ws)) = false from not_ok (fun hok => hx ⟨((HOK.out.1 hok).2.2 k hkl).1.1, by have := ((HOK.out.1 hok).2.2 k hkl).1.2; omega⟩))
            have hdx : decide (0 ≤ (ws.getD k d0).1 ∧ (ws.getD k d0).1 ≤ (i : Int) - 1) = false := decide_eq_false hx
            generalize ws.getD k d0 = x at hc1 hc2 hdx
            clear hx
            go_wp2_with fail
            refine (in_any x.1 0 ((i : Int) - 1) _).mono ?_
            rw [hdx]
            rintro e w2 ⟨rfl, rfl⟩
            go_wp2
            go_ret
            exact ⟨ret_bool HN.out.symm, HB0.out.trans ((HBEL.out.alloc hsz _).mono (by omega))⟩
        · obtain rfl : k = M := by omega
          have HY := Lib.hid (show decide (Ok (ss, ws)) = (decide (i ≤ 400) && decide (k ≤ 400)) by
            by_cases q1 : i ≤ 400 <;> by_cases q2 : k ≤ 400 <;> simp only [q1, q2, decide_true, decide_false, Bool.and_true, Bool.and_false]
            · exact decide_eq_true (HOK.out.2 ⟨⟨q1, q2⟩, HG.out, HF.out⟩)
            · exact not_ok (fun hok => q2 (HOK.out.1 hok).1.2)
            · exact not_ok (fun hok => q1 (HOK.out.1 hok).1.1)
            · exact not_ok (fun hok => q1 (HOK.out.1 hok).1.1))
          by_cases q1 : i ≤ 400
          · go_wp2
            go_ret
            exact ⟨ret_bool (by rw [HY.out, decide_eq_true q1, Bool.true_and]; exact decide_eq_decide.2 (by omega)), HB0.out.trans (HBEL.out.mono (by omega))⟩
          · have hd : decide (i ≤ 400) = false := decide_eq_false q1
            go_wp2
            go_ret
            exact ⟨ret_bool (by rw [HY.out, hd, Bool.false_and]), HB0.out.trans (HBEL.out.mono (by omega))⟩
set_option maxRecDepth 100000 in
theorem has_any (a : Option Addr) (L ca : Nat) (vp : Value) (n : Int) (w : World) (hL : L ≤ 1073741824) :
    Calls Try.prog 69 #[.agg #[.slice a L ca, vp], .int .i64 n] w fun e w' => e = .returned (.bool (decide (0 ≤ n ∧ n < L))) ∧ Below w.heap.size w w' := by
  by_cases h1 : 0 ≤ n
  · go_enter Try.func69, Try.ntmps69
    go_wp2
    go_ret
    exact ⟨ret_bool (decide_eq_decide.2 ⟨fun h => ⟨h1, h⟩, fun h => h.2⟩), (Below.refl w.heap.size w).alloc (Nat.le_refl _) _⟩
  · have hd : decide (0 ≤ n) = false := decide_eq_false h1
    go_enter Try.func69, Try.ntmps69
    go_wp2
    go_ret
    exact ⟨ret_bool (by first | rfl | exact (decide_eq_false (fun h => by have := h.1; omega)).symm), (Below.refl w.heap.size w).alloc (Nat.le_refl _) _⟩

set_option maxRecDepth 100000 in
set_option maxHeartbeats 400000 in
theorem fits_any (a : Option Addr) (L ca : Nat) (vp : Value) (x : Wt) (w : World) (hL : L ≤ 1073741824) :
    Calls Try.prog 62 #[.agg #[.slice a L ca, vp], .agg #[.int .i64 x.1, .string x.2]] w fun e w' => e = .returned (.bool (decide (Fits L x))) ∧ Below w.heap.size w w' := by
  have hb0 := ((Below.refl w.heap.size w).alloc (Nat.le_refl _) (.cells #[.slice a L ca, vp] 26)).alloc (by simp) (.cells #[.int .i64 x.1, .string x.2] 39)
  have HB0 := Lib.hid hb0
  have hbx := blk_new (w.alloc (.cells #[.slice a L ca, vp] 26)) (.cells #[.int .i64 x.1, .string x.2] 39)
  simp only [World.size_alloc] at hbx
  have HBX := Lib.hid hbx
  clear hb0 hbx
  by_cases h1 : 0 ≤ x.1 ∧ x.1 < L
  · have hdx : decide (0 ≤ x.1 ∧ x.1 < (L : Int)) = true := decide_eq_true h1
    go_enter Try.func62, Try.ntmps62
    go_wp2_with fail
    refine (has_any a L ca vp x.1 _ hL).mono ?_
    rw [hdx]
    rintro e w2 ⟨rfl, hb⟩
    obtain ⟨z0, z1, _, _⟩ := blk_two (blk_of HBX.out hb (by simp))
    clear hdx
    by_cases h32 : x.2.size = 32
    · have HD := Lib.hid (show decide (Fits L x) = true from decide_eq_true ⟨h1, h32⟩)
      clear h1
      go_wp2
      go_ret
      exact ⟨ret_bool HD.out.symm, HB0.out.trans (hb.mono HB0.out.size)⟩
    · have HD := Lib.hid (show decide (Fits L x) = false from decide_eq_false (fun h => h32 h.2))
      clear h1
      go_wp2
      go_ret
      exact ⟨ret_bool (by rw [HD.out]; exact beq_false_of_ne (by omega)), HB0.out.trans (hb.mono HB0.out.size)⟩
  · have hdx : decide (0 ≤ x.1 ∧ x.1 < (L : Int)) = false := decide_eq_false h1
    have HD := Lib.hid (show decide (Fits L x) = false from decide_eq_false (fun h => h1 h.1))
    go_enter Try.func62, Try.ntmps62
    go_wp2_with fail
    refine (has_any a L ca vp x.1 _ hL).mono ?_
    rw [hdx]
    rintro e w2 ⟨rfl, hb⟩
    go_wp2
    go_ret
    exact ⟨ret_bool HD.out.symm, HB0.out.trans (hb.mono HB0.out.size)⟩

set_option maxRecDepth 100000 in
set_option maxHeartbeats 800000 in
theorem impl_any (w : World) (vs vp : Value) (d : D) (h1 : d.1.length ≤ 1073741824) (h2 : d.2.length ≤ 1073741824) (h : Holds w vs vp d) :
    Calls Try.prog 59 #[.agg #[vs, vp]] w fun e w' => e = .returned (.bool (decide (Ok d))) ∧ Below w.heap.size w w' := by
  obtain ⟨a, ca, rfl, hA⟩ := atS h.1
  obtain ⟨b, cb, rfl, hB⟩ := atW h.2
  have HA := Lib.hid hA
  have HB := Lib.hid hB
  clear hA hB h
  obtain ⟨ss, ws⟩ := d
  dsimp only at HA HB h1 h2 ⊢
  obtain ⟨L, hL⟩ : ∃ L, L = ss.length := ⟨_, rfl⟩
  obtain ⟨M, hM⟩ : ∃ M, M = ws.length := ⟨_, rfl⟩
  have HOK := Lib.hid (show Ok (ss, ws) ↔ (L ≤ 400 ∧ M ≤ 400) ∧ (∀ i, i < L → (ss.getD i ⟨#[]⟩).size = 32) ∧ ∀ i, i < M → Fits L (ws.getD i d0) by rw [hL, hM]; rfl)
  rw [← hL] at h1 ⊢
  rw [← hM] at h2 ⊢
  have HL := Lib.hid hL
  have HM := Lib.hid hM
  clear hL hM
  have hbox := blk_new w (.cells #[.slice a L ca, .slice b M cb] 26)
  have hb0 := (Below.refl w.heap.size w).alloc (Nat.le_refl _) (.cells #[.slice a L ca, .slice b M cb] 26)
  have HBOX := Lib.hid hbox
  have HB0 := Lib.hid hb0
  clear hbox hb0
  by_cases hl4 : 400 < L
  · have HN := Lib.hid (show decide (Ok (ss, ws)) = false from not_ok (fun hok => by have := (HOK.out.1 hok).1.1; omega))
    go_enter Try.func59, Try.ntmps59
    go_wp2
    go_ret
    exact ⟨ret_bool HN.out.symm, HB0.out⟩
  by_cases hm4 : 400 < M
  · have HN := Lib.hid (show decide (Ok (ss, ws)) = false from not_ok (fun hok => by have := (HOK.out.1 hok).1.2; omega))
    go_enter Try.func59, Try.ntmps59
    go_wp2
    go_ret
    exact ⟨ret_bool HN.out.symm, HB0.out⟩
  go_enter Try.func59, Try.ntmps59
  go_wp2
  have hsz0 : (w.alloc (.cells #[.slice a L ca, .slice b M cb] 26)).heap.size = w.heap.size + 1 := by simp
  have HA0 := Lib.hid (HA.out.below HB0.out)
  have HBB0 := Lib.hid (HB.out.below HB0.out)
  generalize w.alloc (.cells #[.slice a L ca, .slice b M cb] 26) = w0 at HBOX HB0 hsz0 HA0 HBB0 ⊢
  obtain ⟨x0, x1, _, _⟩ := blk_two HBOX.out
  clear HA HB
  go_loop [20] (fun iv => ∃ i : Nat, i ≤ L ∧ iv = .int .i64 i ∧ ∀ j, j < i → (ss.getD j ⟨#[]⟩).size = 32) (fun iv => L - (intOf iv).toNat)
  case atStart => exact ⟨0, Nat.zero_le _, rfl, fun j hj => absurd hj (Nat.not_lt_zero _)⟩
  case round =>
    obtain ⟨i, hi, rfl, hgood⟩ := hrel
    have HG := Lib.hid hgood
    clear hgood
    by_cases hlt : i < L
    · obtain ⟨bs, os, rfl, hbs, hc⟩ := HA0.out i (by rw [← HL.out]; exact hlt)
      by_cases h32 : (ss.getD i ⟨#[]⟩).size = 32
      · have HGN := Lib.hid (show ∀ j, j < i + 1 → (ss.getD j ⟨#[]⟩).size = 32 from fun j hj => (by
          rcases Nat.lt_or_ge j i with hji | hji
          · exact HG.out j hji
          · rw [show j = i from by omega]; exact h32))
        generalize ss.getD i ⟨#[]⟩ = s at hc h32
        go_wp2
        go_round
        case rel => exact ⟨i + 1, by omega, by go_num, HGN.out⟩
        case measure => simp [intOf]; omega
      · have HN := Lib.hid (show decide (Ok (ss, ws)) = false from not_ok (fun hok => h32 ((HOK.out.1 hok).2.1 i hlt)))
        generalize ss.getD i ⟨#[]⟩ = s at hc h32
        have hd : decide (s.size = 32) = false := decide_eq_false h32
        go_wp2
        go_ret
        exact ⟨ret_bool HN.out.symm, HB0.out⟩
    · obtain rfl : i = L := by omega
      go_wp2
      go_loopw [31] (fun iv wr => ∃ k : Nat, k ≤ M ∧ iv = .int .i64 k ∧ (∀ j, j < k → Fits i (ws.getD j d0)) ∧ Below w0.heap.size w0 wr) (fun iv _ => M - (intOf iv).toNat)
      case atStart => exact ⟨0, Nat.zero_le _, rfl, fun j hj => absurd hj (Nat.not_lt_zero _), Below.refl _ _⟩
      case round =>
        obtain ⟨k, hk, rfl, hfit, hbel⟩ := hrel
        have HF := Lib.hid hfit
        have HBEL := Lib.hid hbel
        have hsz := hbel.size
        clear hfit hbel
        obtain ⟨y0, y1, _, _⟩ := blk_two (blk_of HBOX.out HBEL.out (by omega))
        have hlt0 : w.heap.size < wr.heap.size := by omega
        by_cases hkl : k < M
        · obtain ⟨bw, ow, rfl, hbw, hc1, hc2⟩ := HBB0.out k (by rw [← HM.out]; exact hkl)
          rw [← HBEL.out.cell (p := ⟨bw, _, none⟩) hbw] at hc1 hc2
          by_cases hx : Fits i (ws.getD k d0)
          · have HFN := Lib.hid (show ∀ j, j < k + 1 → Fits i (ws.getD j d0) from fun j hj => (by
              rcases Nat.lt_or_ge j k with hji | hji
              · exact HF.out j hji
              · rw [show j = k from by omega]; exact hx))
            have hdx : decide (Fits i (ws.getD k d0)) = true := decide_eq_true hx
            generalize ws.getD k d0 = x at hc1 hc2 hdx
            clear hx
            go_wp2_with fail
            refine (fits_any _ i _ _ x _ h1).mono ?_
            rw [hdx]
            rintro e w2 ⟨rfl, hb2⟩
            have HB2 := Lib.hid ((HBEL.out.alloc hsz (.cells #[.int .i64 x.1, .string x.2] 39)).trans (hb2.mono (by simp; omega)))
            clear hb2 hdx
            go_wp2
            go_roundw
            case rel => exact ⟨k + 1, by omega, by go_num, HFN.out, HB2.out⟩
            case measure => simp [intOf]; omega
          · have HN := Lib.hid (show decide (Ok (ss, ws)) = false from not_ok (fun hok => hx ((HOK.out.1 hok).2.2 k hkl)))
            have hdx : decide (Fits i (ws.getD k d0)) = false := decide_eq_false hx
            generalize ws.getD k d0 = x at hc1 hc2 hdx
            clear hx
            go_wp2_with fail
            refine (fits_any _ i _ _ x _ h1).mono ?_
            rw [hdx]
            rintro e w2 ⟨rfl, hb2⟩
            have HB2 := Lib.hid ((HBEL.out.alloc hsz (.cells #[.int .i64 x.1, .string x.2] 39)).trans (hb2.mono (by simp; omega)))
            clear hb2 hdx
            go_wp2
            go_ret
            exact ⟨ret_bool HN.out.symm, HB0.out.trans (HB2.out.mono (by omega))⟩
        · obtain rfl : k = M := by omega
          have HY := Lib.hid (show decide (Ok (ss, ws)) = true from decide_eq_true (HOK.out.2 ⟨⟨by omega, by omega⟩, HG.out, HF.out⟩))
          go_wp2
          go_ret
          exact ⟨ret_bool HY.out.symm, HB0.out.trans (HBEL.out.mono (by omega))⟩
end Go.Proofs.Ytgapjdkelkmdgaa.IsDisk
