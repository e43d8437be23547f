/- Contracts: the program's IsTxn and the model's say of every disk and every list of writes whether the list is a transaction of the disk. Conditions: the three lengths. -/
import Derived.Test.YtgapjdkelkmdgaaTxnV
namespace Go.Proofs.Ytgapjdkelkmdgaa.IsTxn
open Go.ChangeShapes Go.WideShapes Go.ChangeAt Go.RowKit
open Wr (Wt d0)
open Dk (D Holds Ok Fits AtS AtW atS atW ret_bool blk_new blk_of blk_two)
open Txn (Okay OkAt)
set_option linter.unusedVariables false

theorem len_any (n : Nat) (w : World) (hn : n ≤ 1073741824) :
    Calls Try.prog 60 #[.int .i64 n] w fun e w' => e = .returned (.bool (decide (1 ≤ n ∧ n ≤ 64))) ∧ w = w' := by
  by_cases h1 : 1 ≤ n
  · go_enter Try.func60, Try.ntmps60
    go_wp2
    go_ret
    exact ⟨ret_bool (decide_eq_decide.2 (by omega)), rfl⟩
  · have hd : decide ((1 : Int) ≤ (n : Int)) = false := decide_eq_false (by omega)
    go_enter Try.func60, Try.ntmps60
    go_wp2
    go_ret
    exact ⟨ret_bool (by simp [h1]), rfl⟩
theorem inj_any (n : Int) (w : World) :
    Calls Try.prog 61 #[.int .i64 n] w fun e w' => e = .returned (.bool (decide (1 ≤ n ∧ n < 70))) ∧ w = w' := by
  by_cases h1 : 1 ≤ n
  · go_enter Try.func61, Try.ntmps61
    go_wp2
    go_ret
    exact ⟨ret_bool (decide_eq_decide.2 ⟨fun h => ⟨h1, h⟩, fun h => h.2⟩), rfl⟩
  · have hd : decide (1 ≤ n) = false := decide_eq_false h1
    go_enter Try.func61, Try.ntmps61
    go_wp2
    go_ret
    exact ⟨ret_bool (by simp [h1]), rfl⟩

theorem not_okay {d : D} {l : List Wt} (h : ¬ Okay d l) : decide (Okay d l) = false := decide_eq_false h
/-- The sector before place i, -1 at the front. -/
def lastOf (l : List Wt) (i : Nat) : Int := if i = 0 then -1 else (l.getD (i - 1) d0).1
theorem okAt_of {L i : Nat} {l : List Wt} (h1 : lastOf l i < (l.getD i d0).1) (h2 : ¬ (1 ≤ (l.getD i d0).1 ∧ (l.getD i d0).1 < 70)) (h3 : Fits L (l.getD i d0)) : OkAt L l i := by
  refine ⟨h3, h2, fun hi => ?_⟩
  unfold lastOf at h1
  rwa [if_neg (by omega)] at h1
theorem okAt_last {L i : Nat} {l : List Wt} (h : OkAt L l i) : lastOf l i < (l.getD i d0).1 := by
  unfold lastOf
  split
  · have := h.1.1.1; omega
  · exact h.2.2 (by omega)
theorem all_snoc {P : Nat → Prop} {i : Nat} (h : ∀ k, k < i → P k) (hi : P i) : ∀ k, k < i + 1 → P k := fun k hk => by
  rcases Nat.lt_or_ge k i with hji | hji
  · exact h k hji
  · rw [show k = i from by omega]; exact hi

set_option maxRecDepth 100000 in
set_option maxHeartbeats 1600000 in
theorem impl_any (w : World) (vs vp lv : Value) (d : D) (l : List Wt) (h1 : d.1.length ≤ 1073741824) (h2 : d.2.length ≤ 1073741824) (h3 : l.length ≤ 1073741824) (h : Holds w vs vp d) (hl : Wr.Holds w lv l) :
    Calls Try.prog 16 #[.agg #[vs, vp], lv] w fun e w' => e = .returned (.bool (decide (Okay d l))) ∧ Below w.heap.size w w' := by
  have H := Lib.hid h
  obtain ⟨a, ca, rfl, _⟩ := atS h.1
  obtain ⟨b, cb, rfl, _⟩ := atW h.2
  obtain ⟨c, cc, rfl, hc⟩ := atW hl
  clear h hl
  have HC := Lib.hid hc
  clear hc
  obtain ⟨L, hL⟩ : ∃ L, L = d.1.length := ⟨_, rfl⟩
  obtain ⟨N, hN⟩ : ∃ N, N = l.length := ⟨_, rfl⟩
  have hLb : L ≤ 1073741824 := by omega
  rw [← hL] at H ⊢
  rw [← hN] at h3 ⊢
  have HL := Lib.hid hL
  have HN := Lib.hid hN
  clear hL hN
  obtain ⟨M, hM⟩ : ∃ M, M = d.2.length := ⟨_, rfl⟩
  rw [← hM] at H ⊢
  clear hM
  have hbox := blk_new w (.cells #[.slice a L ca, .slice b M cb] 26)
  have hb0 := (Below.refl w.heap.size w).alloc (Nat.le_refl _) (.cells #[.slice a L ca, .slice b M cb] 26)
  have hsz0 : w.heap.size < (w.alloc (.cells #[.slice a L ca, .slice b M cb] 26)).heap.size := by simp
  have HBOX := Lib.hid hbox
  have HB0 := Lib.hid hb0
  clear hb0
  by_cases hok : Ok d
  · have HD := Lib.hid (show decide (Ok d) = true from decide_eq_true hok)
    have hl4 : L ≤ 400 := by have := hok.1.1; have := HL.out; omega
    obtain ⟨x0, x1, _, _⟩ := blk_two hbox
    clear hbox
    go_enter Try.func16, Try.ntmps16
    go_wp2_with fail
    generalize hw0 : w.alloc (.cells #[.slice a L ca, .slice b M cb] 26) = w0 at x0 x1 HBOX HB0 hsz0 ⊢
    clear hw0
    refine (IsDisk.impl_any w0 _ _ d h1 h2 (H.out.below HB0.out)).mono ?_
    rw [HD.out]
    rintro e w1 ⟨rfl, hb1⟩
    have HB1 := Lib.hid (HB0.out.trans (hb1.mono HB0.out.size))
    have HBOX1 := Lib.hid (blk_of HBOX.out hb1 (by omega))
    have hsz1 : w.heap.size < w1.heap.size := Nat.lt_of_lt_of_le hsz0 hb1.size
    clear hb1 x0 x1
    obtain ⟨x0, x1, _, _⟩ := blk_two HBOX1.out
    by_cases h70 : 70 ≤ L
    · by_cases hn : 1 ≤ N ∧ N ≤ 64
      · have HDN := Lib.hid (show decide (1 ≤ N ∧ N ≤ 64) = true from decide_eq_true hn)
        have hn1 := hn.1
        have hn2 := hn.2
        have HOK := Lib.hid (show Okay d l ↔ ∀ k, k < N → OkAt L l k by
          unfold Okay
          rw [← HL.out, ← HN.out]
          exact ⟨fun h => h.2.2, fun h => ⟨⟨hok, h70⟩, hn, h⟩⟩)
        clear hn hok
        go_wp2_with fail
        refine (len_any N _ h3).mono ?_
        rw [HDN.out]
        rintro e wq ⟨rfl, rfl⟩
        go_wp2_with fail
        go_loopw [5, 25] (fun lv iv wr => ∃ i : Nat, i ≤ N ∧ iv = .int .i64 i ∧ lv = .int .i64 (lastOf l i) ∧ (∀ k, k < i → OkAt L l k) ∧ Below w1.heap.size w1 wr) (fun _ iv _ => N - (intOf iv).toNat)
        case atStart => exact ⟨0, Nat.zero_le _, rfl, rfl, fun j hj => absurd hj (Nat.not_lt_zero _), Below.refl _ _⟩
        case round =>
          obtain ⟨i, hi, rfl, rfl, hg, hbel⟩ := hrel
          have HG := Lib.hid hg
          have HBEL := Lib.hid hbel
          have hsz := hbel.size
          clear hg hbel x0 x1
          by_cases hlt : i < N
          · have hlx : i < l.length := by rw [← HN.out]; exact hlt
            obtain ⟨bw, ow, rfl, hbw, hc1, hc2⟩ := HC.out i hlx
            rw [← HB1.out.cell (p := ⟨bw, _, none⟩) hbw, ← HBEL.out.cell (p := ⟨bw, _, none⟩) (show bw < w1.heap.size by omega)] at hc1 hc2
            have HP := Lib.hid (show lastOf l (i + 1) = (l.getD i d0).1 from by simp [lastOf])
            have HQ := Lib.hid (fun h : OkAt L l i => okAt_last h)
            have HR := Lib.hid (fun (a : lastOf l i < (l.getD i d0).1) b c => okAt_of (L := L) a b c)
            have HQQ := Lib.hid (show OkAt L l i → Fits L (l.getD i d0) ∧ ¬ (1 ≤ (l.getD i d0).1 ∧ (l.getD i d0).1 < 70) from fun h => ⟨h.1, h.2.1⟩)
            have HNO := Lib.hid (show ¬ OkAt L l i → decide (Okay d l) = false from fun h => not_okay (fun hk => h (HOK.out.1 hk i hlt)))
            have HYES := Lib.hid (show OkAt L l i → ∀ k, k < i + 1 → OkAt L l k from fun h => all_snoc HG.out h)
            have hbx := Lib.hid (blk_of (blk_of HBOX1.out HBEL.out (by omega)) ((Below.refl wr.heap.size wr).alloc (Nat.le_refl _) (.cells #[.int .i64 (l.getD i d0).1, .string (l.getD i d0).2] 39)) (by omega))
            generalize l.getD i d0 = x at hc1 hc2 HP HQ HR HQQ hbx
            generalize lastOf l i = P at HQ HR ⊢
            generalize OkAt L l i = K at HQ HR HQQ HNO HYES
            obtain ⟨y0, y1, _, _⟩ := blk_two hbx.out
            obtain ⟨z0, z1, _, _⟩ := blk_two (blk_new wr (.cells #[.int .i64 x.1, .string x.2] 39))
            have HBF := Lib.hid ((HBEL.out.alloc hsz (.cells #[.int .i64 x.1, .string x.2] 39)))
            by_cases hle : x.1 ≤ P
            · have HF := Lib.hid (HNO.out (fun hk => by have := HQ.out hk; omega))
              go_wp2_with fail
              go_ret
              exact ⟨ret_bool HF.out.symm, HB1.out.trans (HBF.out.mono HB1.out.size)⟩
            · by_cases hin : 1 ≤ x.1 ∧ x.1 < 70
              · have HF := Lib.hid (HNO.out (fun hk => (HQQ.out hk).2 hin))
                have HI := Lib.hid (show decide (1 ≤ x.1 ∧ x.1 < 70) = true from decide_eq_true hin)
                clear hin
                go_wp2_with fail
                refine (inj_any x.1 _).mono ?_
                rw [HI.out]
                rintro e wq ⟨rfl, rfl⟩
                go_wp2_with fail
                go_ret
                exact ⟨ret_bool HF.out.symm, HB1.out.trans (HBF.out.mono HB1.out.size)⟩
              · have HI := Lib.hid (show decide (1 ≤ x.1 ∧ x.1 < 70) = false from decide_eq_false hin)
                by_cases hfit : Fits L x
                · have HK := Lib.hid (HYES.out (HR.out (by omega) hin hfit))
                  have HFT := Lib.hid (show decide (Fits L x) = true from decide_eq_true hfit)
                  clear hin hfit
                  go_wp2_with fail
                  refine (inj_any x.1 _).mono ?_
                  rw [HI.out]
                  rintro e wq ⟨rfl, rfl⟩
                  go_wp2_with fail
                  refine (IsDisk.fits_any a L ca _ x _ hLb).mono ?_
                  rw [HFT.out]
                  rintro e w2 ⟨rfl, hb2⟩
                  have HB2 := Lib.hid (HBF.out.trans (hb2.mono HBF.out.size))
                  obtain ⟨z0, z1, _, _⟩ := blk_two (blk_of (blk_new wr (.cells #[.int .i64 x.1, .string x.2] 39)) hb2 (by simp))
                  clear hb2 y0 y1
                  go_wp2_with fail
                  go_roundw
                  case rel => exact ⟨i + 1, by omega, by go_num, by rw [HP.out], HK.out, HB2.out⟩
                  case measure => simp [intOf]; omega
                · have HF := Lib.hid (HNO.out (fun hk => hfit (HQQ.out hk).1))
                  have HFT := Lib.hid (show decide (Fits L x) = false from decide_eq_false hfit)
                  clear hin hfit
                  go_wp2_with fail
                  refine (inj_any x.1 _).mono ?_
                  rw [HI.out]
                  rintro e wq ⟨rfl, rfl⟩
                  go_wp2_with fail
                  refine (IsDisk.fits_any a L ca _ x _ hLb).mono ?_
                  rw [HFT.out]
                  rintro e w2 ⟨rfl, hb2⟩
                  have HB2 := Lib.hid (HBF.out.trans (hb2.mono HBF.out.size))
                  clear hb2 y0 y1
                  go_wp2_with fail
                  go_ret
                  exact ⟨ret_bool HF.out.symm, HB1.out.trans (HB2.out.mono HB1.out.size)⟩
          · have HF := Lib.hid (show decide (Okay d l) = true from decide_eq_true (HOK.out.2 (by rw [show N = i from by omega]; exact HG.out)))
            obtain ⟨y0, y1, _, _⟩ := blk_two (blk_of HBOX1.out HBEL.out (by omega))
            go_wp2_with fail
            go_ret
            exact ⟨ret_bool HF.out.symm, HB1.out.trans (HBEL.out.mono HB1.out.size)⟩
      · have HDN := Lib.hid (show decide (1 ≤ N ∧ N ≤ 64) = false from decide_eq_false hn)
        have HF := Lib.hid (show decide (Okay d l) = false from not_okay (fun hk => hn (by have := hk.2.1; rw [HN.out]; exact this)))
        clear hn hok
        go_wp2_with fail
        refine (len_any N _ h3).mono ?_
        rw [HDN.out]
        rintro e wq ⟨rfl, rfl⟩
        go_wp2_with fail
        go_ret
        exact ⟨ret_bool HF.out.symm, HB1.out⟩
    · have HF := Lib.hid (show decide (Okay d l) = false from not_okay (fun hk => h70 (by have := hk.1.2; rw [HL.out]; exact this)))
      clear hok
      go_wp2_with fail
      go_ret
      exact ⟨ret_bool HF.out.symm, HB1.out⟩
  · have HD := Lib.hid (show decide (Ok d) = false from Dk.not_ok hok)
    have HF := Lib.hid (show decide (Okay d l) = false from not_okay (fun hk => hok hk.1.1))
    obtain ⟨x0, x1, _, _⟩ := blk_two hbox
    clear hbox hok
    go_enter Try.func16, Try.ntmps16
    go_wp2_with fail
    refine (IsDisk.impl_any _ _ _ d h1 h2 (H.out.below HB0.out)).mono ?_
    rw [HD.out]
    rintro e w1 ⟨rfl, hb1⟩
    go_wp2_with fail
    go_ret
    exact ⟨ret_bool HF.out.symm, HB0.out.trans (hb1.mono HB0.out.size)⟩
end Go.Proofs.Ytgapjdkelkmdgaa.IsTxn
