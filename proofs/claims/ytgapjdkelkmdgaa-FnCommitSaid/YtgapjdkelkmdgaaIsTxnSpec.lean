/- Contract: the model's IsTxn says of every disk and every list of writes whether the list is a transaction of the disk. Conditions: the three lengths. -/
import Derived.Test.YtgapjdkelkmdgaaIsTxn
import Derived.BigQuiet
namespace Go.Proofs.Ytgapjdkelkmdgaa.IsTxn
open Go.ChangeShapes Go.WideShapes Go.ChangeAt Go.RowKit
open Wr (Wt d0)
open Dk (D Holds Ok Fits AtS AtW atS atW ret_bool blk_new blk_of blk_two)
open Txn (Okay OkAt)
set_option linter.unusedVariables false

theorem in_is {n lo hi : Int} {b : Bool} (h : decide (lo ≤ n ∧ n ≤ hi) = b) (w : World) :
    Calls Try.prog 83 #[.int .i64 n, .int .i64 lo, .int .i64 hi] w fun e w' => e = .returned (.bool b) ∧ w' = w :=
  (IsDisk.in_any n lo hi w).mono fun e w' ⟨he, hw⟩ => ⟨by rw [he, h], hw.symm⟩
set_option maxRecDepth 100000 in
set_option maxHeartbeats 3200000 in
theorem spec_any (w : World) (vs vp lv : Value) (d : D) (l : List Wt) (h1 : d.1.length ≤ 1073741824) (h2 : d.2.length ≤ 1073741824) (h3 : l.length ≤ 1073741824) (h : Holds w vs vp d) (hl : Wr.Holds w lv l) :
    Calls Try.prog 29 #[.agg #[vs, vp], lv] w fun e w' => e = .returned (.bool (decide (Okay d l))) ∧ Below w.heap.size w w' := by
  have H := Lib.hid h
  obtain ⟨a, ca, rfl, _⟩ := atS h.1
  obtain ⟨b, cb, rfl, _⟩ := atW h.2
  obtain ⟨c, cc, rfl, hc⟩ := atW hl
  clear h hl
  have HC := Lib.hid hc
  clear hc
  obtain ⟨L, hL⟩ : ∃ L, L = d.1.length := ⟨_, rfl⟩
  obtain ⟨N, hN⟩ : ∃ N, N = l.length := ⟨_, rfl⟩
  have hLb : L ≤ 1073741824 := by omega
  rw [← hL] at H ⊢
  rw [← hN] at h3 ⊢
  have HL := Lib.hid hL
  have HN := Lib.hid hN
  clear hL hN
  obtain ⟨M, hM⟩ : ∃ M, M = d.2.length := ⟨_, rfl⟩
  rw [← hM] at H ⊢
  clear hM
  have hbox := blk_new w (.cells #[.slice a L ca, .slice b M cb] 26)
  have hb0 := (Below.refl w.heap.size w).alloc (Nat.le_refl _) (.cells #[.slice a L ca, .slice b M cb] 26)
  have hsz0 : w.heap.size < (w.alloc (.cells #[.slice a L ca, .slice b M cb] 26)).heap.size := by simp
  have HBOX := Lib.hid hbox
  have HB0 := Lib.hid hb0
  clear hb0
  by_cases hok : Ok d
  · have HD := Lib.hid (show decide (Ok d) = true from decide_eq_true hok)
    have hl4 : L ≤ 400 := by have := hok.1.1; have := HL.out; omega
    obtain ⟨x0, x1, _, _⟩ := blk_two hbox
    clear hbox
    go_enter Try.func29, Try.ntmps29
    go_wp2_with fail
    generalize hw0 : w.alloc (.cells #[.slice a L ca, .slice b M cb] 26) = w0 at x0 x1 HBOX HB0 hsz0 ⊢
    clear hw0
    refine (IsDisk.spec_any w0 _ _ d h1 h2 (H.out.below HB0.out)).mono ?_
    rw [HD.out]
    rintro e w1 ⟨rfl, hb1⟩
    have HB1 := Lib.hid (HB0.out.trans (hb1.mono HB0.out.size))
    have hb1a := HB1
    have HBOX1 := Lib.hid (blk_of HBOX.out hb1 (by omega))
    have hsz1 : w.heap.size < w1.heap.size := Nat.lt_of_lt_of_le hsz0 hb1.size
    clear hb1 x0 x1
    obtain ⟨x0, x1, _, _⟩ := blk_two HBOX1.out
    by_cases h70 : 70 ≤ L
    · by_cases hn : 1 ≤ N ∧ N ≤ 64
      · have HDN := Lib.hid (show decide ((1 : Int) ≤ (N : Int) ∧ (N : Int) ≤ 64) = true from decide_eq_true (by omega))
        have hn1 := hn.1
        have hn2 := hn.2
        have HOK := Lib.hid (show Okay d l ↔ ∀ k, k < N → OkAt L l k by
          unfold Okay
          rw [← HL.out, ← HN.out]
          exact ⟨fun h => h.2.2, fun h => ⟨⟨hok, h70⟩, hn, h⟩⟩)
        clear hn hok
        go_wp2_with fail
        refine (IsDisk.in_any N 1 64 _).mono ?_
        rw [HDN.out]
        rintro e wq ⟨rfl, rfl⟩
        go_wp2_with fail
        go_loopw [24] (fun iv wr => ∃ i : Nat, i ≤ N ∧ iv = .int .i64 i ∧ (∀ k, k < i → OkAt L l k) ∧ Below w1.heap.size w1 wr) (fun iv _ => N - (intOf iv).toNat)
        case atStart => exact ⟨0, Nat.zero_le _, rfl, fun j hj => absurd hj (Nat.not_lt_zero _), Below.refl _ _⟩
        case round =>
          obtain ⟨i, hi, rfl, hg, hbel⟩ := hrel
          have HG := Lib.hid hg
          have HBEL := Lib.hid hbel
          have hsz := hbel.size
          clear hg hbel x0 x1
          by_cases hlt : i < N
          · have hlx : i < l.length := by rw [← HN.out]; exact hlt
            have HCC := Lib.hid (HC.out.below (hb1a.out.trans (HBEL.out.mono hb1a.out.size)))
            obtain ⟨bw, ow, rfl, hbw, hc1, hc2⟩ := HCC.out i hlx
            have HNO := Lib.hid (show ¬ OkAt L l i → decide (Okay d l) = false from fun h => not_okay (fun hk => h (HOK.out.1 hk i hlt)))
            have HYES := Lib.hid (show OkAt L l i → ∀ k, k < i + 1 → OkAt L l k from fun h => all_snoc HG.out h)
            obtain ⟨y0, y1, _, _⟩ := blk_two (blk_of (blk_of HBOX1.out HBEL.out (by omega)) ((Below.refl wr.heap.size wr).alloc (Nat.le_refl _) (.cells #[.int .i64 (l.getD i d0).1, .string (l.getD i d0).2] 39)) (by omega))
            obtain ⟨z0, z1, _, _⟩ := blk_two (blk_new wr (.cells #[.int .i64 (l.getD i d0).1, .string (l.getD i d0).2] 39))
            have HBF := Lib.hid ((HBEL.out.alloc hsz (.cells #[.int .i64 (l.getD i d0).1, .string (l.getD i d0).2] 39)))
            have HW := Lib.hid (show IntKind.i64.wrap ((L : Int) - 1) = (L : Int) - 1 from IntWalk.i64_in _ (by omega))
            by_cases hi0 : i ≤ 0
            · have HI0 := Lib.hid (show i = 0 by omega)
              have HKE := Lib.hid (show OkAt L l i ↔ Fits L (l.getD i d0) ∧ ¬ (1 ≤ (l.getD i d0).1 ∧ (l.getD i d0).1 < 70) ∧ True from ⟨fun h => ⟨h.1, h.2.1, trivial⟩, fun h => ⟨h.1, h.2.1, fun hh => absurd hh (by omega)⟩⟩)
              clear hi0
              generalize l.getD i d0 = x at hc1 hc2 y0 y1 z0 z1 HBF HKE
              generalize OkAt L l i = K at HKE HNO HYES
              by_cases q1 : 0 ≤ x.1 ∧ x.1 ≤ (L : Int) - 1
              · have D1 := Lib.hid (show decide (0 ≤ x.1 ∧ x.1 ≤ (L : Int) - 1) = true from decide_eq_true q1)
                by_cases q2 : 1 ≤ x.1 ∧ x.1 ≤ 69
                · have D2 := Lib.hid (show decide (1 ≤ x.1 ∧ x.1 ≤ 69) = true from decide_eq_true q2)
                  have HF := Lib.hid (HNO.out (fun hk => (HKE.out.1 hk).2.1 ⟨q2.1, by omega⟩))
                  clear q1 q2
                  go_wp2
                  go_quiet (first | (go_at_call 83; with_reducible refine Calls.quiet_of_same (in_is D1.out _)) | (go_at_call 83; with_reducible refine Calls.quiet_of_same (in_is D2.out _)) | (go_at_call 83; rw [HW.out]; with_reducible refine Calls.quiet_of_same (in_is D1.out _)))
                  go_wp2_with fail
                  go_ret
                  exact ⟨ret_bool HF.out.symm, HB1.out.trans ((SplitAny.below_drewN HBF.out _).mono HB1.out.size)⟩
                · have D2 := Lib.hid (show decide (1 ≤ x.1 ∧ x.1 ≤ 69) = false from decide_eq_false q2)
                  by_cases q3 : x.2.size = 32
                  · skip
                    have HK := Lib.hid (HYES.out (HKE.out.2 ⟨⟨⟨q1.1, by omega⟩, q3⟩, fun hh => q2 ⟨hh.1, by omega⟩, trivial⟩))
                    have hd0 : decide (0 < i) = false := decide_eq_false (by rw [HI0.out]; omega)
                    clear q1 q2
                    go_wp2
                    go_quiet (first | (go_at_call 83; with_reducible refine Calls.quiet_of_same (in_is D1.out _)) | (go_at_call 83; with_reducible refine Calls.quiet_of_same (in_is D2.out _)) | (go_at_call 83; rw [HW.out]; with_reducible refine Calls.quiet_of_same (in_is D1.out _)))
                    go_wp2_with fail
                    go_roundw
                    case rel => exact ⟨i + 1, by omega, by go_num, HK.out, SplitAny.below_drewN HBF.out _⟩
                    case measure => simp [intOf]; omega
                  · have HF := Lib.hid (HNO.out (fun hk => q3 (HKE.out.1 hk).1.2))
                    have hd3 : ((x.2.size : Int) != 32) = true := by simp; omega
                    have hd4 : decide (x.2.size = 32) = false := decide_eq_false q3
                    clear q1 q2
                    go_wp2
                    go_quiet (first | (go_at_call 83; with_reducible refine Calls.quiet_of_same (in_is D1.out _)) | (go_at_call 83; with_reducible refine Calls.quiet_of_same (in_is D2.out _)) | (go_at_call 83; rw [HW.out]; with_reducible refine Calls.quiet_of_same (in_is D1.out _)))
                    go_wp2_with fail
                    go_ret
                    exact ⟨ret_bool HF.out.symm, HB1.out.trans ((SplitAny.below_drewN HBF.out _).mono HB1.out.size)⟩
              · have D1 := Lib.hid (show decide (0 ≤ x.1 ∧ x.1 ≤ (L : Int) - 1) = false from decide_eq_false q1)
                have D2 := D1
                have HF := Lib.hid (HNO.out (fun hk => q1 ⟨(HKE.out.1 hk).1.1.1, by have := (HKE.out.1 hk).1.1.2; omega⟩))
                clear q1
                go_wp2
                go_quiet (first | (go_at_call 83; with_reducible refine Calls.quiet_of_same (in_is D1.out _)) | (go_at_call 83; with_reducible refine Calls.quiet_of_same (in_is D2.out _)) | (go_at_call 83; rw [HW.out]; with_reducible refine Calls.quiet_of_same (in_is D1.out _)))
                go_wp2_with fail
                go_ret
                exact ⟨ret_bool HF.out.symm, HB1.out.trans ((SplitAny.below_drewN HBF.out _).mono HB1.out.size)⟩
            · obtain ⟨p, rfl⟩ : ∃ p, i = p + 1 := ⟨i - 1, by omega⟩
              have hp' : (0 : Int) < ((p + 1 : Nat) : Int) := by omega
              have HKE := Lib.hid (show OkAt L l (p + 1) ↔ Fits L (l.getD (p + 1) d0) ∧ ¬ (1 ≤ (l.getD (p + 1) d0).1 ∧ (l.getD (p + 1) d0).1 < 70) ∧ (l.getD p d0).1 < (l.getD (p + 1) d0).1 from by unfold OkAt; simp)
              obtain ⟨bw', ow', he, _, hp0, _⟩ := HCC.out p (by omega)
              obtain ⟨e1, e2⟩ : bw = bw' ∧ ow = ow' := by simpa using he
              subst e1
              subst e2
              have hp1 : (wr.alloc (.cells #[.int .i64 (l.getD (p + 1) d0).1, .string (l.getD (p + 1) d0).2] 39)).cell? ⟨bw, ow + p * 2, none⟩ = some (.int .i64 (l.getD p d0).1) := by
                rw [((Below.refl wr.heap.size wr).alloc (Nat.le_refl _) (.cells #[.int .i64 (l.getD (p + 1) d0).1, .string (l.getD (p + 1) d0).2] 39)).cell (p := ⟨bw, _, none⟩) hbw]; exact hp0
              generalize (l.getD p d0).1 = P at hp1 hp0 HKE
              clear hp0 he
              generalize l.getD (p + 1) d0 = x at hc1 hc2 y0 y1 z0 z1 HBF HKE hp1
              generalize OkAt L l (p + 1) = K at HKE HNO HYES
              by_cases q1 : 0 ≤ x.1 ∧ x.1 ≤ (L : Int) - 1
              · have D1 := Lib.hid (show decide (0 ≤ x.1 ∧ x.1 ≤ (L : Int) - 1) = true from decide_eq_true q1)
                by_cases q2 : 1 ≤ x.1 ∧ x.1 ≤ 69
                · have D2 := Lib.hid (show decide (1 ≤ x.1 ∧ x.1 ≤ 69) = true from decide_eq_true q2)
                  have HF := Lib.hid (HNO.out (fun hk => (HKE.out.1 hk).2.1 ⟨q2.1, by omega⟩))
                  clear q1 q2
                  go_wp2
                  go_quiet (first | (go_at_call 83; with_reducible refine Calls.quiet_of_same (in_is D1.out _)) | (go_at_call 83; with_reducible refine Calls.quiet_of_same (in_is D2.out _)) | (go_at_call 83; rw [HW.out]; with_reducible refine Calls.quiet_of_same (in_is D1.out _)))
                  go_wp2_with fail
                  go_ret
                  exact ⟨ret_bool HF.out.symm, HB1.out.trans ((SplitAny.below_drewN HBF.out _).mono HB1.out.size)⟩
                · have D2 := Lib.hid (show decide (1 ≤ x.1 ∧ x.1 ≤ 69) = false from decide_eq_false q2)
                  by_cases q3 : x.2.size = 32
                  · skip
                    by_cases q4 : x.1 ≤ P
                    · have HF := Lib.hid (HNO.out (fun hk => by have := (HKE.out.1 hk).2.2; omega))
                      clear q1 q2
                      go_wp2
                      go_quiet (first | (go_at_call 83; with_reducible refine Calls.quiet_of_same (in_is D1.out _)) | (go_at_call 83; with_reducible refine Calls.quiet_of_same (in_is D2.out _)) | (go_at_call 83; rw [HW.out]; with_reducible refine Calls.quiet_of_same (in_is D1.out _)))
                      go_wp2_with fail
                      go_ret
                      exact ⟨ret_bool HF.out.symm, HB1.out.trans ((SplitAny.below_drewN HBF.out _).mono HB1.out.size)⟩
                    · have HK := Lib.hid (HYES.out (HKE.out.2 ⟨⟨⟨q1.1, by omega⟩, q3⟩, fun hh => q2 ⟨hh.1, by omega⟩, by omega⟩))
                      clear q1 q2
                      go_wp2
                      go_quiet (first | (go_at_call 83; with_reducible refine Calls.quiet_of_same (in_is D1.out _)) | (go_at_call 83; with_reducible refine Calls.quiet_of_same (in_is D2.out _)) | (go_at_call 83; rw [HW.out]; with_reducible refine Calls.quiet_of_same (in_is D1.out _)))
                      go_wp2_with fail
                      go_roundw
                      case rel => exact ⟨(p + 1) + 1, by omega, by go_num, HK.out, SplitAny.below_drewN HBF.out _⟩
                      case measure => simp [intOf]; omega
                  · have HF := Lib.hid (HNO.out (fun hk => q3 (HKE.out.1 hk).1.2))
                    have hd3 : ((x.2.size : Int) != 32) = true := by simp; omega
                    have hd4 : decide (x.2.size = 32) = false := decide_eq_false q3
                    clear q1 q2
                    go_wp2
                    go_quiet (first | (go_at_call 83; with_reducible refine Calls.quiet_of_same (in_is D1.out _)) | (go_at_call 83; with_reducible refine Calls.quiet_of_same (in_is D2.out _)) | (go_at_call 83; rw [HW.out]; with_reducible refine Calls.quiet_of_same (in_is D1.out _)))
                    go_wp2_with fail
                    go_ret
                    exact ⟨ret_bool HF.out.symm, HB1.out.trans ((SplitAny.below_drewN HBF.out _).mono HB1.out.size)⟩
              · have D1 := Lib.hid (show decide (0 ≤ x.1 ∧ x.1 ≤ (L : Int) - 1) = false from decide_eq_false q1)
                have D2 := D1
                have HF := Lib.hid (HNO.out (fun hk => q1 ⟨(HKE.out.1 hk).1.1.1, by have := (HKE.out.1 hk).1.1.2; omega⟩))
                clear q1
                go_wp2
                go_quiet (first | (go_at_call 83; with_reducible refine Calls.quiet_of_same (in_is D1.out _)) | (go_at_call 83; with_reducible refine Calls.quiet_of_same (in_is D2.out _)) | (go_at_call 83; rw [HW.out]; with_reducible refine Calls.quiet_of_same (in_is D1.out _)))
                go_wp2_with fail
                go_ret
                exact ⟨ret_bool HF.out.symm, HB1.out.trans ((SplitAny.below_drewN HBF.out _).mono HB1.out.size)⟩
          · have HF := Lib.hid (show decide (Okay d l) = true from decide_eq_true (HOK.out.2 (by rw [show N = i from by omega]; exact HG.out)))
            obtain ⟨y0, y1, _, _⟩ := blk_two (blk_of HBOX1.out HBEL.out (by omega))
            go_wp2_with fail
            go_ret
            exact ⟨ret_bool HF.out.symm, HB1.out.trans (HBEL.out.mono HB1.out.size)⟩
      · have HDN := Lib.hid (show decide ((1 : Int) ≤ (N : Int) ∧ (N : Int) ≤ 64) = false from decide_eq_false (by omega))
        have HF := Lib.hid (show decide (Okay d l) = false from not_okay (fun hk => hn (by have := hk.2.1; rw [HN.out]; exact this)))
        clear hn hok
        go_wp2_with fail
        refine (IsDisk.in_any N 1 64 _).mono ?_
        rw [HDN.out]
        rintro e wq ⟨rfl, rfl⟩
        go_wp2_with fail
        go_ret
        exact ⟨ret_bool HF.out.symm, HB1.out⟩
    · have HF := Lib.hid (show decide (Okay d l) = false from not_okay (fun hk => h70 (by have := hk.1.2; rw [HL.out]; exact this)))
      clear hok
      go_wp2_with fail
      go_ret
      exact ⟨ret_bool HF.out.symm, HB1.out⟩
  · have HD := Lib.hid (show decide (Ok d) = false from Dk.not_ok hok)
    have HF := Lib.hid (show decide (Okay d l) = false from not_okay (fun hk => hok hk.1.1))
    obtain ⟨x0, x1, _, _⟩ := blk_two hbox
    clear hbox hok
    go_enter Try.func29, Try.ntmps29
    go_wp2_with fail
    refine (IsDisk.spec_any _ _ _ d h1 h2 (H.out.below HB0.out)).mono ?_
    rw [HD.out]
    rintro e w1 ⟨rfl, hb1⟩
    go_wp2_with fail
    go_ret
    exact ⟨ret_bool HF.out.symm, HB0.out.trans (hb1.mono HB0.out.size)⟩
end Go.Proofs.Ytgapjdkelkmdgaa.IsTxn
