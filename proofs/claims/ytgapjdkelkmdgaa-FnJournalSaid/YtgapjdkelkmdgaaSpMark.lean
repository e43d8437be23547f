/- Contracts of the law's own helpers over slices of steps: marking one that the call owns, asking for the marks. Conditions: as each theorem types them. -/
import Derived.Test.YtgapjdkelkmdgaaSp
import Derived.Test.YtgapjdkelkmdgaaOwn
namespace Go.Proofs.Ytgapjdkelkmdgaa.Sp
open Go.ChangeShapes Go.WideShapes Go.ChangeAt Go.RowKit
open Strs (markT mark_any grow_below grow_trans own_below below_of_drew ret_int)
open Txn (St s0)
open Dk (RowIn Turned)
set_option linter.unusedVariables false

/-- n marks from number k on: three a step. -/
def markS (k : Nat) : St := (decide (k % 3 = 0), ((k + 1 : Nat) : Int), markT (k + 2))
def marks (k n : Nat) : List St := (List.range n).map fun i => markS (k + 3 * i)
theorem marks_length (k n : Nat) : (marks k n).length = n := by simp [marks]
theorem marks_getD (k n j : Nat) (h : j < n) : (marks k n).getD j s0 = markS (k + 3 * j) := by
  simp [marks, List.getD, h]
theorem marks_succ (k n : Nat) : marks k (n + 1) = marks k n ++ [markS (k + 3 * n)] := by simp [marks, List.range_succ]
theorem set_mark (k i : Nat) (xs : List St) (h : i < xs.length) (f : Bool) (m : Int) (s : ByteArray) (e : markS (k + 3 * i) = (f, m, s)) :
    (((scells (marks k i ++ xs.drop i)).set (i * 3) (.bool f)).set (i * 3 + 1) (.int .i64 m)).set (i * 3 + 2) (.string s) = scells (marks k (i + 1) ++ xs.drop (i + 1)) := by
  have hl : (scells (marks k i)).length = i * 3 := by rw [scells_length, marks_length]
  rw [scells_append, List.set_append_right _ _ (by omega), hl, Nat.sub_self, List.set_append_right _ _ (by omega), hl, show i * 3 + 1 - i * 3 = 1 from by omega, List.set_append_right _ _ (by omega), hl, show i * 3 + 2 - i * 3 = 2 from by omega, marks_succ, e,
    show scells (xs.drop i) = Value.bool xs[i].1 :: Value.int .i64 xs[i].2.1 :: Value.string xs[i].2.2 :: scells (xs.drop (i + 1)) from by rw [List.drop_eq_getElem_cons h]; rfl,
    scells_append, scells_append, List.set_cons_zero, List.set_cons_succ, List.set_cons_zero, List.set_cons_succ, List.set_cons_succ, List.set_cons_zero, List.append_assoc]
  simp [scells, scell]
theorem mod3 (K : Nat) : (((K : Int) % 3) == 0) = decide (K % 3 = 0) := by
  by_cases hh : K % 3 = 0
  · rw [decide_eq_true hh]; simp; omega
  · rw [decide_eq_false hh]; simp; omega

set_option maxRecDepth 100000 in
set_option maxHeartbeats 1600000 in
/-- A row that the call owns is marked; every other block stays. -/
theorem mark_all (w : World) (base : Nat) (v : Value) (n k : Nat) (xs : List St) (hk : 1 ≤ k) (hn : k + 3 * n ≤ 1073741824) (hown : w.ownsRow base 88 3 v n (scells xs)) :
    Calls Try.prog 42 #[v, .int .i64 k] w fun e w' => e = .returned (.int .i64 ((k : Int) + 3 * n)) ∧ w'.ownsRow base 88 3 v n (scells (marks k n)) ∧ w.grownBy w' v.ownBlock := by
  have hl := hown.1
  rw [scells_length] at hl
  by_cases h0 : n = 0
  · subst h0
    obtain rfl : xs = [] := List.eq_nil_of_length_eq_zero (by omega)
    obtain ⟨a, cap, rfl⟩ : ∃ a cap, v = .slice a 0 cap := by
      rcases hown.2 with ⟨rfl, _⟩ | ⟨g, cap, cur, rfl, _⟩
      · exact ⟨_, _, rfl⟩
      · exact ⟨_, _, rfl⟩
    have HO := Lib.hid hown
    clear hown hl
    go_enter Try.func42, Try.ntmps42
    go_wp2
    refine wp_loop_rounds 1 ?_
    rw [rounds_succ]
    go_wp2
    go_ret
    exact ⟨by simp, HO.out, World.grownBy.refl _ _⟩
  · obtain ⟨g, cap, rfl, hbg⟩ : ∃ g cap, v = .slice (some ⟨g, 0, none⟩) n cap ∧ g < w.heap.size := by
      rcases hown.2 with ⟨_, hz⟩ | ⟨g, cap, cur, rfl, _, hg, _⟩
      · exact absurd hz h0
      · exact ⟨g, cap, rfl, (Array.getElem?_eq_some_iff.1 hg).1⟩
    have HO := Lib.hid hown
    have HX := Lib.hid (show xs.length = n by omega)
    clear hown hl h0
    go_enter Try.func42, Try.ntmps42
    go_wp2
    go_loopw [1, 5] (fun kv iv wr => ∃ i : Nat, i ≤ n ∧ iv = .int .i64 i ∧ kv = .int .i64 ((k + 3 * i : Nat) : Int) ∧ wr.ownsRow base 88 3 (.slice (some ⟨g, 0, none⟩) n cap) n (scells (marks k i ++ xs.drop i)) ∧ w.grownBy wr (some g)) (fun _ iv _ => n - (intOf iv).toNat)
    case atStart => exact ⟨0, Nat.zero_le _, rfl, by simp, by simpa [marks] using HO.out, World.grownBy.refl _ _⟩
    case round =>
      obtain ⟨i, hi, rfl, rfl, hown, hgr⟩ := hrel
      have HOWN := Lib.hid hown
      have HGR := Lib.hid hgr
      by_cases hlt : i < n
      · have hx : i < xs.length := by rw [HX.out]; exact hlt
        have hlen : (scells (marks k i ++ xs.drop i)).length = n * 3 := by rw [scells_length, List.length_append, marks_length, List.length_drop, HX.out]; omega
        obtain ⟨K, hK⟩ : ∃ K, K = k + 3 * i := ⟨_, rfl⟩
        have hKb : K + 3 ≤ 1073741824 := by omega
        have hKp : 1 ≤ K := by omega
        have HE := Lib.hid (show markS (k + 3 * i) = ((K : Int) % 3 == 0, (K : Int) + 1, markT (K + 2)) by rw [mod3, hK]; unfold markS; simp)
        rw [← hK]
        have HKK := Lib.hid hK
        clear hK
        obtain ⟨M, hM⟩ : ∃ M, M = markT (K + 2) := ⟨_, rfl⟩
        rw [← hM] at HE
        have HMM := Lib.hid hM
        clear hM
        have HSM := Lib.hid (set_mark k i xs hx _ _ _ HE.out)
        generalize scells (marks k i ++ xs.drop i) = l at hlen hown HOWN HSM
        have hc := hown.cellAt (i * 3) (by omega)
        have hf := hown.frozenAt (i * 3)
        have hc1 := hown.cellAt (i * 3 + 1) (by omega)
        have hf1 := hown.frozenAt (i * 3 + 1)
        rw [List.getElem?_eq_getElem (by omega)] at hc hc1
        generalize l[i * 3] = y0 at hc
        generalize l[i * 3 + 1] = y1 at hc1
        have hst := hown.stored (i * 3) (.bool ((K : Int) % 3 == 0))
        have hst1 := hst.1.stored (i * 3 + 1) (.int .i64 ((K : Int) + 1))
        have HST := Lib.hid hst1.1
        have HGR1 := Lib.hid (grow_trans (grow_trans HGR.out hst.2) hst1.2)
        have HLEN := Lib.hid hlen
        clear hown hgr hst hst1 hlen
        go_wp2_with fail
        generalize (wr.setCell ⟨g, i * 3, none⟩ (.bool ((K : Int) % 3 == 0))).setCell ⟨g, i * 3 + 1, none⟩ (.int .i64 ((K : Int) + 1)) = ws at HST HGR1 ⊢
        rw [show ((K : Int) + 1 + 1) = ((K + 2 : Nat) : Int) from by omega]
        refine (mark_any (K + 2) _ (by omega) (by omega)).mono ?_
        rintro e w1 ⟨rfl, hb1⟩
        rw [← HMM.out]
        have hown1 := own_below HST.out hb1
        have hgr1 := grow_below HGR1.out hb1
        clear hc hc1 hf hf1
        have hc2 := hown1.cellAt (i * 3 + 2) (by omega)
        have hf2 := hown1.frozenAt (i * 3 + 2)
        have hl2 : i * 3 + 2 < ((l.set (i * 3) (.bool ((K : Int) % 3 == 0))).set (i * 3 + 1) (.int .i64 ((K : Int) + 1))).length := by rw [List.length_set, List.length_set, HLEN.out]; omega
        rw [List.getElem?_eq_getElem hl2] at hc2
        generalize ((l.set (i * 3) (.bool ((K : Int) % 3 == 0))).set (i * 3 + 1) (.int .i64 ((K : Int) + 1)))[i * 3 + 2] = y2 at hc2
        have hst := hown1.stored (i * 3 + 2) (.string M)
        rw [HSM.out] at hst
        have HST1 := Lib.hid hst.1
        have HGR2 := Lib.hid (grow_trans hgr1 hst.2)
        clear hown1 hgr1 hst hb1 hl2
        go_wp2
        go_roundw
        case rel => exact ⟨i + 1, by omega, by go_num, by rw [show (k + 3 * (i + 1) : Nat) = K + 3 from by rw [HKK.out]; omega]; go_num, HST1.out, HGR2.out⟩
        case measure => simp [intOf]; omega
      · obtain rfl : i = n := by omega
        have e : scells (marks k i ++ xs.drop i) = scells (marks k i) := by rw [List.drop_of_length_le (by rw [HX.out]; exact Nat.le_refl _), List.append_nil]
        have HE := Lib.hid e
        clear e hown hgr
        go_wp2
        go_ret
        exact ⟨ret_int (by omega), by rw [← HE.out]; exact HOWN.out, HGR.out⟩

set_option maxRecDepth 100000 in
set_option maxHeartbeats 1600000 in
/-- The marks are found. -/
theorem held_all (w : World) (v : Value) (n k : Nat) (hk : 1 ≤ k) (hn : k + 3 * n ≤ 1073741824) (h : Holds w v (marks k n)) :
    Calls Try.prog 43 #[v, .int .i64 k] w fun e w' => e = .returned (.int .i64 ((k : Int) + 3 * n)) ∧ Below w.heap.size w w' := by
  obtain ⟨a, cap, rfl, hc⟩ := h
  rw [marks_length]
  by_cases h0 : n = 0
  · subst h0
    clear hc
    go_enter Try.func43, Try.ntmps43
    go_wp2
    refine wp_loop_rounds 1 ?_
    rw [rounds_succ]
    go_wp2
    go_ret
    exact ⟨by simp, Below.refl _ _⟩
  · obtain ⟨b, o, rfl, hlt, hcell⟩ := hc (by intro e; have := marks_length k n; rw [e] at this; simp at this; omega)
    rw [marks_length] at hcell
    have HC := Lib.hid hcell
    clear hc hcell
    go_enter Try.func43, Try.ntmps43
    go_wp2
    go_loopw [1, 5] (fun kv iv wr => ∃ i : Nat, i ≤ n ∧ iv = .int .i64 i ∧ kv = .int .i64 ((k + 3 * i : Nat) : Int) ∧ Below w.heap.size w wr) (fun _ iv _ => n - (intOf iv).toNat)
    case atStart => exact ⟨0, Nat.zero_le _, rfl, by simp, Below.refl _ _⟩
    case round =>
      obtain ⟨i, hi, rfl, rfl, hbel⟩ := hrel
      have HBEL := Lib.hid hbel
      have hsz := hbel.size
      clear hbel
      by_cases hil : i < n
      · have hc3 := (HC.out i hil).below hlt HBEL.out
        rw [marks_getD k n i hil] at hc3
        obtain ⟨K, hK⟩ : ∃ K, K = k + 3 * i := ⟨_, rfl⟩
        have hKb : K + 3 ≤ 1073741824 := by omega
        rw [show markS (k + 3 * i) = ((K : Int) % 3 == 0, (K : Int) + 1, markT (K + 2)) by rw [mod3, hK]; unfold markS; simp] at hc3
        rw [← hK]
        have HKK := Lib.hid hK
        clear hK
        obtain ⟨M, hM⟩ : ∃ M, M = markT (K + 2) := ⟨_, rfl⟩
        rw [← hM] at hc3
        have HM := Lib.hid hM
        clear hM
        obtain ⟨g0, g1, g2⟩ := hc3
        dsimp only at g0 g1 g2
        have hltr : b < wr.heap.size := by omega
        go_wp2
        go_region_held3 (fun w' => w'.cell? ⟨b, o + i * 3 + 2, none⟩ = some (.string M)) (go_keep)
          (first | (go_at_call 93; rw [show ((K : Int) + 1 + 1) = ((K + 2 : Nat) : Int) from by omega]; refine (mark_any (K + 2) _ (by omega) (by omega)).mono ?_; rintro e w1 ⟨rfl, hb1⟩; rw [← HM.out]; have g3 : w1.cell? ⟨b, o + i * 3 + 2, none⟩ = some (.string M) := by (rw [hb1.cell (p := ⟨b, o + i * 3 + 2, none⟩) (by simp; omega)]; simpa using g2)))
        go_wp2
        go_roundw
        case rel => exact ⟨i + 1, by omega, by go_num, by rw [show (k + 3 * (i + 1) : Nat) = K + 3 from by rw [HKK.out]; omega]; go_num, HBEL.out.trans (below_of_drew hb1 hsz)⟩
        case measure => simp [intOf]; omega
      · obtain rfl : i = n := by omega
        go_wp2
        go_ret
        exact ⟨ret_int (by omega), HBEL.out⟩

theorem mark_in (w : World) (lo hi : Nat) (v : Value) (xs : List St) (k : Nat) (hk : 1 ≤ k) (hn : k + 3 * xs.length ≤ 1073741824) (hhi : hi ≤ w.heap.size) (h : RowIn w lo hi 88 3 v xs.length (scells xs)) :
    Calls Try.prog 42 #[v, .int .i64 k] w fun e w' => e = .returned (.int .i64 (k + 3 * xs.length : Nat)) ∧ RowIn w' lo hi 88 3 v (marks k xs.length).length (scells (marks k xs.length)) ∧ Turned w w' lo hi := by
  refine (mark_all w lo v xs.length k xs hk hn h.1).mono ?_
  rintro e w' ⟨rfl, hown, hg⟩
  refine ⟨by congr 2, ⟨by rw [marks_length]; exact hown, h.2⟩, Turned.of_grown hg (fun q hq => ⟨(h.1.lt q hq).1, h.2 q hq⟩)⟩
theorem held_in (w : World) (v : Value) (n k : Nat) (hk : 1 ≤ k) (hn : k + 3 * n ≤ 1073741824) (h : Holds w v (marks k n)) :
    Calls Try.prog 43 #[v, .int .i64 k] w fun e w' => e = .returned (.int .i64 (k + 3 * n : Nat)) ∧ Below w.heap.size w w' := by
  refine (held_all w v n k hk hn h).mono ?_
  rintro e w' ⟨rfl, hb⟩
  exact ⟨by congr 2, hb⟩
end Go.Proofs.Ytgapjdkelkmdgaa.Sp
