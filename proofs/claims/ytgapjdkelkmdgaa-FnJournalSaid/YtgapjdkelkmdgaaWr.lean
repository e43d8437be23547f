/- Contracts of the law's own helpers over slices of writes: comparing two that read alike, marking one that the call owns, asking for the marks, their size, a copy of one. Conditions: as each theorem types them. -/
import Derived.Test.YtgapjdkelkmdgaaStrsTwo
namespace Go.Proofs.Ytgapjdkelkmdgaa.Wr
open Go.ChangeShapes Go.WideShapes Go.ChangeAt Go.RowKit
open Strs (markT mark_any grow_below grow_trans own_below below_of_drew ret_int)
set_option linter.unusedVariables false

/-- A write: its sector, its data. -/
abbrev Wt := Int × ByteArray
def d0 : Wt := (0, ⟨#[]⟩)
def wcell (x : Wt) : List Value := [.int .i64 x.1, .string x.2]
def wcells (ws : List Wt) : List Value := ws.flatMap wcell
theorem wcells_length (ws : List Wt) : (wcells ws).length = ws.length * 2 := by
  induction ws with
  | nil => rfl
  | cons a l ih => rw [wcells, List.flatMap_cons, List.length_append, ← wcells, ih]; simp [wcell]; omega
theorem wcells_append (a b : List Wt) : wcells (a ++ b) = wcells a ++ wcells b := by simp [wcells]
theorem wcells_at (ws : List Wt) (j : Nat) (h : j < ws.length) : (wcells ws)[j * 2]? = some (.int .i64 (ws.getD j d0).1) ∧ (wcells ws)[j * 2 + 1]? = some (.string (ws.getD j d0).2) := by
  have e : ws = ws.take j ++ (ws.getD j d0 :: ws.drop (j + 1)) := by
    rw [List.getD_eq_getElem?_getD, List.getElem?_eq_getElem h]
    simp
  have e2 : wcells ws = wcells (ws.take j) ++ ([.int .i64 (ws.getD j d0).1, .string (ws.getD j d0).2] ++ wcells (ws.drop (j + 1))) := by
    conv => lhs; rw [e]
    rw [wcells_append]; rfl
  have hl : (wcells (ws.take j)).length = j * 2 := by rw [wcells_length, List.length_take, Nat.min_eq_left (Nat.le_of_lt h)]
  rw [e2]
  constructor
  · rw [List.getElem?_append_right (by omega), hl]; simp
  · rw [List.getElem?_append_right (by omega), hl]; simp
/-- A slice value that is nil, or whose cells hold the writes ws. -/
def Holds (w : World) (v : Value) (ws : List Wt) : Prop :=
  ∃ (a : Option Addr) (cap : Nat), v = .slice a ws.length cap ∧ (ws ≠ [] → ∃ b o, a = some ⟨b, o, none⟩ ∧ b < w.heap.size ∧ ∀ j, j < ws.length → w.cell? ⟨b, o + j * 2, none⟩ = some (.int .i64 (ws.getD j d0).1) ∧ w.cell? ⟨b, o + j * 2 + 1, none⟩ = some (.string (ws.getD j d0).2))
theorem holds_of_own {w : World} {base : Nat} {e : TypeId} {v : Value} {n : Nat} {ws : List Wt} (h : w.ownsRow base e 2 v n (wcells ws)) : Holds w v ws := by
  have hl := h.1
  rw [wcells_length] at hl
  have hn : n = ws.length := by omega
  rcases h.2 with ⟨rfl, h0⟩ | ⟨g, cap, cur, rfl, hb, hg, hn', _, _, htake⟩
  · have : ws = [] := List.eq_nil_of_length_eq_zero (by omega)
    subst this
    exact ⟨none, 0, rfl, fun hh => absurd rfl hh⟩
  · refine ⟨some ⟨g, 0, none⟩, cap, by rw [hn], fun _ => ⟨g, 0, rfl, (Array.getElem?_eq_some_iff.1 hg).1, fun j hj => ?_⟩⟩
    have hw := wcells_at ws j hj
    rw [Nat.zero_add, h.cellAt (j * 2) (by omega), h.cellAt (j * 2 + 1) (by omega)]
    exact hw
theorem holds_below {w w' : World} {B : Nat} {v : Value} {ws : List Wt} (h : Holds w v ws) (hb : Below w.heap.size w w') : Holds w' v ws := by
  obtain ⟨a, cap, rfl, hc⟩ := h
  refine ⟨a, cap, rfl, fun hh => ?_⟩
  obtain ⟨b, o, rfl, hlt, hcell⟩ := hc hh
  exact ⟨b, o, rfl, Nat.lt_of_lt_of_le hlt hb.size, fun j hj => by rw [hb.cell (p := ⟨b, o + j * 2, none⟩) hlt, hb.cell (p := ⟨b, o + j * 2 + 1, none⟩) hlt]; exact hcell j hj⟩

set_option maxRecDepth 100000 in
set_option maxHeartbeats 400000 in
theorem eqOne_any (x : Wt) (w : World) :
    Calls Try.prog 87 #[.agg #[.int .i64 x.1, .string x.2], .agg #[.int .i64 x.1, .string x.2]] w fun e w' => e = .returned (.bool true) ∧ Below w.heap.size w w' := by
  obtain ⟨n, s⟩ := x
  dsimp only
  go_enter Try.func87, Try.ntmps87
  go_wp2
  go_ret
  exact ⟨rfl, ((Below.refl w.heap.size w).alloc (Nat.le_refl _) _).alloc (by simp) _⟩

set_option maxRecDepth 100000 in
set_option maxHeartbeats 400000 in
/-- Two slices that read alike are found equal; only draws are made. -/
theorem eq_any (w : World) (va vb : Value) (xs : List Wt) (hn : xs.length ≤ 1073741824) (ha : Holds w va xs) (hb : Holds w vb xs) :
    Calls Try.prog 33 #[va, vb] w fun e w' => e = .returned (.bool true) ∧ Below w.heap.size w w' := by
  obtain ⟨a, ca, rfl, hca⟩ := ha
  obtain ⟨b, cb, rfl, hcb⟩ := hb
  by_cases h0 : xs = []
  · subst h0
    simp only [List.length_nil]
    clear hca hcb
    go_enter Try.func33, Try.ntmps33
    go_wp2
    refine wp_loop_rounds 1 ?_
    rw [rounds_succ]
    go_wp2
    go_ret
    exact ⟨rfl, Below.refl _ _⟩
  · obtain ⟨b1, o1, rfl, hl1, hc1⟩ := hca h0
    obtain ⟨b2, o2, rfl, hl2, hc2⟩ := hcb h0
    have HC1 := Lib.hid hc1
    have HC2 := Lib.hid hc2
    clear hca hcb hc1 hc2 h0
    obtain ⟨L, hL⟩ : ∃ L, L = xs.length := ⟨_, rfl⟩
    rw [← hL] at hn ⊢
    have HL := Lib.hid hL
    clear hL
    go_enter Try.func33, Try.ntmps33
    go_wp2
    go_loopw [5] (fun i wr => ∃ k : Nat, k ≤ L ∧ i = .int .i64 k ∧ Below w.heap.size w wr) (fun i _ => L - (intOf i).toNat)
    case atStart => exact ⟨0, Nat.zero_le _, rfl, Below.refl _ _⟩
    case round =>
      obtain ⟨k, hk, rfl, hbel⟩ := hrel
      have HBEL := Lib.hid hbel
      have hsz := hbel.size
      clear hbel
      by_cases hlt : k < L
      · obtain ⟨g1, g2⟩ := HC1.out k (by rw [← HL.out]; exact hlt)
        obtain ⟨g3, g4⟩ := HC2.out k (by rw [← HL.out]; exact hlt)
        generalize xs.getD k d0 = x at g1 g2 g3 g4
        rw [← HBEL.out.cell (p := ⟨b1, _, none⟩) hl1] at g1 g2
        rw [← HBEL.out.cell (p := ⟨b2, _, none⟩) hl2] at g3 g4
        go_wp2
        go_region_held3 (fun w' => w'.cell? ⟨b1, o1 + k * 2, none⟩ = some (.int .i64 x.1) ∧ w'.cell? ⟨b1, o1 + k * 2 + 1, none⟩ = some (.string x.2) ∧ w'.cell? ⟨b2, o2 + k * 2, none⟩ = some (.int .i64 x.1) ∧ w'.cell? ⟨b2, o2 + k * 2 + 1, none⟩ = some (.string x.2)) (go_keep)
          (first | (go_at_call 87; refine (eqOne_any x _).mono ?_; rintro e w1 ⟨rfl, hb1⟩; have q1 := (hb1.cell (p := ⟨b1, o1 + k * 2, none⟩) (by simp; omega)); have q2 := (hb1.cell (p := ⟨b1, o1 + k * 2 + 1, none⟩) (by simp; omega)); have q3 := (hb1.cell (p := ⟨b2, o2 + k * 2, none⟩) (by simp; omega)); have q4 := (hb1.cell (p := ⟨b2, o2 + k * 2 + 1, none⟩) (by simp; omega))))
        go_wp2
        go_roundw
        case rel => exact ⟨k + 1, by omega, by go_num, HBEL.out.trans (below_of_drew hb1 hsz)⟩
        case measure => simp [intOf]; omega
      · go_wp2
        go_ret
        exact ⟨rfl, HBEL.out⟩

/-- n marks from number k on: two a write. -/
def marks (k n : Nat) : List Wt := (List.range n).map fun i => (((k + 2 * i : Nat) : Int), markT (k + 2 * i + 1))
theorem marks_length (k n : Nat) : (marks k n).length = n := by simp [marks]
theorem marks_getD (k n j : Nat) (h : j < n) : (marks k n).getD j d0 = (((k + 2 * j : Nat) : Int), markT (k + 2 * j + 1)) := by
  simp [marks, List.getD, h]
theorem marks_succ (k n : Nat) : marks k (n + 1) = marks k n ++ [(((k + 2 * n : Nat) : Int), markT (k + 2 * n + 1))] := by simp [marks, List.range_succ]
theorem set_mark (k i : Nat) (xs : List Wt) (h : i < xs.length) :
    ((wcells (marks k i ++ xs.drop i)).set (i * 2) (.int .i64 ((k : Int) + 2 * i))).set (i * 2 + 1) (.string (markT (k + 2 * i + 1))) = wcells (marks k (i + 1) ++ xs.drop (i + 1)) := by
  have hl : (wcells (marks k i)).length = i * 2 := by rw [wcells_length, marks_length]
  rw [wcells_append, List.set_append_right _ _ (by omega), hl, Nat.sub_self, List.set_append_right _ _ (by omega), hl, show i * 2 + 1 - i * 2 = 1 from by omega, marks_succ,
    show wcells (xs.drop i) = Value.int .i64 xs[i].1 :: Value.string xs[i].2 :: wcells (xs.drop (i + 1)) from by rw [List.drop_eq_getElem_cons h]; rfl,
    wcells_append, wcells_append, List.set_cons_zero, List.set_cons_succ, List.set_cons_zero, List.append_assoc]
  simp [wcells, wcell]

set_option maxRecDepth 100000 in
set_option maxHeartbeats 800000 in
/-- A row that the call owns is marked: number k in its first cell, and so on; every other block stays. -/
theorem mark_all (w : World) (base : Nat) (v : Value) (n k : Nat) (xs : List Wt) (hk : 1 ≤ k) (hn : k + 2 * n ≤ 1073741824) (hown : w.ownsRow base 39 2 v n (wcells xs)) :
    Calls Try.prog 36 #[v, .int .i64 k] w fun e w' => e = .returned (.int .i64 ((k : Int) + 2 * n)) ∧ w'.ownsRow base 39 2 v n (wcells (marks k n)) ∧ w.grownBy w' v.ownBlock := by
  have hl := hown.1
  rw [wcells_length] at hl
  by_cases h0 : n = 0
  · subst h0
    obtain rfl : xs = [] := List.eq_nil_of_length_eq_zero (by omega)
    obtain ⟨a, cap, rfl⟩ : ∃ a cap, v = .slice a 0 cap := by
      rcases hown.2 with ⟨rfl, _⟩ | ⟨g, cap, cur, rfl, _⟩
      · exact ⟨_, _, rfl⟩
      · exact ⟨_, _, rfl⟩
    have HO := Lib.hid hown
    clear hown hl
    go_enter Try.func36, Try.ntmps36
    go_wp2
    refine wp_loop_rounds 1 ?_
    rw [rounds_succ]
    go_wp2
    go_ret
    exact ⟨by simp, HO.out, World.grownBy.refl _ _⟩
  · obtain ⟨g, cap, rfl, hbg⟩ : ∃ g cap, v = .slice (some ⟨g, 0, none⟩) n cap ∧ g < w.heap.size := by
      rcases hown.2 with ⟨_, hz⟩ | ⟨g, cap, cur, rfl, _, hg, _⟩
      · exact absurd hz h0
      · exact ⟨g, cap, rfl, (Array.getElem?_eq_some_iff.1 hg).1⟩
    have HO := Lib.hid hown
    have HX := Lib.hid (show xs.length = n by omega)
    clear hown hl h0
    go_enter Try.func36, Try.ntmps36
    go_wp2
    go_loopw [1, 5] (fun kv iv wr => ∃ i : Nat, i ≤ n ∧ iv = .int .i64 i ∧ kv = .int .i64 ((k : Int) + 2 * i) ∧ wr.ownsRow base 39 2 (.slice (some ⟨g, 0, none⟩) n cap) n (wcells (marks k i ++ xs.drop i)) ∧ w.grownBy wr (some g)) (fun _ iv _ => n - (intOf iv).toNat)
    case atStart => exact ⟨0, Nat.zero_le _, rfl, by simp, by simpa [marks] using HO.out, World.grownBy.refl _ _⟩
    case round =>
      obtain ⟨i, hi, rfl, rfl, hown, hgr⟩ := hrel
      have HOWN := Lib.hid hown
      have HGR := Lib.hid hgr
      by_cases hlt : i < n
      · have hx : i < xs.length := by rw [HX.out]; exact hlt
        have hlen : (wcells (marks k i ++ xs.drop i)).length = n * 2 := by rw [wcells_length, List.length_append, marks_length, List.length_drop, HX.out]; omega
        have hc := hown.cellAt (i * 2) (by omega)
        have hf := hown.frozenAt (i * 2)
        obtain ⟨y, hy⟩ : ∃ y, (wcells (marks k i ++ xs.drop i))[i * 2]? = some y := ⟨_, List.getElem?_eq_getElem (by omega)⟩
        rw [hy] at hc
        have hst := hown.stored (i * 2) (.int .i64 ((k : Int) + 2 * i))
        have HST := Lib.hid hst.1
        have HGR1 := Lib.hid (grow_trans HGR.out hst.2)
        have HLEN := Lib.hid hlen
        clear hown hgr hst hy hlen
        go_wp2_with fail
        rw [show ((k : Int) + 2 * (i : Int) + 1) = ((k + 2 * i + 1 : Nat) : Int) from by omega]
        refine (mark_any (k + 2 * i + 1) _ (by omega) (by omega)).mono ?_
        rintro e w1 ⟨rfl, hb1⟩
        have hown1 := own_below HST.out hb1
        have hgr1 := grow_below HGR1.out hb1
        have hc1 := hown1.cellAt (i * 2 + 1) (by omega)
        have hf1 := hown1.frozenAt (i * 2 + 1)
        obtain ⟨y, hy⟩ : ∃ y, ((wcells (marks k i ++ xs.drop i)).set (i * 2) (.int .i64 ((k : Int) + 2 * i)))[i * 2 + 1]? = some y := ⟨_, List.getElem?_eq_getElem (by rw [List.length_set, HLEN.out]; omega)⟩
        rw [hy] at hc1
        have hst := hown1.stored (i * 2 + 1) (.string (markT (k + 2 * i + 1)))
        rw [set_mark k i xs hx] at hst
        have HST1 := Lib.hid hst.1
        have HGR2 := Lib.hid (grow_trans hgr1 hst.2)
        clear hown1 hgr1 hst hb1 hy hc hf
        generalize markT (k + 2 * i + 1) = M at HST1 HGR2 ⊢
        go_wp2
        go_roundw
        case rel => exact ⟨i + 1, by omega, by go_num, by go_num, HST1.out, HGR2.out⟩
        case measure => simp [intOf]; omega
      · obtain rfl : i = n := by omega
        have e : wcells (marks k i ++ xs.drop i) = wcells (marks k i) := by rw [List.drop_of_length_le (by rw [HX.out]; exact Nat.le_refl _), List.append_nil]
        have HE := Lib.hid e
        clear e hown hgr
        go_wp2
        go_ret
        exact ⟨by simp, by rw [← HE.out]; exact HOWN.out, HGR.out⟩

set_option maxRecDepth 100000 in
set_option maxHeartbeats 800000 in
/-- The marks are found. -/
theorem held_all (w : World) (v : Value) (n k : Nat) (hk : 1 ≤ k) (hn : k + 2 * n ≤ 1073741824) (h : Holds w v (marks k n)) :
    Calls Try.prog 37 #[v, .int .i64 k] w fun e w' => e = .returned (.int .i64 ((k : Int) + 2 * n)) ∧ Below w.heap.size w w' := by
  obtain ⟨a, cap, rfl, hc⟩ := h
  rw [marks_length]
  by_cases h0 : n = 0
  · subst h0
    clear hc
    go_enter Try.func37, Try.ntmps37
    go_wp2
    refine wp_loop_rounds 1 ?_
    rw [rounds_succ]
    go_wp2
    go_ret
    exact ⟨by simp, Below.refl _ _⟩
  · obtain ⟨b, o, rfl, hlt, hcell⟩ := hc (by intro e; have := marks_length k n; rw [e] at this; simp at this; omega)
    rw [marks_length] at hcell
    have HC := Lib.hid hcell
    clear hc hcell
    go_enter Try.func37, Try.ntmps37
    go_wp2
    go_loopw [1, 5] (fun kv iv wr => ∃ i : Nat, i ≤ n ∧ iv = .int .i64 i ∧ kv = .int .i64 ((k : Int) + 2 * i) ∧ Below w.heap.size w wr) (fun _ iv _ => n - (intOf iv).toNat)
    case atStart => exact ⟨0, Nat.zero_le _, rfl, by simp, Below.refl _ _⟩
    case round =>
      obtain ⟨i, hi, rfl, rfl, hbel⟩ := hrel
      have HBEL := Lib.hid hbel
      have hsz := hbel.size
      clear hbel
      by_cases hil : i < n
      · obtain ⟨g0, g1⟩ := HC.out i hil
        rw [marks_getD k n i hil] at g0 g1
        dsimp only at g0 g1
        rw [← HBEL.out.cell (p := ⟨b, _, none⟩) hlt] at g0 g1
        rw [show ((k + 2 * i : Nat) : Int) = (k : Int) + 2 * i from by omega] at g0
        generalize hM : markT (k + 2 * i + 1) = M at g1
        have HM := Lib.hid hM
        clear hM
        go_wp2
        go_region_held3 (fun w' => w'.cell? ⟨b, o + i * 2 + 1, none⟩ = some (.string M)) (go_keep)
          (first | (go_at_call 93; rw [show ((k : Int) + 2 * (i : Int) + 1) = ((k + 2 * i + 1 : Nat) : Int) from by omega]; refine (mark_any (k + 2 * i + 1) _ (by omega) (by omega)).mono ?_; rintro e w1 ⟨rfl, hb1⟩; rw [HM.out]; have g2 : w1.cell? ⟨b, o + i * 2 + 1, none⟩ = some (.string M) := by (rw [hb1.cell (p := ⟨b, o + i * 2 + 1, none⟩) (by simp; omega)]; simpa using g1)))
        go_wp2
        go_roundw
        case rel => exact ⟨i + 1, by omega, by go_num, by go_num, HBEL.out.trans (below_of_drew hb1 hsz)⟩
        case measure => simp [intOf]; omega
      · obtain rfl : i = n := by omega
        go_wp2
        go_ret
        exact ⟨by simp, HBEL.out⟩
end Go.Proofs.Ytgapjdkelkmdgaa.Wr
