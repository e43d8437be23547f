/- A part. -/
import Derived.Test.YthppbcnejapbiaaGreatDoorDkOpen
import Derived.Deep.RegionHeld3
import Derived.Test.YthppbcnejapbiaaGreatDoorAclV
namespace Go.Proofs.YthppbcnejapbiaaGreatDoor.Ae
set_option maxHeartbeats 800000
set_option maxRecDepth 100000
open Go.ChangeShapes Go.WideShapes Go.ChangeAt Go.RowKit
open Strs (grow_below grow_trans own_below below_of_drew ret_int)
open Dk (Turned)
set_option linter.unusedVariables false
open AclV (At a0)
def cell1 (x : At) : List Value := [.int .i64 x.1, .int .i64 x.2.1, .int .i64 x.2.2]
def cells (ws : List At) : List Value := ws.flatMap cell1
theorem cells_length (ws : List At) : (cells ws).length = ws.length * 3 := by
 induction ws with
 | nil => rfl
 | cons a l ih => rw [cells, List.flatMap_cons, List.length_append, <- cells, ih]; simp [cell1]; omega
theorem cells_append (a b : List At) : cells (a ++ b) = cells a ++ cells b := by simp [cells]
theorem cells_at (ws : List At) (j : Nat) (h : j < ws.length) : (cells ws)[j * 3]? = some (.int .i64 (ws.getD j a0).1) /\ (cells ws)[j * 3 + 1]? = some (.int .i64 (ws.getD j a0).2.1) /\ (cells ws)[j * 3 + 2]? = some (.int .i64 (ws.getD j a0).2.2) := by
 have e : ws = ws.take j ++ (ws.getD j a0 :: ws.drop (j + 1)) := by
  rw [List.getD_eq_getElem?_getD, List.getElem?_eq_getElem h]
  simp
 have e2 : cells ws = cells (ws.take j) ++ ([.int .i64 (ws.getD j a0).1, .int .i64 (ws.getD j a0).2.1, .int .i64 (ws.getD j a0).2.2] ++ cells (ws.drop (j + 1))) := by
  conv => lhs; rw [e]
  rw [cells_append]; rfl
 have hl : (cells (ws.take j)).length = j * 3 := by rw [cells_length, List.length_take, Nat.min_eq_left (Nat.le_of_lt h)]
 rw [e2]
 refine ⟨?_, ?_, ?_⟩
 ·rw [List.getElem?_append_right (by omega), hl]; simp
 ·rw [List.getElem?_append_right (by omega), hl]; simp
 ·rw [List.getElem?_append_right (by omega), hl]; simp
def Cell (w : World) (b o : Nat) (x : At) : Prop := w.cell? ⟨b, o, none⟩ = some (.int .i64 x.1) /\ w.cell? ⟨b, o + 1, none⟩ = some (.int .i64 x.2.1) /\ w.cell? ⟨b, o + 2, none⟩ = some (.int .i64 x.2.2)
def Holds (w : World) (v : Value) (ws : List At) : Prop :=
 ∃ (a : Option Addr) (cap : Nat), v = .slice a ws.length cap /\ (ws ≠ [] -> ∃ b o, a = some ⟨b, o, none⟩ /\ b < w.heap.size /\ ∀ j, j < ws.length -> Cell w b (o + j * 3) (ws.getD j a0))
theorem holds_of_own {w : World} {base : Nat} {e : TypeId} {v : Value} {n : Nat} {ws : List At} (h : w.ownsRow base e 3 v n (cells ws)) : Holds w v ws := by
 have hl := h.1
 rw [cells_length] at hl
 have hn : n = ws.length := by omega
 rcases h.2 with ⟨rfl, h0⟩ | ⟨g, cap, cur, rfl, hb, hg, hn', _, _, htake⟩
 ·have : ws = [] := List.eq_nil_of_length_eq_zero (by omega)
  subst this
  exact ⟨none, 0, rfl, fun hh => absurd rfl hh⟩
 ·refine ⟨some ⟨g, 0, none⟩, cap, by rw [hn], fun _ => ⟨g, 0, rfl, (Array.getElem?_eq_some_iff.1 hg).1, fun j hj => ?_⟩⟩
  have hw := cells_at ws j hj
  unfold Cell
  rw [Nat.zero_add, h.cellAt (j * 3) (by omega), h.cellAt (j * 3 + 1) (by omega), h.cellAt (j * 3 + 2) (by omega)]
  exact hw
theorem Cell.below {w w' : World} {b o : Nat} {x : At} (h : Cell w b o x) (hlt : b < w.heap.size) (hb : Below w.heap.size w w') : Cell w' b o x := by
 unfold Cell
 rw [hb.cell (p := ⟨b, o, none⟩) hlt, hb.cell (p := ⟨b, o + 1, none⟩) hlt, hb.cell (p := ⟨b, o + 2, none⟩) hlt]
 exact h
theorem holds_below {w w' : World} {v : Value} {ws : List At} (h : Holds w v ws) (hb : Below w.heap.size w w') : Holds w' v ws := by
 obtain ⟨a, cap, rfl, hc⟩ := h
 refine ⟨a, cap, rfl, fun hh => ?_⟩
 obtain ⟨b, o, rfl, hlt, hcell⟩ := hc hh
 exact ⟨b, o, rfl, Nat.lt_of_lt_of_le hlt hb.size, fun j hj => (hcell j hj).below hlt hb⟩
def AtL (w : World) (a : Option Addr) (ws : List At) : Prop :=
 ∀ i, i < ws.length -> ∃ b o, a = some ⟨b, o, none⟩ /\ b < w.heap.size /\ Cell w b (o + i * 3) (ws.getD i a0)
theorem atL {w : World} {v : Value} {ws : List At} (h : Holds w v ws) : ∃ a cap, v = .slice a ws.length cap /\ AtL w a ws := by
 obtain ⟨a, cap, rfl, hc⟩ := h
 refine ⟨a, cap, rfl, fun i hi => ?_⟩
 obtain ⟨b, o, rfl, hb, hcell⟩ := hc (by intro e; rw [e] at hi; simp at hi)
 exact ⟨b, o, rfl, hb, hcell i hi⟩
theorem AtL.below {w w' : World} {a : Option Addr} {ws : List At} (h : AtL w a ws) (hb : Below w.heap.size w w') : AtL w' a ws := by
 intro i hi
 obtain ⟨b, o, rfl, hlt, hc⟩ := h i hi
 exact ⟨b, o, rfl, Nat.lt_of_lt_of_le hlt hb.size, hc.below hlt hb⟩
theorem eqOne_any (x : At) (w : World) :
  Calls Tryz.prog 196 #[.agg #[.int .i64 x.1, .int .i64 x.2.1, .int .i64 x.2.2], .agg #[.int .i64 x.1, .int .i64 x.2.1, .int .i64 x.2.2]] w fun e w' => e = .returned (.bool true) /\ Below w.heap.size w w' := by
 obtain ⟨n0, n1, n2⟩ := x
 dsimp only
 go_enter Tryz.func196, Tryz.ntmps196
 go_wp2
 go_ret
 exact ⟨rfl, ((Below.refl w.heap.size w).alloc (Nat.le_refl _) _).alloc (by simp) _⟩
theorem eq_any (w : World) (va vb : Value) (xs : List At) (hn : xs.length <= 1073741824) (ha : Holds w va xs) (hb : Holds w vb xs) :
  Calls Tryz.prog 148 #[va, vb] w fun e w' => e = .returned (.bool true) /\ Below w.heap.size w w' := by
 obtain ⟨a, ca, rfl, hca⟩ := ha
 obtain ⟨b, cb, rfl, hcb⟩ := hb
 by_cases h0 : xs = []
 ·subst h0
  simp only [List.length_nil]
  clear hca hcb
  go_enter Tryz.func148, Tryz.ntmps148
  go_wp2
  refine wp_loop_rounds 1 ?_
  rw [rounds_succ]
  go_wp2
  go_ret
  exact ⟨rfl, Below.refl _ _⟩
 ·obtain ⟨b1, o1, rfl, hl1, hc1⟩ := hca h0
  obtain ⟨b2, o2, rfl, hl2, hc2⟩ := hcb h0
  have HC1 := Lib.hid hc1
  have HC2 := Lib.hid hc2
  clear hca hcb hc1 hc2 h0
  obtain ⟨L, hL⟩ : ∃ L, L = xs.length := ⟨_, rfl⟩
  rw [<- hL] at hn ⊢
  have HL := Lib.hid hL
  clear hL
  go_enter Tryz.func148, Tryz.ntmps148
  go_wp2
  go_loopw [5] (fun i wr => ∃ k : Nat, k <= L /\ i = .int .i64 k /\ Below w.heap.size w wr) (fun i _ => L - (intOf i).toNat)
  case atStart => exact ⟨0, Nat.zero_le _, rfl, Below.refl _ _⟩
  case round =>
   obtain ⟨k, hk, rfl, hbel⟩ := hrel
   have HBEL := Lib.hid hbel
   have hsz := hbel.size
   clear hbel
   by_cases hlt : k < L
   ·obtain ⟨g0, g1, g2⟩ := HC1.out k (by rw [<- HL.out]; exact hlt)
    obtain ⟨k0, k1, k2⟩ := HC2.out k (by rw [<- HL.out]; exact hlt)
    generalize xs.getD k a0 = x at g0 k0 g1 k1 g2 k2
    rw [<- HBEL.out.cell (p := ⟨b1, _, none⟩) hl1] at g0 g1 g2
    rw [<- HBEL.out.cell (p := ⟨b2, _, none⟩) hl2] at k0 k1 k2
    go_wp2
    go_region_held3 (fun w' => w'.cell? ⟨b1, o1 + k * 3, none⟩ = some (.int .i64 x.1) /\ w'.cell? ⟨b1, o1 + k * 3 + 1, none⟩ = some (.int .i64 x.2.1) /\ w'.cell? ⟨b1, o1 + k * 3 + 2, none⟩ = some (.int .i64 x.2.2) /\ w'.cell? ⟨b2, o2 + k * 3, none⟩ = some (.int .i64 x.1) /\ w'.cell? ⟨b2, o2 + k * 3 + 1, none⟩ = some (.int .i64 x.2.1) /\ w'.cell? ⟨b2, o2 + k * 3 + 2, none⟩ = some (.int .i64 x.2.2)) (go_keep)
     (first | (go_at_call 196; refine (eqOne_any x _).mono ?_; rintro e w1 ⟨rfl, hb1⟩; have qb10 := (hb1.cell (p := ⟨b1, o1 + k * 3, none⟩) (by simp; omega)); have qb11 := (hb1.cell (p := ⟨b1, o1 + k * 3 + 1, none⟩) (by simp; omega)); have qb12 := (hb1.cell (p := ⟨b1, o1 + k * 3 + 2, none⟩) (by simp; omega)); have qb20 := (hb1.cell (p := ⟨b2, o2 + k * 3, none⟩) (by simp; omega)); have qb21 := (hb1.cell (p := ⟨b2, o2 + k * 3 + 1, none⟩) (by simp; omega)); have qb22 := (hb1.cell (p := ⟨b2, o2 + k * 3 + 2, none⟩) (by simp; omega))))
    go_wp2
    go_roundw
    case rel => exact ⟨k + 1, by omega, by go_num, HBEL.out.trans (below_of_drew hb1 hsz)⟩
    case measure => simp [intOf]; omega
   ·go_wp2
    go_ret
    exact ⟨rfl, HBEL.out⟩
def marks (k n : Nat) : List At := (List.range n).map fun i => (((k + 3 * i : Nat) : Int), ((k + 3 * i + 1 : Nat) : Int), ((k + 3 * i + 2 : Nat) : Int))
theorem marks_length (k n : Nat) : (marks k n).length = n := by simp [marks]
theorem marks_getD (k n j : Nat) (h : j < n) : (marks k n).getD j a0 = (((k + 3 * j : Nat) : Int), ((k + 3 * j + 1 : Nat) : Int), ((k + 3 * j + 2 : Nat) : Int)) := by
 simp [marks, List.getD, h]
theorem marks_succ (k n : Nat) : marks k (n + 1) = marks k n ++ [(((k + 3 * n : Nat) : Int), ((k + 3 * n + 1 : Nat) : Int), ((k + 3 * n + 2 : Nat) : Int))] := by simp [marks, List.range_succ]
theorem set_mark (k i : Nat) (xs : List At) (h : i < xs.length) :
  (((cells (marks k i ++ xs.drop i)).set (i * 3) (.int .i64 ((k : Int) + 3 * i))).set (i * 3 + 1) (.int .i64 ((k : Int) + 3 * i + 1))).set (i * 3 + 2) (.int .i64 ((k : Int) + 3 * i + 2)) = cells (marks k (i + 1) ++ xs.drop (i + 1)) := by
 have hl : (cells (marks k i)).length = i * 3 := by rw [cells_length, marks_length]
 rw [cells_append, List.set_append_right _ _ (by omega), hl, Nat.sub_self, List.set_append_right _ _ (by omega), hl, show i * 3 + 1 - i * 3 = 1 from by omega, List.set_append_right _ _ (by omega), hl, show i * 3 + 2 - i * 3 = 2 from by omega, marks_succ,
  show cells (xs.drop i) = Value.int .i64 xs[i].1 :: Value.int .i64 xs[i].2.1 :: Value.int .i64 xs[i].2.2 :: cells (xs.drop (i + 1)) from by rw [List.drop_eq_getElem_cons h]; rfl,
  cells_append, cells_append]
 simp [cells, cell1]
theorem mark_all (w : World) (base : Nat) (v : Value) (n k : Nat) (xs : List At) (hk : 1 <= k) (hn : k + 3 * n <= 1073741824) (hown : w.ownsRow base 161 3 v n (cells xs)) :
  Calls Tryz.prog 108 #[v, .int .i64 k] w fun e w' => e = .returned (.int .i64 ((k : Int) + 3 * n)) /\ w'.ownsRow base 161 3 v n (cells (marks k n)) /\ w.grownBy w' v.ownBlock := by
 have hl := hown.1
 rw [cells_length] at hl
 by_cases h0 : n = 0
 ·subst h0
  obtain rfl : xs = [] := List.eq_nil_of_length_eq_zero (by omega)
  obtain ⟨a, cap, rfl⟩ : ∃ a cap, v = .slice a 0 cap := by
   rcases hown.2 with ⟨rfl, _⟩ | ⟨g, cap, cur, rfl, _⟩
   ·exact ⟨_, _, rfl⟩
   ·exact ⟨_, _, rfl⟩
  have HO := Lib.hid hown
  clear hown hl
  go_enter Tryz.func108, Tryz.ntmps108
  go_wp2
  refine wp_loop_rounds 1 ?_
  rw [rounds_succ]
  go_wp2
  go_ret
  exact ⟨by simp, HO.out, World.grownBy.refl _ _⟩
 ·obtain ⟨g, cap, rfl, hbg⟩ : ∃ g cap, v = .slice (some ⟨g, 0, none⟩) n cap /\ g < w.heap.size := by
   rcases hown.2 with ⟨_, hz⟩ | ⟨g, cap, cur, rfl, _, hg, _⟩
   ·exact absurd hz h0
   ·exact ⟨g, cap, rfl, (Array.getElem?_eq_some_iff.1 hg).1⟩
  have HO := Lib.hid hown
  have HX := Lib.hid (show xs.length = n by omega)
  clear hown hl h0
  go_enter Tryz.func108, Tryz.ntmps108
  go_wp2
  go_loopw [1, 5] (fun kv iv wr => ∃ i : Nat, i <= n /\ iv = .int .i64 i /\ kv = .int .i64 ((k : Int) + 3 * i) /\ wr.ownsRow base 161 3 (.slice (some ⟨g, 0, none⟩) n cap) n (cells (marks k i ++ xs.drop i)) /\ w.grownBy wr (some g)) (fun _ iv _ => n - (intOf iv).toNat)
  case atStart => exact ⟨0, Nat.zero_le _, rfl, by simp, by simpa [marks] using HO.out, World.grownBy.refl _ _⟩
  case round =>
   obtain ⟨i, hi, rfl, rfl, hown, hgr⟩ := hrel
   have HOWN := Lib.hid hown
   have HGR := Lib.hid hgr
   by_cases hlt : i < n
   ·have hx : i < xs.length := by rw [HX.out]; exact hlt
    have hlen : (cells (marks k i ++ xs.drop i)).length = n * 3 := by rw [cells_length, List.length_append, marks_length, List.length_drop, HX.out]; omega
    have HOWN0 := HOWN
    have hc0 := hown.cellAt (i * 3) (by omega)
    have hf0 := hown.frozenAt (i * 3)
    obtain ⟨y0, hy0⟩ : ∃ y, (cells (marks k i ++ xs.drop i))[i * 3]? = some y := ⟨_, List.getElem?_eq_getElem (by first | omega | (simp only [List.length_set]; omega))⟩
    rw [hy0] at hc0
    have hst0 := hown.stored (i * 3) (.int .i64 ((k : Int) + 3 * i))
    have hc1 := hst0.1.cellAt (i * 3 + 1) (by omega)
    have hf1 := hst0.1.frozenAt (i * 3 + 1)
    obtain ⟨y1, hy1⟩ : ∃ y, ((cells (marks k i ++ xs.drop i)).set (i * 3) (.int .i64 ((k : Int) + 3 * i)))[i * 3 + 1]? = some y := ⟨_, List.getElem?_eq_getElem (by first | omega | (simp only [List.length_set]; omega))⟩
    rw [hy1] at hc1
    have hst1 := hst0.1.stored (i * 3 + 1) (.int .i64 ((k : Int) + 3 * i + 1))
    have hc2 := hst1.1.cellAt (i * 3 + 2) (by omega)
    have hf2 := hst1.1.frozenAt (i * 3 + 2)
    obtain ⟨y2, hy2⟩ : ∃ y, (((cells (marks k i ++ xs.drop i)).set (i * 3) (.int .i64 ((k : Int) + 3 * i))).set (i * 3 + 1) (.int .i64 ((k : Int) + 3 * i + 1)))[i * 3 + 2]? = some y := ⟨_, List.getElem?_eq_getElem (by first | omega | (simp only [List.length_set]; omega))⟩
    rw [hy2] at hc2
    have hst2 := hst1.1.stored (i * 3 + 2) (.int .i64 ((k : Int) + 3 * i + 2))
    have hgr2 := grow_trans (grow_trans (grow_trans (hgr) hst0.2) hst1.2) hst2.2
    have hlast := hst2.1
    rw [set_mark k i xs hx] at hlast
    have HST := Lib.hid hlast
    have HGR2 := Lib.hid hgr2
    clear hown hgr hlast hgr2 hlen hst0 hy0 hst1 hy1 hst2 hy2
    go_wp2
    go_roundw
    case rel => exact ⟨i + 1, by omega, by go_num, by go_num, HST.out, HGR2.out⟩
    case measure => simp [intOf]; omega
   ·obtain rfl : i = n := by omega
    have e : cells (marks k i ++ xs.drop i) = cells (marks k i) := by rw [List.drop_of_length_le (by rw [HX.out]; exact Nat.le_refl _), List.append_nil]
    have HE := Lib.hid e
    clear e hown hgr
    go_wp2
    go_ret
    exact ⟨by simp, by rw [<- HE.out]; exact HOWN.out, HGR.out⟩
theorem held_all (w : World) (v : Value) (n k : Nat) (hk : 1 <= k) (hn : k + 3 * n <= 1073741824) (h : Holds w v (marks k n)) :
  Calls Tryz.prog 127 #[v, .int .i64 k] w fun e w' => e = .returned (.int .i64 ((k : Int) + 3 * n)) /\ Below w.heap.size w w' := by
 obtain ⟨a, cap, rfl, hc⟩ := h
 rw [marks_length]
 by_cases h0 : n = 0
 ·subst h0
  clear hc
  go_enter Tryz.func127, Tryz.ntmps127
  go_wp2
  refine wp_loop_rounds 1 ?_
  rw [rounds_succ]
  go_wp2
  go_ret
  exact ⟨by simp, Below.refl _ _⟩
 ·obtain ⟨b, o, rfl, hlt, hcell⟩ := hc (by intro e; have := marks_length k n; rw [e] at this; simp at this; omega)
  rw [marks_length] at hcell
  have HC := Lib.hid hcell
  clear hc hcell
  go_enter Tryz.func127, Tryz.ntmps127
  go_wp2
  go_loopw [1, 5] (fun kv iv wr => ∃ i : Nat, i <= n /\ iv = .int .i64 i /\ kv = .int .i64 ((k : Int) + 3 * i) /\ Below w.heap.size w wr) (fun _ iv _ => n - (intOf iv).toNat)
  case atStart => exact ⟨0, Nat.zero_le _, rfl, by simp, Below.refl _ _⟩
  case round =>
   obtain ⟨i, hi, rfl, rfl, hbel⟩ := hrel
   have HBEL := Lib.hid hbel
   by_cases hil : i < n
   ·obtain ⟨g0, g1, g2⟩ := HC.out i hil
    rw [marks_getD k n i hil] at g0 g1 g2
    dsimp only at g0 g1 g2
    rw [<- HBEL.out.cell (p := ⟨b, _, none⟩) hlt] at g0 g1 g2
    rw [show ((k + 3 * i : Nat) : Int) = (k : Int) + 3 * i from by omega] at g0
    rw [show ((k + 3 * i + 1 : Nat) : Int) = (k : Int) + 3 * i + 1 from by omega] at g1
    rw [show ((k + 3 * i + 2 : Nat) : Int) = (k : Int) + 3 * i + 2 from by omega] at g2
    clear hbel
    go_wp2
    go_roundw
    case rel => exact ⟨i + 1, by omega, by go_num, by go_num, HBEL.out⟩
    case measure => simp [intOf]; omega
   ·obtain rfl : i = n := by omega
    clear hbel
    go_wp2
    go_ret
    exact ⟨by simp, HBEL.out⟩
theorem sz_any (w : World) (v : Value) (xs : List At) (left : Nat) (hleft : left <= 1073741824) (hlen : xs.length <= maxLen) (h : Holds w v xs) :
  Calls Tryz.prog 142 #[v, .int .i64 left] w fun e w' => e = .returned (.int .i64 (if xs.length <= left then ((left - xs.length : Nat) : Int) else -1)) /\ Below w.heap.size w w' := by
 unfold maxLen at hlen
 obtain ⟨a, cap, rfl, hc⟩ := h
 clear hc
 generalize xs.length = L at hlen ⊢
 by_cases hlt : L <= left
 ·rw [if_pos hlt]
  go_enter Tryz.func142, Tryz.ntmps142
  go_wp2
  go_ret
  exact ⟨ret_int (by omega), Below.refl _ _⟩
 ·rw [if_neg hlt]
  go_enter Tryz.func142, Tryz.ntmps142
  go_wp2
  go_ret
  exact ⟨rfl, Below.refl _ _⟩
theorem toOne_any (x : At) (w : World) :
  Calls Tryz.prog 191 #[.agg #[.int .i64 x.1, .int .i64 x.2.1, .int .i64 x.2.2]] w fun e w' => e = .returned (.agg #[.int .i64 x.1, .int .i64 x.2.1, .int .i64 x.2.2]) /\ Below w.heap.size w w' := by
 obtain ⟨n0, n1, n2⟩ := x
 dsimp only
 go_enter Tryz.func191, Tryz.ntmps191
 go_wp2
 refine bodyPost_ret (v := .agg #[.int .i64 n0, .int .i64 n1, .int .i64 n2]) (by simp [results, Tryz.results191, go_sem]) rfl ⟨rfl, ?_⟩
 exact (((Below.refl w.heap.size w).alloc (Nat.le_refl _) _).alloc (by simp) _).alloc (by simp; omega) _
theorem info : (Tryz.prog.info? 161).map (fun i => (i.zero, i.size, i.bytes)) = some (some (.agg #[.int .i64 0, .int .i64 0, .int .i64 0]), 3, 24) := by kernel_rfl
theorem take_set (l : List Value) (i : Nat) (u0 u1 u2 : Value) (h : i * 3 + 2 < l.length) : (((l.set (i * 3) (u0)).set (i * 3 + 1) (u1)).set (i * 3 + 2) (u2)).take ((i + 1) * 3) = l.take (i * 3) ++ [u0, u1, u2] := by
 rw [show (i + 1) * 3 = i * 3 + 2 + 1 from by omega]
 rw [List.take_succ_eq_append_getElem (by simp only [List.length_set]; omega), List.take_set_of_le (Nat.le_refl _)]
 rw [List.take_succ_eq_append_getElem (by simp only [List.length_set]; omega), List.take_set_of_le (Nat.le_refl _)]
 rw [List.take_succ_eq_append_getElem (by simp only [List.length_set]; omega), List.take_set_of_le (Nat.le_refl _)]
 simp
theorem to_any (w : World) (v : Value) (xs : List At) (hlen : xs.length <= 1073741824) (h : Holds w v xs) :
  Calls Tryz.prog 143 #[v] w fun e w' => ∃ v', e = .returned v' /\ w'.ownsRow w.heap.size 161 3 v' xs.length (cells xs) /\ Below w.heap.size w w' := by
 obtain ⟨i0, hi, hz0, hz1, hz2⟩ := info_parts info
 obtain ⟨a, cap, rfl, hc⟩ := h
 obtain ⟨L, hL⟩ : ∃ L, L = xs.length := ⟨_, rfl⟩
 have hcase : L = 0 \/ ∃ b o, a = some ⟨b, o, none⟩ /\ b < w.heap.size /\ ∀ j, j < xs.length -> Cell w b (o + j * 3) (xs.getD j a0) := by
  by_cases h0 : xs = []
  ·left; rw [hL, h0]; rfl
  ·right; exact hc h0
 rw [<- hL] at hlen ⊢
 have HL := Lib.hid hL
 clear hL hc
 have hro : i0.bytes * L <= 281474976710656 := by rw [hz2]; omega
 have HRO := Lib.hid hro
 have HB := Lib.hid hz2
 clear hro hz2
 rcases hcase with rfl | ⟨b, o, rfl, hb, hcell⟩
 ·go_enter Tryz.func143, Tryz.ntmps143
  go_wp2_with (at_make; refine wpList_make_full _ rfl _ _ 87 rfl w.heap.size 161 i0 (.agg #[.int .i64 0, .int .i64 0, .int .i64 0]) 3 Tryz.underlying87 hi hz0 hz1 .i64 .i64 _ _ 0 rfl rfl rfl rfl ?c1 ?c2 ?c3 ?_)
  case c1 => exact HRO.out
  case c2 => unfold maxLen; omega
  case c3 => exact Nat.le_refl _
  intro w1 hown1 hg1
  have HO1 := Lib.hid hown1
  have HB1 := Lib.hid (show Below w.heap.size w w1 from (Below.refl _ _).grown hg1 (Nat.le_refl _) (fun k hk => by cases hk))
  clear hown1 hg1
  go_wp2
  refine wp_loop_rounds 1 ?_
  rw [rounds_succ]
  go_wp2
  go_ret
  have hx : xs = [] := List.eq_nil_of_length_eq_zero HL.out.symm
  refine ⟨_, rfl, ?_, HB1.out⟩
  subst hx
  have := HO1.out
  simpa [madeCells, cells] using this
 ·have HC := Lib.hid hcell
  clear hcell
  go_enter Tryz.func143, Tryz.ntmps143
  go_wp2_with (at_make; refine wpList_make_full _ rfl _ _ 87 rfl w.heap.size 161 i0 (.agg #[.int .i64 0, .int .i64 0, .int .i64 0]) 3 Tryz.underlying87 hi hz0 hz1 .i64 .i64 _ _ L rfl rfl rfl rfl ?c1 ?c2 ?c3 ?_)
  case c1 => exact HRO.out
  case c2 => unfold maxLen; omega
  case c3 => exact Nat.le_refl _
  intro w1 hown1 hg1
  have HO1 := Lib.hid hown1
  have HB1 := Lib.hid (show Below w.heap.size w w1 from (Below.refl _ _).grown hg1 (Nat.le_refl _) (fun k hk => by cases hk))
  clear hown1 hg1
  go_wp2
  go_loopw [4] (fun iv wr => ∃ (i : Nat) (l : List Value), i <= L /\ iv = .int .i64 i /\ wr.ownsRow w.heap.size 161 3 (.slice (some ⟨w.heap.size, 0, none⟩) L L) L l /\ l.take (i * 3) = cells (xs.take i) /\ Below w.heap.size w wr) (fun iv _ => L - (intOf iv).toNat)
  case atStart => exact ⟨0, _, Nat.zero_le _, rfl, HO1.out, by simp [cells], HB1.out⟩
  case round =>
   obtain ⟨i, l, hi, rfl, hown, htake, hbel⟩ := hrel
   have HO := Lib.hid hown
   have HT := Lib.hid htake
   have HBEL := Lib.hid hbel
   clear hown htake hbel HO1 HB1
   by_cases hlt : i < L
   ·have hlx : i < xs.length := by rw [<- HL.out]; exact hlt
    have hll : i * 3 + 2 < l.length := by have := HO.out.1; omega
    obtain ⟨g0, g1, g2⟩ := HC.out i hlx
    rw [<- HBEL.out.cell (p := ⟨b, _, none⟩) hb] at g0 g1 g2
    have hx : cells (xs.take (i + 1)) = cells (xs.take i) ++ cell1 (xs.getD i a0) := by
     rw [List.take_succ_eq_append_getElem hlx, cells_append]
     simp [List.getD, List.getElem?_eq_getElem hlx, cells]
    have HXX := Lib.hid hx
    clear hx
    generalize xs.getD i a0 = x at g0 g1 g2 HXX
    go_wp2_with fail
    refine (toOne_any x _).mono ?_
    rintro e w2 ⟨rfl, hb2⟩
    have HB2 := Lib.hid (HBEL.out.trans (hb2.mono HBEL.out.size))
    have hown := own_below HO.out hb2
    have hc0 := hown.cellAt (i * 3) (by omega)
    rw [List.getElem?_eq_getElem (show i * 3 < l.length by omega)] at hc0
    have hf0 := hown.frozenAt (i * 3)
    have hc1 := hown.cellAt (i * 3 + 1) (by omega)
    rw [List.getElem?_eq_getElem (show i * 3 + 1 < l.length by omega)] at hc1
    have hf1 := hown.frozenAt (i * 3 + 1)
    have hc2 := hown.cellAt (i * 3 + 2) (by omega)
    rw [List.getElem?_eq_getElem (show i * 3 + 2 < l.length by omega)] at hc2
    have hf2 := hown.frozenAt (i * 3 + 2)
    have hst := (((hown.stored (i * 3) (.int .i64 x.1)).1.stored (i * 3 + 1) (.int .i64 x.2.1)).1.stored (i * 3 + 2) (.int .i64 x.2.2))
    have hts := take_set l i (.int .i64 x.1) (.int .i64 x.2.1) (.int .i64 x.2.2) hll
    rw [HT.out, show [Value.int .i64 x.1, .int .i64 x.2.1, .int .i64 x.2.2] = cell1 x from rfl, <- HXX.out] at hts
    have HST := Lib.hid hst.1
    have HTS := Lib.hid hts
    clear hst hts hown g0 g1 g2 hb2
    generalize l[i * 3] = y0 at hc0
    generalize l[i * 3 + 1] = y1 at hc1
    generalize l[i * 3 + 2] = y2 at hc2
    go_wp2
    go_roundw
    case rel => exact ⟨i + 1, (((l.set (i * 3) (.int .i64 x.1)).set (i * 3 + 1) (.int .i64 x.2.1)).set (i * 3 + 2) (.int .i64 x.2.2)), by omega, by go_num, HST.out, HTS.out, ((HB2.out.setCell (Nat.le_refl _) _).setCell (Nat.le_refl _) _).setCell (Nat.le_refl _) _⟩
    case measure => simp [intOf]; omega
   ·obtain rfl : i = L := by omega
    go_wp2
    go_ret
    refine ⟨_, rfl, ?_, HBEL.out⟩
    have h1 := HT.out
    have h2 := HO.out.1
    rw [List.take_of_length_le (by omega), List.take_of_length_le (by rw [HL.out]; exact Nat.le_refl _)] at h1
    rw [<- h1]; exact HO.out
end Go.Proofs.YthppbcnejapbiaaGreatDoor.Ae
