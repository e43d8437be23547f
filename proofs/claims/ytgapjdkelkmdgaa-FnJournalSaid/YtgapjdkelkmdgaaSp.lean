/- Contracts of the law's own helpers over slices of steps: comparing two that read alike; what a slice of steps holds. Conditions: as each theorem types them. -/
import Derived.Test.YtgapjdkelkmdgaaWr
import Derived.Test.YtgapjdkelkmdgaaTxnV
import Derived.Deep.RegionHeld3
namespace Go.Proofs.Ytgapjdkelkmdgaa.Sp
open Go.ChangeShapes Go.WideShapes Go.ChangeAt Go.RowKit
open Strs (markT mark_any grow_below grow_trans own_below below_of_drew ret_int)
open Wr (Wt d0)
open Txn (St s0)
open Dk (Box blk_new blk_of RowIn Turned)
set_option linter.unusedVariables false

def scell (x : St) : List Value := [.bool x.1, .int .i64 x.2.1, .string x.2.2]
def scells (ws : List St) : List Value := ws.flatMap scell
theorem scells_length (ws : List St) : (scells ws).length = ws.length * 3 := by
  induction ws with
  | nil => rfl
  | cons a l ih => rw [scells, List.flatMap_cons, List.length_append, ← scells, ih]; simp [scell]; omega
theorem scells_append (a b : List St) : scells (a ++ b) = scells a ++ scells b := by simp [scells]
theorem scells_snoc (ws : List St) (x : St) : scells (ws ++ [x]) = scells ws ++ [.bool x.1, .int .i64 x.2.1, .string x.2.2] := by
  rw [scells_append]; rfl
theorem scells_at (ws : List St) (j : Nat) (h : j < ws.length) : (scells ws)[j * 3]? = some (.bool (ws.getD j s0).1) ∧ (scells ws)[j * 3 + 1]? = some (.int .i64 (ws.getD j s0).2.1) ∧ (scells ws)[j * 3 + 2]? = some (.string (ws.getD j s0).2.2) := by
  have e : ws = ws.take j ++ (ws.getD j s0 :: ws.drop (j + 1)) := by
    rw [List.getD_eq_getElem?_getD, List.getElem?_eq_getElem h]
    simp
  have e2 : scells ws = scells (ws.take j) ++ ([.bool (ws.getD j s0).1, .int .i64 (ws.getD j s0).2.1, .string (ws.getD j s0).2.2] ++ scells (ws.drop (j + 1))) := by
    conv => lhs; rw [e]
    rw [scells_append]; rfl
  have hl : (scells (ws.take j)).length = j * 3 := by rw [scells_length, List.length_take, Nat.min_eq_left (Nat.le_of_lt h)]
  rw [e2]
  refine ⟨?_, ?_, ?_⟩
  · rw [List.getElem?_append_right (by omega), hl]; simp
  · rw [List.getElem?_append_right (by omega), hl]; simp
  · rw [List.getElem?_append_right (by omega), hl]; simp
/-- Three cells of a step at an address. -/
def Cell3 (w : World) (b o : Nat) (x : St) : Prop := w.cell? ⟨b, o, none⟩ = some (.bool x.1) ∧ w.cell? ⟨b, o + 1, none⟩ = some (.int .i64 x.2.1) ∧ w.cell? ⟨b, o + 2, none⟩ = some (.string x.2.2)
/-- A slice value that is nil, or whose cells hold the steps ws. -/
def Holds (w : World) (v : Value) (ws : List St) : Prop :=
  ∃ (a : Option Addr) (cap : Nat), v = .slice a ws.length cap ∧ (ws ≠ [] → ∃ b o, a = some ⟨b, o, none⟩ ∧ b < w.heap.size ∧ ∀ j, j < ws.length → Cell3 w b (o + j * 3) (ws.getD j s0))
theorem holds_of_own {w : World} {base : Nat} {e : TypeId} {v : Value} {n : Nat} {ws : List St} (h : w.ownsRow base e 3 v n (scells ws)) : Holds w v ws := by
  have hl := h.1
  rw [scells_length] at hl
  have hn : n = ws.length := by omega
  rcases h.2 with ⟨rfl, h0⟩ | ⟨g, cap, cur, rfl, hb, hg, hn', _, _, htake⟩
  · have : ws = [] := List.eq_nil_of_length_eq_zero (by omega)
    subst this
    exact ⟨none, 0, rfl, fun hh => absurd rfl hh⟩
  · refine ⟨some ⟨g, 0, none⟩, cap, by rw [hn], fun _ => ⟨g, 0, rfl, (Array.getElem?_eq_some_iff.1 hg).1, fun j hj => ?_⟩⟩
    have hw := scells_at ws j hj
    unfold Cell3
    rw [Nat.zero_add, h.cellAt (j * 3) (by omega), h.cellAt (j * 3 + 1) (by omega), h.cellAt (j * 3 + 2) (by omega)]
    exact hw
theorem Cell3.below {w w' : World} {b o : Nat} {x : St} (h : Cell3 w b o x) (hlt : b < w.heap.size) (hb : Below w.heap.size w w') : Cell3 w' b o x := by
  unfold Cell3
  rw [hb.cell (p := ⟨b, o, none⟩) hlt, hb.cell (p := ⟨b, o + 1, none⟩) hlt, hb.cell (p := ⟨b, o + 2, none⟩) hlt]
  exact h
theorem holds_below {w w' : World} {v : Value} {ws : List St} (h : Holds w v ws) (hb : Below w.heap.size w w') : Holds w' v ws := by
  obtain ⟨a, cap, rfl, hc⟩ := h
  refine ⟨a, cap, rfl, fun hh => ?_⟩
  obtain ⟨b, o, rfl, hlt, hcell⟩ := hc hh
  exact ⟨b, o, rfl, Nat.lt_of_lt_of_le hlt hb.size, fun j hj => (hcell j hj).below hlt hb⟩
/-- At an index within its length a slice has an address and reads there. -/
def AtSp (w : World) (a : Option Addr) (ws : List St) : Prop :=
  ∀ i, i < ws.length → ∃ b o, a = some ⟨b, o, none⟩ ∧ b < w.heap.size ∧ Cell3 w b (o + i * 3) (ws.getD i s0)
theorem atSp {w : World} {v : Value} {ws : List St} (h : Holds w v ws) : ∃ a cap, v = .slice a ws.length cap ∧ AtSp w a ws := by
  obtain ⟨a, cap, rfl, hc⟩ := h
  refine ⟨a, cap, rfl, fun i hi => ?_⟩
  obtain ⟨b, o, rfl, hb, hcell⟩ := hc (by intro e; rw [e] at hi; simp at hi)
  exact ⟨b, o, rfl, hb, hcell i hi⟩
theorem AtSp.below {w w' : World} {a : Option Addr} {ws : List St} (h : AtSp w a ws) (hb : Below w.heap.size w w') : AtSp w' a ws := by
  intro i hi
  obtain ⟨b, o, rfl, hlt, hc⟩ := h i hi
  exact ⟨b, o, rfl, Nat.lt_of_lt_of_le hlt hb.size, hc.below hlt hb⟩
/-- A step in a block of its own. -/
theorem three {w : World} {g : Nat} {x : St} {t : TypeId} (h : w.heap[g]? = some (.cells #[.bool x.1, .int .i64 x.2.1, .string x.2.2] t (0, 0))) : w.cell? ⟨g, 0, none⟩ = some (.bool x.1) ∧ w.cell? ⟨g, 1, none⟩ = some (.int .i64 x.2.1) ∧ w.cell? ⟨g, 2, none⟩ = some (.string x.2.2) := by
  refine ⟨?_, ?_, ?_⟩ <;> rw [Checksum.cell_of h] <;> rfl

set_option maxRecDepth 100000 in
set_option maxHeartbeats 400000 in
theorem eqOne_any (x : St) (w : World) :
    Calls Try.prog 98 #[.agg #[.bool x.1, .int .i64 x.2.1, .string x.2.2], .agg #[.bool x.1, .int .i64 x.2.1, .string x.2.2]] w fun e w' => e = .returned (.bool true) ∧ Below w.heap.size w w' := by
  have hx1 := blk_new w (.cells #[.bool x.1, .int .i64 x.2.1, .string x.2.2] 88)
  have hx2 := Dk.blk_alloc hx1 (.cells #[.bool x.1, .int .i64 x.2.1, .string x.2.2] 88)
  have hx3 := blk_new (w.alloc (.cells #[.bool x.1, .int .i64 x.2.1, .string x.2.2] 88)) (.cells #[.bool x.1, .int .i64 x.2.1, .string x.2.2] 88)
  simp only [World.size_alloc] at hx3
  obtain ⟨y0, y1, y2⟩ := three hx2
  obtain ⟨z0, z1, z2⟩ := three hx3
  have HB := Lib.hid (((Below.refl w.heap.size w).alloc (Nat.le_refl _) (.cells #[.bool x.1, .int .i64 x.2.1, .string x.2.2] 88)).alloc (by simp) (.cells #[.bool x.1, .int .i64 x.2.1, .string x.2.2] 88))
  clear hx1 hx2 hx3
  obtain ⟨f, n, s⟩ := x
  dsimp only at y0 y1 y2 z0 z1 z2 HB ⊢
  go_enter Try.func98, Try.ntmps98
  go_wp2_with fail
  refine (Wr.eqOne_any (n, s) _).mono ?_
  rintro e w1 ⟨rfl, hb⟩
  go_wp2_with fail
  go_ret
  exact ⟨rfl, HB.out.trans (hb.mono HB.out.size)⟩

set_option maxRecDepth 100000 in
set_option maxHeartbeats 400000 in
/-- Two slices that read alike are found equal; only draws are made. -/
theorem eq_any (w : World) (va vb : Value) (xs : List St) (hn : xs.length ≤ 1073741824) (ha : Holds w va xs) (hb : Holds w vb xs) :
    Calls Try.prog 41 #[va, vb] w fun e w' => e = .returned (.bool true) ∧ Below w.heap.size w w' := by
  obtain ⟨a, ca, rfl, hca⟩ := ha
  obtain ⟨b, cb, rfl, hcb⟩ := hb
  by_cases h0 : xs = []
  · subst h0
    simp only [List.length_nil]
    clear hca hcb
    go_enter Try.func41, Try.ntmps41
    go_wp2
    refine wp_loop_rounds 1 ?_
    rw [rounds_succ]
    go_wp2
    go_ret
    exact ⟨rfl, Below.refl _ _⟩
  · obtain ⟨b1, o1, rfl, hl1, hc1⟩ := hca h0
    obtain ⟨b2, o2, rfl, hl2, hc2⟩ := hcb h0
    have HC1 := Lib.hid hc1
    have HC2 := Lib.hid hc2
    clear hca hcb hc1 hc2 h0
    obtain ⟨L, hL⟩ : ∃ L, L = xs.length := ⟨_, rfl⟩
    rw [← hL] at hn ⊢
    have HL := Lib.hid hL
    clear hL
    go_enter Try.func41, Try.ntmps41
    go_wp2
    go_loopw [5] (fun i wr => ∃ k : Nat, k ≤ L ∧ i = .int .i64 k ∧ Below w.heap.size w wr) (fun i _ => L - (intOf i).toNat)
    case atStart => exact ⟨0, Nat.zero_le _, rfl, Below.refl _ _⟩
    case round =>
      obtain ⟨k, hk, rfl, hbel⟩ := hrel
      have HBEL := Lib.hid hbel
      have hsz := hbel.size
      clear hbel
      by_cases hlt : k < L
      · have g1 := HC1.out k (by rw [← HL.out]; exact hlt)
        have g2 := HC2.out k (by rw [← HL.out]; exact hlt)
        have q1 := g1.below hl1 HBEL.out
        have q2 := g2.below hl2 HBEL.out
        clear g1 g2
        generalize xs.getD k s0 = x at q1 q2
        have HQ1 := Lib.hid q1
        have HQ2 := Lib.hid q2
        obtain ⟨g1, g2, g3⟩ := q1
        obtain ⟨h1, h2, h3⟩ := q2
        have hlb1 : b1 < wr.heap.size := by omega
        have hlb2 : b2 < wr.heap.size := by omega
        go_wp2
        go_region_held3 (fun w' => w'.cell? ⟨b1, o1 + k * 3, none⟩ = some (.bool x.1) ∧ w'.cell? ⟨b1, o1 + k * 3 + 1, none⟩ = some (.int .i64 x.2.1) ∧ w'.cell? ⟨b1, o1 + k * 3 + 2, none⟩ = some (.string x.2.2) ∧ w'.cell? ⟨b2, o2 + k * 3, none⟩ = some (.bool x.1) ∧ w'.cell? ⟨b2, o2 + k * 3 + 1, none⟩ = some (.int .i64 x.2.1) ∧ w'.cell? ⟨b2, o2 + k * 3 + 2, none⟩ = some (.string x.2.2)) (go_keep)
          (first | (go_at_call 98; refine (eqOne_any x _).mono ?_; rintro e w1 ⟨rfl, hb1⟩; obtain ⟨r1, r2, r3⟩ := Cell3.below (show Cell3 wr.drew b1 (o1 + k * 3) x from HQ1.out) hlb1 hb1; obtain ⟨r4, r5, r6⟩ := Cell3.below (show Cell3 wr.drew b2 (o2 + k * 3) x from HQ2.out) hlb2 hb1))
        go_wp2
        go_roundw
        case rel => exact ⟨k + 1, by omega, by go_num, HBEL.out.trans (below_of_drew hb1 hsz)⟩
        case measure => simp [intOf]; omega
      · go_wp2
        go_ret
        exact ⟨rfl, HBEL.out⟩

end Go.Proofs.Ytgapjdkelkmdgaa.Sp
