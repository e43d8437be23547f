/- Contracts and plain facts that a law of this seat leans on. Conditions: as each theorem types them. -/
import Derived.Test.YthppbcnejapbiaaGreatDoorStrsTwo
namespace Go.Proofs.YthppbcnejapbiaaGreatDoor.Wr
open Go.ChangeShapes Go.WideShapes Go.ChangeAt Go.RowKit
open Strs (markT mark_any grow_below grow_trans own_below below_of_drew ret_int)
set_option linter.unusedVariables false

/-- A write: its sector, its data. -/
abbrev Wt := Int × ByteArray
def d0 : Wt := (0, ⟨#[]⟩)
def wcell (x : Wt) : List Value := [.int .i64 x.1, .string x.2]
def wcells (ws : List Wt) : List Value := ws.flatMap wcell
theorem wcells_length (ws : List Wt) : (wcells ws).length = ws.length * 2 := by
  induction ws with
  | nil => rfl
  | cons a l ih => rw [wcells, List.flatMap_cons, List.length_append, ← wcells, ih]; simp [wcell]; omega
theorem wcells_append (a b : List Wt) : wcells (a ++ b) = wcells a ++ wcells b := by simp [wcells]
theorem wcells_at (ws : List Wt) (j : Nat) (h : j < ws.length) : (wcells ws)[j * 2]? = some (.int .i64 (ws.getD j d0).1) ∧ (wcells ws)[j * 2 + 1]? = some (.string (ws.getD j d0).2) := by
  have e : ws = ws.take j ++ (ws.getD j d0 :: ws.drop (j + 1)) := by
    rw [List.getD_eq_getElem?_getD, List.getElem?_eq_getElem h]
    simp
  have e2 : wcells ws = wcells (ws.take j) ++ ([.int .i64 (ws.getD j d0).1, .string (ws.getD j d0).2] ++ wcells (ws.drop (j + 1))) := by
    conv => lhs; rw [e]
    rw [wcells_append]; rfl
  have hl : (wcells (ws.take j)).length = j * 2 := by rw [wcells_length, List.length_take, Nat.min_eq_left (Nat.le_of_lt h)]
  rw [e2]
  constructor
  · rw [List.getElem?_append_right (by omega), hl]; simp
  · rw [List.getElem?_append_right (by omega), hl]; simp
/-- A slice value that is nil, or whose cells hold the writes ws. -/
def Holds (w : World) (v : Value) (ws : List Wt) : Prop :=
  ∃ (a : Option Addr) (cap : Nat), v = .slice a ws.length cap ∧ (ws ≠ [] → ∃ b o, a = some ⟨b, o, none⟩ ∧ b < w.heap.size ∧ ∀ j, j < ws.length → w.cell? ⟨b, o + j * 2, none⟩ = some (.int .i64 (ws.getD j d0).1) ∧ w.cell? ⟨b, o + j * 2 + 1, none⟩ = some (.string (ws.getD j d0).2))
theorem holds_of_own {w : World} {base : Nat} {e : TypeId} {v : Value} {n : Nat} {ws : List Wt} (h : w.ownsRow base e 2 v n (wcells ws)) : Holds w v ws := by
  have hl := h.1
  rw [wcells_length] at hl
  have hn : n = ws.length := by omega
  rcases h.2 with ⟨rfl, h0⟩ | ⟨g, cap, cur, rfl, hb, hg, hn', _, _, htake⟩
  · have : ws = [] := List.eq_nil_of_length_eq_zero (by omega)
    subst this
    exact ⟨none, 0, rfl, fun hh => absurd rfl hh⟩
  · refine ⟨some ⟨g, 0, none⟩, cap, by rw [hn], fun _ => ⟨g, 0, rfl, (Array.getElem?_eq_some_iff.1 hg).1, fun j hj => ?_⟩⟩
    have hw := wcells_at ws j hj
    rw [Nat.zero_add, h.cellAt (j * 2) (by omega), h.cellAt (j * 2 + 1) (by omega)]
    exact hw
theorem holds_below {w w' : World} {B : Nat} {v : Value} {ws : List Wt} (h : Holds w v ws) (hb : Below w.heap.size w w') : Holds w' v ws := by
  obtain ⟨a, cap, rfl, hc⟩ := h
  refine ⟨a, cap, rfl, fun hh => ?_⟩
  obtain ⟨b, o, rfl, hlt, hcell⟩ := hc hh
  exact ⟨b, o, rfl, Nat.lt_of_lt_of_le hlt hb.size, fun j hj => by rw [hb.cell (p := ⟨b, o + j * 2, none⟩) hlt, hb.cell (p := ⟨b, o + j * 2 + 1, none⟩) hlt]; exact hcell j hj⟩

/-- n marks from number k on: two a write. -/
def marks (k n : Nat) : List Wt := (List.range n).map fun i => (((k + 2 * i : Nat) : Int), markT (k + 2 * i + 1))
theorem marks_length (k n : Nat) : (marks k n).length = n := by simp [marks]
theorem marks_getD (k n j : Nat) (h : j < n) : (marks k n).getD j d0 = (((k + 2 * j : Nat) : Int), markT (k + 2 * j + 1)) := by
  simp [marks, List.getD, h]
theorem marks_succ (k n : Nat) : marks k (n + 1) = marks k n ++ [(((k + 2 * n : Nat) : Int), markT (k + 2 * n + 1))] := by simp [marks, List.range_succ]
theorem set_mark (k i : Nat) (xs : List Wt) (h : i < xs.length) :
    ((wcells (marks k i ++ xs.drop i)).set (i * 2) (.int .i64 ((k : Int) + 2 * i))).set (i * 2 + 1) (.string (markT (k + 2 * i + 1))) = wcells (marks k (i + 1) ++ xs.drop (i + 1)) := by
  have hl : (wcells (marks k i)).length = i * 2 := by rw [wcells_length, marks_length]
  rw [wcells_append, List.set_append_right _ _ (by omega), hl, Nat.sub_self, List.set_append_right _ _ (by omega), hl, show i * 2 + 1 - i * 2 = 1 from by omega, marks_succ,
    show wcells (xs.drop i) = Value.int .i64 xs[i].1 :: Value.string xs[i].2 :: wcells (xs.drop (i + 1)) from by rw [List.drop_eq_getElem_cons h]; rfl,
    wcells_append, wcells_append, List.set_cons_zero, List.set_cons_succ, List.set_cons_zero, List.append_assoc]
  simp [wcells, wcell]

end Go.Proofs.YthppbcnejapbiaaGreatDoor.Wr
