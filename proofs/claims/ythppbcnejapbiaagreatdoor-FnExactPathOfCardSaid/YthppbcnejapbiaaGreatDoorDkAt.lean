/- What a slice of strings, of writes holds at an index; whether a disk keeps its limits. No condition. -/
import Derived.Test.YthppbcnejapbiaaGreatDoorDk
namespace Go.Proofs.YthppbcnejapbiaaGreatDoor.Dk
open Go.ChangeShapes Go.WideShapes Go.ChangeAt Go.RowKit
open Wr (Wt wcells datas d0)
set_option linter.unusedVariables false

/-- At an index within its length a slice has an address and reads there. -/
def AtS (w : World) (a : Option Addr) (xs : List ByteArray) : Prop :=
  ∀ i, i < xs.length → ∃ b o, a = some ⟨b, o, none⟩ ∧ b < w.heap.size ∧ w.cell? ⟨b, o + i, none⟩ = some (.string (xs.getD i ⟨#[]⟩))
def AtW (w : World) (a : Option Addr) (ws : List Wt) : Prop :=
  ∀ i, i < ws.length → ∃ b o, a = some ⟨b, o, none⟩ ∧ b < w.heap.size ∧ w.cell? ⟨b, o + i * 2, none⟩ = some (.int .i64 (ws.getD i d0).1) ∧ w.cell? ⟨b, o + i * 2 + 1, none⟩ = some (.string (ws.getD i d0).2)
theorem AtS.below {w w' : World} {a : Option Addr} {xs : List ByteArray} (h : AtS w a xs) (hb : Below w.heap.size w w') : AtS w' a xs := by
  intro i hi
  obtain ⟨b, o, rfl, hlt, hc⟩ := h i hi
  exact ⟨b, o, rfl, Nat.lt_of_lt_of_le hlt hb.size, by rw [hb.cell (p := ⟨b, o + i, none⟩) hlt]; exact hc⟩
theorem AtW.below {w w' : World} {a : Option Addr} {ws : List Wt} (h : AtW w a ws) (hb : Below w.heap.size w w') : AtW w' a ws := by
  intro i hi
  obtain ⟨b, o, rfl, hlt, hc, hc'⟩ := h i hi
  exact ⟨b, o, rfl, Nat.lt_of_lt_of_le hlt hb.size, by rw [hb.cell (p := ⟨b, o + i * 2, none⟩) hlt]; exact hc, by rw [hb.cell (p := ⟨b, o + i * 2 + 1, none⟩) hlt]; exact hc'⟩

/-- A write that fits a disk of n sectors. -/
def Fits (n : Nat) (x : Wt) : Prop := (0 ≤ x.1 ∧ x.1 < n) ∧ x.2.size = 32
instance (n : Nat) (x : Wt) : Decidable (Fits n x) := by unfold Fits; infer_instance
/-- The disk keeps its limits. -/
def Ok (d : D) : Prop := (d.1.length ≤ 400 ∧ d.2.length ≤ 400) ∧ (∀ i, i < d.1.length → (d.1.getD i ⟨#[]⟩).size = 32) ∧ ∀ i, i < d.2.length → Fits d.1.length (d.2.getD i d0)
instance (d : D) : Decidable (Ok d) := by unfold Ok; infer_instance
theorem ret_bool {a b : Bool} (h : a = b) : Ending.returned (.bool a) = .returned (.bool b) := by rw [h]
theorem not_ok {d : D} (h : ¬ Ok d) : decide (Ok d) = false := decide_eq_false h
end Go.Proofs.YthppbcnejapbiaaGreatDoor.Dk
