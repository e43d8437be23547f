/- Contracts and plain facts that a law of this seat leans on. Conditions: as each theorem types them. -/
import Derived.Test.YthppbcnejapbiaaGreatDoorIsDigits
namespace Go.Proofs.YthppbcnejapbiaaGreatDoor.IsName
open Go.ChangeShapes Go.WideShapes Go.ChangeAt Go.RowKit
open Go.ChangeMaps (open_string shut_string)
open IsDigits (isDig ret_bool width_pos rune_digit rune_other)
set_option linter.unusedVariables false

def isLow (c : UInt8) : Bool := decide (97 ≤ (c.toNat : Int)) && decide ((c.toNat : Int) ≤ 122)
def OkAt (i : Nat) (c : UInt8) : Prop := isLow c = true ∨ (i ≠ 0 ∧ isDig c = true)
def Upto (s : ByteArray) (k : Nat) : Prop := ∀ (i : Nat) (h : i < s.size), i < k → OkAt i s[i]
def IsNm (s : ByteArray) : Prop := Upto s s.size ∧ 1 ≤ s.size ∧ s.size ≤ 8
open Classical in
noncomputable def nameB (s : ByteArray) : Bool := decide (IsNm s)

theorem upto_zero (s : ByteArray) : Upto s 0 := fun i _ h => by omega
theorem upto_succ (s : ByteArray) (k : Nat) (h : k < s.size) (hu : Upto s k) (hd : OkAt k s[k]) : Upto s (k + 1) := by
  intro i hi hik
  by_cases e : i = k
  · subst e; exact hd
  · exact hu i hi (by omega)
theorem no_of (s : ByteArray) (k : Nat) (h : k < s.size) (hd : ¬ OkAt k s[k]) : nameB s = false := by
  simp only [nameB, decide_eq_false_iff_not]
  exact fun hh => hd (hh.1 k h h)
theorem no_size (s : ByteArray) (h : ¬ (1 ≤ s.size ∧ s.size ≤ 8)) : nameB s = false := by
  simp only [nameB, decide_eq_false_iff_not]
  exact fun hh => h hh.2
theorem end_of (s : ByteArray) (hu : Upto s s.size) (B : Bool) (h : B = true ↔ (1 ≤ s.size ∧ s.size ≤ 8)) : nameB s = B := by
  cases B with
  | true => simp only [nameB, decide_eq_true_iff]; exact ⟨hu, h.1 rfl⟩
  | false => exact no_size s (fun hh => by have := h.2 hh; cases this)
theorem emp_true (s : ByteArray) (h : s.size = 0) : s.toList.isEmpty = true := by
  rw [ByteArray.toList_eq]; obtain ⟨⟨l⟩⟩ := s; cases l <;> simp_all [ByteArray.size]
theorem emp_false (s : ByteArray) (h : s.size ≠ 0) : s.toList.isEmpty = false := by
  rw [ByteArray.toList_eq]; obtain ⟨⟨l⟩⟩ := s; cases l <;> simp_all [ByteArray.size]

end Go.Proofs.YthppbcnejapbiaaGreatDoor.IsName
