/- Contracts and plain facts that a law of this seat leans on. Conditions: as each theorem types them. -/
import Derived.Test.YthppbcnejapbiaaGreatDoorKit
import Derived.BigQuiet
import Derived.Deep.QuietTactic
import Derived.Laws.RangeAny
namespace Go.Proofs.YthppbcnejapbiaaGreatDoor.IsDigits
open Go.ChangeShapes Go.WideShapes Go.ChangeAt Go.RowKit
open Go.ChangeMaps (open_string shut_string)
set_option linter.unusedVariables false

def isDig (c : UInt8) : Bool := decide (48 ≤ (c.toNat : Int)) && decide ((c.toNat : Int) ≤ 57)
def digitsB (l : List UInt8) : Bool := l.all isDig && !l.isEmpty
/-- No byte before place k is anything but a digit. -/
def upto (s : ByteArray) (k : Nat) : Prop := (s.data.toList.take k).all isDig = true

theorem upto_zero (s : ByteArray) : upto s 0 := by simp [upto]
theorem upto_succ (s : ByteArray) (k : Nat) (h : k < s.size) (hu : upto s k) (hd : isDig s[k] = true) : upto s (k + 1) := by
  unfold upto at *
  rw [List.take_succ_eq_append_getElem (by simpa using h), List.all_append, hu]
  have : s.data.toList[k]'(by simpa using h) = s[k] := rfl
  simp [this, hd]
theorem no_of (s : ByteArray) (k : Nat) (h : k < s.size) (hd : isDig s[k] = false) : digitsB s.data.toList = false := by
  have hm : s[k] ∈ s.data.toList := by
    have : s.data.toList[k]'(by simpa using h) = s[k] := rfl
    rw [← this]; exact List.getElem_mem _
  have : s.data.toList.all isDig = false := by
    rw [List.all_eq_false]; exact ⟨_, hm, by simp [hd]⟩
  simp [digitsB, this]
theorem ret_bool {a b : Bool} (h : a = b) : Ending.returned (.bool a) = .returned (.bool b) := by rw [h]

set_option maxRecDepth 100000 in
set_option maxHeartbeats 400000 in
theorem width_pos (s : ByteArray) (pos : Nat) (h : pos < s.size) : 1 ≤ (Utf8.decode s pos).2 := by
  by_cases ha : (s[pos]'h).toNat < 128
  · rw [decode_ascii s pos h ha]
    exact Nat.le_refl _
  · exact (decode_high s pos h (by omega)).2
/-- The rune at a place is a digit exactly if the byte there is one, and then it is one byte wide. -/
theorem rune_digit (s : ByteArray) (pos : Nat) (h : pos < s.size) (hd : 48 ≤ (Utf8.decode s pos).1 ∧ (Utf8.decode s pos).1 ≤ 57) : isDig s[pos] = true ∧ (Utf8.decode s pos).2 = 1 := by
  by_cases ha : (s[pos]'h).toNat < 128
  · rw [decode_ascii s pos h ha] at hd ⊢
    have hd' : 48 ≤ (s[pos]'h).toNat ∧ (s[pos]'h).toNat ≤ 57 := hd
    exact ⟨by simp [isDig]; omega, rfl⟩
  · have := (decode_high s pos h (by omega)).1
    omega
theorem rune_other (s : ByteArray) (pos : Nat) (h : pos < s.size) (hd : ¬ (48 ≤ (Utf8.decode s pos).1 ∧ (Utf8.decode s pos).1 ≤ 57)) : isDig s[pos] = false := by
  by_cases ha : (s[pos]'h).toNat < 128
  · rw [decode_ascii s pos h ha] at hd
    have hd' : ¬ (48 ≤ (s[pos]'h).toNat ∧ (s[pos]'h).toNat ≤ 57) := hd
    simp [isDig]; omega
  · simp [isDig]; omega

end Go.Proofs.YthppbcnejapbiaaGreatDoor.IsDigits
