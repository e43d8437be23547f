/- The model's IsDigits, at every string: it reports whether there is a byte and all are digits. No condition beyond the theorem's own. -/
import Derived.Test.YtgilmmofbpembaaDoorKit
import Derived.BigQuiet
namespace Go.Proofs.YtgilmmofbpembaaDoor.DigitsSpec
open Go.ChangeShapes Go.WideShapes Go.ChangeAt Go.RowKit
set_option linter.unusedVariables false

def isDig (c : UInt8) : Bool := decide (48 ≤ (c.toNat : Int)) && decide ((c.toNat : Int) ≤ 57)
def digitsB (l : List UInt8) : Bool := l.all isDig && !l.isEmpty
/-- No byte before place k is anything but a digit. -/
def upto (s : ByteArray) (k : Nat) : Prop := (s.data.toList.take k).all isDig = true

theorem upto_zero (s : ByteArray) : upto s 0 := by simp [upto]
theorem upto_succ (s : ByteArray) (k : Nat) (h : k < s.size) (hu : upto s k) (hd : isDig s[k] = true) : upto s (k + 1) := by
  unfold upto at *
  rw [List.take_succ_eq_append_getElem (by simpa using h), List.all_append, hu]
  have : s.data.toList[k]'(by simpa using h) = s[k] := rfl
  simp [this, hd]
theorem no_of (s : ByteArray) (k : Nat) (h : k < s.size) (hd : isDig s[k] = false) : digitsB s.data.toList = false := by
  have hm : s[k] ∈ s.data.toList := by
    have : s.data.toList[k]'(by simpa using h) = s[k] := rfl
    rw [← this]; exact List.getElem_mem _
  have : s.data.toList.all isDig = false := by
    rw [List.all_eq_false]; exact ⟨_, hm, by simp [hd]⟩
  simp [digitsB, this]
theorem end_emp (s : ByteArray) (k : Nat) (h : s.size ≤ k) (hu : upto s k) : (!s.toList.isEmpty) = digitsB s.data.toList := by
  unfold upto at hu
  rw [List.take_of_length_le (by simpa using h)] at hu
  rw [ByteArray.toList_eq]
  simp [digitsB, hu]
theorem end_size (s : ByteArray) (k : Nat) (h : s.size ≤ k) (hu : upto s k) : decide (0 < s.size) = digitsB s.data.toList := by
  rw [← end_emp s k h hu, ByteArray.toList_eq]
  obtain ⟨⟨l⟩⟩ := s
  cases l <;> simp [ByteArray.size]

theorem ret_bool {a b : Bool} (h : a = b) : Ending.returned (.bool a) = .returned (.bool b) := by rw [h]

set_option maxRecDepth 100000 in
set_option maxHeartbeats 400000 in
theorem spec_any (s : ByteArray) (w : World) (hs : s.size ≤ maxLen) :
    Calls Tryd.prog 58 #[.string s] w fun e w' => e = .returned (.bool (digitsB s.data.toList)) ∧ w = w' := by
  unfold maxLen at hs
  go_enter Tryd.func58, Tryd.ntmps58
  go_wp2
  go_loop [3] (fun i => ∃ k : Nat, k ≤ s.size ∧ i = .int .i64 k ∧ upto s k) (fun i => s.size - (intOf i).toNat)
  case atStart => exact ⟨0, Nat.zero_le _, rfl, upto_zero s⟩
  case round =>
    obtain ⟨k, hk, rfl, hu⟩ := hrel
    have HU := Lib.hid hu
    clear hu
    by_cases hlt : k < s.size
    · by_cases h1 : (s[k].toNat : Int) < 48
      · go_wp2
        go_ret
        exact ⟨ret_bool (no_of s k hlt (by simp [isDig]; omega)).symm, rfl⟩
      · by_cases h2 : 57 < (s[k].toNat : Int)
        · go_wp2
          go_ret
          exact ⟨ret_bool (no_of s k hlt (by simp [isDig]; omega)).symm, rfl⟩
        · go_wp2
          go_round
          case rel => exact ⟨k + 1, by omega, by go_num, upto_succ s k hlt HU.out (by simp [isDig]; omega)⟩
          case measure => simp [intOf]; omega
    · go_wp2
      go_ret
      exact ⟨ret_bool (by rw [← end_size s k (by omega) HU.out]), rfl⟩
end Go.Proofs.YtgilmmofbpembaaDoor.DigitsSpec
