/- Contracts and plain facts that a law of this seat leans on. Conditions: as each theorem types them. -/
import Derived.Test.YtjefefedhhloiaaGreatDoorPutNumber
import Derived.BigQuiet
namespace Go.Proofs.YtjefefedhhloiaaGreatDoor.GetNumber
open Go.ChangeShapes Go.WideShapes Go.ChangeAt Go.RowKit
open Nums
open PutNumber (in_yes in_no)
set_option linter.unusedVariables false

/-- The bytes of s from place a on. -/
def seg (s : ByteArray) (a k : Nat) : List UInt8 := (s.data.toList.drop a).take k
theorem seg_zero (s : ByteArray) (a : Nat) : getL (seg s a 0) = 0 := by simp [seg, getL]
theorem seg_succ (s : ByteArray) (a k : Nat) (h : a + k < s.size) : seg s a (k + 1) = seg s a k ++ [s[a + k]] := by
  unfold seg
  rw [List.take_succ_eq_append_getElem (by simp; omega)]
  simp only [List.getElem_drop]
  rfl
theorem seg_lt (s : ByteArray) (a k : Nat) (h : k ≤ 5) : getL (seg s a k) < 1099511627776 := by
  have h1 := getL_lt (seg s a k)
  have h2 : (seg s a k).length ≤ k := List.length_take_le _ _
  have h3 : 256 ^ (seg s a k).length ≤ 256 ^ 5 := Nat.pow_le_pow_right (by omega) (by omega)
  omega
/-- Do the bytes lie in the string? -/
def liesB (s : ByteArray) (a width : Int) : Bool := decide (1 ≤ width) && decide (width ≤ 6) && decide (0 ≤ a) && decide (a ≤ s.size - width)
def gotV (s : ByteArray) (a width : Int) : Ending :=
  if liesB s a width = true then .returned (.tuple #[.int .i64 (getL (seg s a.toNat width.toNat)), .bool true]) else .returned (.tuple #[.int .i64 0, .bool false])
theorem got_yes (s : ByteArray) (a width : Nat) (h1 : 1 ≤ width) (h2 : width ≤ 6) (h : a + width ≤ s.size) : gotV s a width = .returned (.tuple #[.int .i64 (getL (seg s a width)), .bool true]) := by
  rw [gotV, if_pos (by simp [liesB]; omega)]; rfl
theorem got_no {s : ByteArray} {a width : Int} (h : width < 1 ∨ 6 < width ∨ a < 0 ∨ s.size - width < a) : gotV s a width = .returned (.tuple #[.int .i64 0, .bool false]) := by
  rw [gotV, if_neg (by simp [liesB]; omega)]

end Go.Proofs.YtjefefedhhloiaaGreatDoor.GetNumber
