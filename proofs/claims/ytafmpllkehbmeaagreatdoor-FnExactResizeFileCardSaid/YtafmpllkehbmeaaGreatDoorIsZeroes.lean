/- Contracts: for every string, the program's IsZeroes and the model's tell whether all of its bytes are 0. Condition: the string's length is one that Go's ints hold. -/
import Derived.Test.YtafmpllkehbmeaaGreatDoorKit
import Derived.Test.YtafmpllkehbmeaaGreatDoorShelf
namespace Go.Proofs.YtafmpllkehbmeaaGreatDoor.IsZeroes
open Go.ChangeShapes Go.WideShapes Go.ChangeAt Go.RowKit
set_option linter.unusedVariables false

def zeroB (l : List UInt8) : Bool := l.all (· == 0)
theorem ret_bool {a b : Bool} (h : a = b) : Ending.returned (.bool a) = .returned (.bool b) := by rw [h]
theorem drop_nil (l : List UInt8) (h : zeroB l = true) : l.dropWhile (· == 0) = [] := by
  induction l with
  | nil => rfl
  | cons a l ih =>
    simp only [zeroB, List.all_cons, Bool.and_eq_true] at h
    rw [List.dropWhile_cons, if_pos h.1]
    exact ih h.2
theorem nil_drop (l : List UInt8) (h : l.dropWhile (· == 0) = []) : zeroB l = true := by
  induction l with
  | nil => rfl
  | cons a l ih =>
    rw [List.dropWhile_cons] at h
    split at h
    · rename_i ha
      simp only [zeroB, List.all_cons, Bool.and_eq_true]
      exact ⟨ha, ih h⟩
    · cases h
theorem zero_rev (l : List UInt8) : zeroB l.reverse = zeroB l := by simp [zeroB]
theorem zero_append (a b : List UInt8) : zeroB (a ++ b) = (zeroB a && zeroB b) := by simp [zeroB]
theorem zero_take (l : List UInt8) : zeroB (l.takeWhile (· == 0)) = true := by
  induction l with
  | nil => rfl
  | cons a l ih =>
    rw [List.takeWhile_cons]
    split
    · rename_i ha
      simp only [zeroB, List.all_cons, Bool.and_eq_true]
      exact ⟨ha, ih⟩
    · rfl
theorem trim_nil (l : List UInt8) : (Lib.trimB l 0 = []) ↔ zeroB l = true := by
  unfold Lib.trimB Lib.trimLeftB Lib.trimRightB
  constructor
  · intro h
    have h1 := nil_drop _ h
    rw [zero_rev] at h1
    have h2 : zeroB (l.reverse.takeWhile (· == 0) ++ l.reverse.dropWhile (· == 0)) = true := by
      rw [zero_append, zero_take, h1]; rfl
    rw [List.takeWhile_append_dropWhile, zero_rev] at h2
    exact h2
  · intro h
    rw [drop_nil l.reverse (by rw [zero_rev]; exact h)]
    rfl
/-- What is left of the string is empty exactly if all bytes are 0. -/
theorem empty_is (l : List UInt8) : (⟨(Lib.trimB l 0).toArray⟩ : ByteArray).toList.isEmpty = zeroB l := by
  rw [ByteArray.toList_eq]
  have e : (⟨(Lib.trimB l 0).toArray⟩ : ByteArray).data.toList = Lib.trimB l 0 := by simp
  rw [e, Bool.eq_iff_iff, List.isEmpty_iff]
  exact trim_nil l
def upto (s : ByteArray) (k : Nat) : Prop := zeroB (s.data.toList.take k) = true
theorem upto_zero (s : ByteArray) : upto s 0 := by simp [upto, zeroB]
theorem upto_succ (s : ByteArray) (k : Nat) (h : k < s.size) (hu : upto s k) (hd : s[k] = 0) : upto s (k + 1) := by
  unfold upto at *
  rw [List.take_succ_eq_append_getElem (by simpa using h), zero_append, hu]
  have : s.data.toList[k]'(by simpa using h) = s[k] := rfl
  rw [this, hd]; rfl
theorem no_of (s : ByteArray) (k : Nat) (h : k < s.size) (hd : s[k] ≠ 0) : zeroB s.data.toList = false := by
  have hm : s[k] ∈ s.data.toList := by
    have : s.data.toList[k]'(by simpa using h) = s[k] := rfl
    rw [← this]; exact List.getElem_mem _
  rw [zeroB, List.all_eq_false]
  exact ⟨_, hm, by simpa using hd⟩
theorem end_of (s : ByteArray) (k : Nat) (h : s.size ≤ k) (hu : upto s k) : zeroB s.data.toList = true := by
  unfold upto at hu
  rw [List.take_of_length_le (by simpa using h)] at hu
  exact hu
theorem byte_zero (b : UInt8) : ((b.toNat : Int) == 0) = true ↔ b = 0 := by
  rw [beq_iff_eq]
  constructor
  · intro h; exact UInt8.toNat_inj.1 (by simpa using h)
  · rintro rfl; rfl

set_option maxRecDepth 100000 in
set_option maxHeartbeats 400000 in
theorem spec_any (s : ByteArray) (w : World) (hs : s.size ≤ maxLen) :
    Calls Tryz.prog 178 #[.string s] w fun e w' => e = .returned (.bool (zeroB s.data.toList)) ∧ w = w' := by
  unfold maxLen at hs
  go_enter Tryz.func178, Tryz.ntmps178
  go_wp2
  go_loop [3] (fun i => ∃ k : Nat, k ≤ s.size ∧ i = .int .i64 k ∧ upto s k) (fun i => s.size - (intOf i).toNat)
  case atStart => exact ⟨0, Nat.zero_le _, rfl, upto_zero s⟩
  case round =>
    obtain ⟨k, hk, rfl, hu⟩ := hrel
    have HU := Lib.hid hu
    clear hu
    by_cases hlt : k < s.size
    · by_cases h0 : s[k] = 0
      · have hb1 : ((s[k].toNat : Int) == 0) = true := (byte_zero _).2 h0
        have hb2 : ((s[k].toNat : Int) != 0) = false := by simp [h0]
        have HN := Lib.hid (upto_succ s k hlt HU.out h0)
        clear h0
        go_wp2
        go_round
        case rel => exact ⟨k + 1, by omega, by go_num, HN.out⟩
        case measure => simp [intOf]; omega
      · have hb1 : ((s[k].toNat : Int) == 0) = false := by rw [Bool.eq_false_iff]; exact fun h => h0 ((byte_zero _).1 h)
        have hb2 : ((s[k].toNat : Int) != 0) = true := by rw [bne, hb1]; rfl
        have HN := Lib.hid (no_of s k hlt h0)
        clear h0
        go_wp2
        go_ret
        exact ⟨ret_bool HN.out.symm, rfl⟩
    · go_wp2
      go_ret
      exact ⟨ret_bool (end_of s k (by omega) HU.out).symm, rfl⟩

set_option maxRecDepth 100000 in
set_option maxHeartbeats 400000 in
theorem impl_any (s : ByteArray) (w : World) (hs : s.size ≤ maxLen) :
    Calls Tryz.prog 142 #[.string s] w fun e w' => e = .returned (.bool (zeroB s.data.toList)) ∧ Below w.heap.size w w' := by
  unfold maxLen at hs
  have HE := Lib.hid (empty_is s.data.toList)
  go_enter Tryz.func142, Tryz.ntmps142
  go_wp2_with fail
  refine (Tryz.strings_Trim_one s 0 (by decide) _ hs).mono ?_
  rintro e w1 ⟨rfl, hw⟩
  have HB := Lib.hid (show Below w.heap.size w w1 by rcases hw with rfl | rfl; exact Below.refl _ _; exact (Below.refl _ _).drew)
  clear hw
  generalize (⟨(Lib.trimB s.data.toList 0).toArray⟩ : ByteArray) = t at HE ⊢
  go_wp2_with fail
  go_ret
  exact ⟨ret_bool HE.out, HB.out⟩
end Go.Proofs.YtafmpllkehbmeaaGreatDoor.IsZeroes
