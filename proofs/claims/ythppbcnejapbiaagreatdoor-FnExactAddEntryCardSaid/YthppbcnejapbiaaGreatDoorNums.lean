/- A part. -/
import Derived.Test.YthppbcnejapbiaaGreatDoorKit
namespace Go.Proofs.YthppbcnejapbiaaGreatDoor.Nums
open Go.ChangeShapes Go.WideShapes Go.ChangeAt Go.RowKit
set_option linter.unusedVariables false
def byteN (n k : Nat) : UInt8 := UInt8.ofNat (n / 256 ^ k % 256)
def lowL (n : Nat) : Nat -> List UInt8
 | 0 => []
 | j + 1 => byteN n j :: lowL n j
theorem lowL_length (n j : Nat) : (lowL n j).length = j := by
 induction j with
 | zero => rfl
 | succ j ih => simp [lowL, ih]
theorem byteN_toNat (n k : Nat) : (byteN n k).toNat = n / 256 ^ k % 256 := by
 simp [byteN, UInt8.toNat_ofNat']
def partL (n width j : Nat) : List UInt8 := List.replicate (width - j) 0 ++ lowL n j
theorem partL_length (n width j : Nat) (h : j <= width) : (partL n width j).length = width := by
 simp [partL, lowL_length]; omega
theorem partL_set (n width j : Nat) (h : j < width) : (partL n width j).set (width - 1 - j) (byteN n j) = partL n width (j + 1) := by
 unfold partL
 obtain ⟨d, rfl⟩ : ∃ d, width = j + 1 + d := ⟨width - (j + 1), by omega⟩
 rw [show j + 1 + d - j = d + 1 from by omega, show j + 1 + d - 1 - j = d from by omega, show j + 1 + d - (j + 1) = d from by omega, List.replicate_succ', List.append_assoc, List.set_append_right _ _ (by simp)]
 simp [lowL]
theorem partL_all (n width : Nat) : partL n width width = lowL n width := by simp [partL]
theorem partL_zero (n width : Nat) : partL n width 0 = List.replicate width 0 := by simp [partL, lowL]
def fitsB (n width : Int) : Bool := decide (1 <= width) && decide (width <= 6) && decide (0 <= n) && decide (n < 256 ^ width.toNat)
def putB (n width : Int) : ByteArray := if fitsB n width = true then ⟨(lowL n.toNat width.toNat).toArray⟩ else ⟨#[]⟩
theorem putB_yes (n width : Nat) (h : fitsB n width = true) : putB n width = ⟨(lowL n width).toArray⟩ := by
 rw [putB, if_pos h]; rfl
theorem putB_no {n width : Int} (h : fitsB n width = false) : putB n width = ⟨#[]⟩ := by
 rw [putB, if_neg (by simp [h])]
theorem pow_le (width : Nat) (h : width <= 6) : 256 ^ width <= 281474976710656 := Nat.pow_le_pow_right (n := 256) (by omega) h
theorem pow8 (j : Nat) : (2 : Int) ^ (8 * j) = ((256 ^ j : Nat) : Int) := by
 rw [Int.pow_mul, show (2 : Int) ^ 8 = 256 from rfl, Int.natCast_pow]; rfl
theorem shr8 (n j : Nat) : (n : Int) / 2 ^ (8 * j) = ((n / 256 ^ j : Nat) : Int) := by
 rw [pow8]; rfl
theorem wrap_pow8 (width : Nat) (h : width <= 6) : wrap64 (2 ^ (8 * width)) = ((256 ^ width : Nat) : Int) := by
 have := pow_le width h
 rw [pow8]
 generalize 256 ^ width = p at *
 exact IntWalk.wrap64_in _ ⟨by omega, by omega⟩
theorem div_step (n j : Nat) : n / 256 ^ j / 256 = n / 256 ^ (j + 1) := by
 rw [Nat.div_div_eq_div_mul, Nat.pow_succ]
theorem fits_bne (n width : Nat) (h : n < 256 ^ width) : ((n : Int) / 2 ^ (8 * width) != 0) = false := by
 rw [shr8, Nat.div_eq_of_lt h]; rfl
theorem big_bne (n width : Nat) (h : 256 ^ width <= n) : ((n : Int) / 2 ^ (8 * width) != 0) = true := by
 rw [shr8]
 have hp : 0 < 256 ^ width := Nat.pow_pos (by omega)
 have := Nat.div_pos h hp
 generalize n / 256 ^ width = q at *
 simp; omega
def getL (l : List UInt8) : Nat := l.foldl (fun a b => a * 256 + b.toNat) 0
theorem getL_snoc (l : List UInt8) (b : UInt8) : getL (l ++ [b]) = getL l * 256 + b.toNat := by simp [getL]
theorem fold_lt : ∀ (l : List UInt8) (a N : Nat), a + 1 <= N -> l.foldl (fun a b => a * 256 + b.toNat) a + 1 <= N * 256 ^ l.length
 | [], a, N, h => by simpa using h
 | b :: l, a, N, h => by
  have hb := b.toNat_lt
  have h2 := Nat.mul_le_mul_right 256 h
  have := fold_lt l (a * 256 + b.toNat) (N * 256) (by omega)
  rw [List.foldl_cons, List.length_cons, Nat.pow_succ]
  rw [Nat.mul_assoc, Nat.mul_comm 256] at this
  exact this
theorem getL_lt (l : List UInt8) : getL l < 256 ^ l.length := by
 have := fold_lt l 0 1 (by omega)
 unfold getL
 omega
theorem i64_join (a b : Nat) (ha : a < 4611686018427387904) (hb : b < 256) (h8 : a % 256 = 0) : bits .or .i64 (a : Int) (b : Int) = ((a + b : Nat) : Int) := by
 have hx : a ||| b < 2 ^ 62 := Nat.or_lt_two_pow (by omega) (by omega)
 have e : a ||| b = a + b := by
  obtain ⟨q, rfl⟩ : ∃ q, a = 2 ^ 8 * q := ⟨a / 256, by omega⟩
  exact (Nat.two_pow_add_eq_or_of_lt (i := 8) (b := b) (by omega) q).symm
 have o1 : (BitVec.ofInt 64 (a : Int)).toNat = a := by rw [BitVec.ofInt_natCast, BitVec.toNat_ofNat]; exact Nat.mod_eq_of_lt (by omega)
 have o2 : (BitVec.ofInt 64 (b : Int)).toNat = b := by rw [BitVec.ofInt_natCast, BitVec.toNat_ofNat]; exact Nat.mod_eq_of_lt (by omega)
 show IntKind.i64.wrap ((BitVec.ofInt 64 (a : Int) ||| BitVec.ofInt 64 (b : Int)).toNat : Int) = _
 rw [BitVec.toNat_or, o1, o2, IntKind.wrap_i64, e]
 rw [e] at hx
 omega
end Go.Proofs.YthppbcnejapbiaaGreatDoor.Nums
