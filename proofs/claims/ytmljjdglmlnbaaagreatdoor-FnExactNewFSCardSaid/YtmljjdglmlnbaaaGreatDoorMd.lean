/- Contracts and plain facts that a law of this seat leans on. Conditions: as each theorem types them. -/
import Derived.Test.YtmljjdglmlnbaaaGreatDoorCrI
import Derived.Test.YtmljjdglmlnbaaaGreatDoorRowG
import Derived.Deep.QuietTactic
import Derived.BigQuiet
import Derived.Deep.RegionLaw
namespace Go.Proofs.YtmljjdglmlnbaaaGreatDoor.Md
open Go.ChangeShapes Go.WideShapes Go.ChangeAt Go.RowKit
open Bx CredV ModeV RowG
open Dk (ret_bool)
open Strs (ret_int)
set_option linter.unusedVariables false

/-- A letter, or '-'. -/
def bv (c : UInt8) (b : Bool) : ByteArray := if b = true then ⟨#[c]⟩ else ⟨#[45]⟩
theorem bv_size (c : UInt8) (b : Bool) : (bv c b).size = 1 := by cases b <;> rfl
theorem bv_list (c : UInt8) (b : Bool) : (bv c b).data.toList = [if b = true then c else 45] := by cases b <;> rfl
set_option maxRecDepth 100000 in
theorem bit8 : ∀ a, a < 8 → ((bits .and .i64 ((a : Nat) : Int) 4 != 0) = decide (a / 4 % 2 = 1)) ∧ ((bits .and .i64 ((a : Nat) : Int) 2 != 0) = decide (a / 2 % 2 = 1)) ∧ ((bits .and .i64 ((a : Nat) : Int) 1 != 0) = decide (a % 2 = 1)) := by decide +kernel
theorem i64_and_nat (a b : Nat) (ha : a < 2048) (hb : b < 2048) : bits .and .i64 ((a : Nat) : Int) ((b : Nat) : Int) = ((a &&& b : Nat) : Int) := by
  have h1 : (BitVec.ofInt 64 (a : Int)).toNat = a := by rw [BitVec.toNat_ofInt]; omega
  have h2 : (BitVec.ofInt 64 (b : Int)).toNat = b := by rw [BitVec.toNat_ofInt]; omega
  have h3 : a &&& b ≤ a := Nat.and_le_left
  show IntKind.i64.wrap ((BitVec.ofInt 64 (a : Int) &&& BitVec.ofInt 64 (b : Int)).toNat : Nat) = _
  rw [BitVec.toNat_and, h1, h2, IntKind.wrap_i64]
  omega
theorem and_pow_one {n i : Nat} (h : n / 2 ^ i % 2 = 1) : n &&& 2 ^ i ≠ 0 := by
  intro he
  have h1 : (n &&& 2 ^ i).testBit i = true := by rw [Nat.testBit_and, Nat.testBit_two_pow_self, Nat.testBit_eq_decide_div_mod_eq, decide_eq_true h]; rfl
  rw [he, Nat.zero_testBit] at h1
  cases h1
theorem and_pow_none {n i : Nat} (h : ¬ n / 2 ^ i % 2 = 1) : n &&& 2 ^ i = 0 := by
  refine Nat.eq_of_testBit_eq fun j => ?_
  rw [Nat.testBit_and, Nat.testBit_two_pow, Nat.zero_testBit]
  by_cases hj : i = j
  · subst hj
    rw [Nat.testBit_eq_decide_div_mod_eq, decide_eq_false h]; rfl
  · rw [decide_eq_false hj, Bool.and_false]
theorem bit_in {m : Int} (h0 : 0 ≤ m) (h : m ≤ 2047) (i : Nat) (hi : i < 11) (c : Int) (hc : c = ((2 ^ i : Nat) : Int)) : (bits .and .i64 m c != 0) = decide (m.toNat / 2 ^ i % 2 = 1) := by
  obtain ⟨n, rfl⟩ := Int.eq_ofNat_of_zero_le h0
  subst hc
  have hp : 2 ^ i < 2048 := by
    have := Nat.pow_lt_pow_right (show 1 < 2 by omega) hi
    exact this
  rw [i64_and_nat n (2 ^ i) (by omega) hp, Int.toNat_natCast]
  by_cases hb : n / 2 ^ i % 2 = 1
  · rw [decide_eq_true hb]
    have := and_pow_one hb
    simp; omega
  · rw [decide_eq_false hb, and_pow_none hb]; rfl

/-- A digit of eight of a mode. -/
theorem oct {m : Int} (hm : modeB m = true) (k : Nat) (hk : k < 3) : permOfV m k = ((m.toNat / 8 ^ (2 - k) % 8 : Nat) : Int) := by
  have h := (mode_iff m).1 hm
  obtain ⟨e0, e1, e2⟩ := permOf_at hm
  obtain rfl | rfl | rfl : k = 0 ∨ k = 1 ∨ k = 2 := by omega
  · show permOfV m 0 = _
    rw [e0]; omega
  · show permOfV m 1 = _
    rw [e1]; omega
  · show permOfV m 2 = _
    rw [e2]; omega
theorem cons3 {a b c a' b' c' : UInt8} (h1 : a = a') (h2 : b = b') (h3 : c = c') : [a, b, c] = [a', b', c'] := by rw [h1, h2, h3]
theorem fmt_part (n k : Nat) (hk : k < 3) : (List.range (2 + 3 * (k + 1))).map (chM n) = (List.range (2 + 3 * k)).map (chM n) ++ [if n / 8 ^ (2 - k) % 8 / 4 % 2 = 1 then 114 else 45, if n / 8 ^ (2 - k) % 8 / 2 % 2 = 1 then 119 else 45, if n / 8 ^ (2 - k) % 8 % 2 = 1 then 120 else 45] := by
  rw [show 2 + 3 * (k + 1) = 2 + 3 * k + 1 + 1 + 1 by omega, List.range_succ, List.range_succ, List.range_succ]
  simp only [List.map_append, List.append_assoc, List.map_cons, List.map_nil]
  congr 1
  obtain rfl | rfl | rfl : k = 0 ∨ k = 1 ∨ k = 2 := by omega
  all_goals
    simp only [chM, letB, List.cons_append, List.nil_append]
    refine cons3 ?_ ?_ ?_
    all_goals
      refine ite_congr ?_ (fun _ => rfl) (fun _ => rfl)
      simp only [Nat.reducePow, Nat.reduceSub, Nat.reduceAdd, Nat.reduceMul]
      rw [eq_iff_iff]
      omega

/-- The letters, those of the first k places turned into the mode's. -/
def mixM (n k : Nat) : List UInt8 := (List.range 11).map fun i => if i < k then chM n i else letB i
theorem mix_zero (n : Nat) : mixM n 0 = [115, 116, 114, 119, 120, 114, 119, 120, 114, 119, 120] := by unfold mixM; simp [List.range_succ, letB]
theorem mix_all (n : Nat) : mixM n 11 = fmtM n := by
  unfold mixM fmtM
  refine List.map_congr_left fun i hi => ?_
  rw [List.mem_range] at hi
  rw [if_pos hi]
theorem mix_length (n k : Nat) : (mixM n k).length = 11 := by simp [mixM]
theorem mix_set (n k : Nat) (hk : k < 11) (h : ¬ n / 2 ^ (10 - k) % 2 = 1) : (mixM n k).set k 45 = mixM n (k + 1) := by
  refine List.ext_getElem (by simp [mixM]) fun i h1 h2 => ?_
  rw [List.getElem_set]
  simp only [mixM, List.getElem_map, List.getElem_range]
  by_cases hi : k = i
  · subst hi
    rw [if_pos rfl, if_pos (by omega), chM, if_neg h]
  · rw [if_neg hi]
    by_cases h3 : i < k
    · rw [if_pos h3, if_pos (by omega)]
    · rw [if_neg h3, if_neg (by omega)]
theorem mix_same (n k : Nat) (hk : k < 11) (h : n / 2 ^ (10 - k) % 2 = 1) : mixM n k = mixM n (k + 1) := by
  refine List.ext_getElem (by simp [mixM]) fun i h1 h2 => ?_
  simp only [mixM, List.getElem_map, List.getElem_range]
  by_cases hi : k = i
  · subst hi
    rw [if_neg (by omega), if_pos (by omega), chM, if_pos h]
  · by_cases h3 : i < k
    · rw [if_pos h3, if_pos (by omega)]
    · rw [if_neg h3, if_neg (by omega)]
theorem i64_and1 (n : Int) : bits .and .i64 n 1 = n % 2 := by
  have h7 : (BitVec.ofInt 64 1).toNat = 2 ^ 1 - 1 := by decide
  have key : (BitVec.ofInt 64 n &&& BitVec.ofInt 64 1).toNat = (n % ((2 ^ 64 : Nat) : Int)).toNat % 2 ^ 1 := by
    rw [BitVec.toNat_and, BitVec.toNat_ofInt, h7, Nat.and_two_pow_sub_one_eq_mod]
  show IntKind.i64.wrap ((BitVec.ofInt 64 n &&& BitVec.ofInt 64 1).toNat : Nat) = n % 2
  rw [key, IntKind.wrap_i64]
  omega
theorem bit_cast {n : Nat} {m : Int} (h : m = (n : Int)) (j : Nat) : (m / 2 ^ j % 2 == 0) = decide (¬ n / 2 ^ j % 2 = 1) := by
  subst h
  have e : ((n : Int) / 2 ^ j % 2) = ((n / 2 ^ j % 2 : Nat) : Int) := by push_cast; rfl
  rw [e]
  by_cases hb : n / 2 ^ j % 2 = 1
  · rw [decide_eq_false (by simpa using hb), hb]; rfl
  · rw [decide_eq_true hb, show n / 2 ^ j % 2 = 0 by omega]; rfl
theorem store_dash {w : World} {b g : Nat} {e : TypeId} {l : List UInt8} (h : OwnG w b e (.slice (some ⟨g, 0, none⟩) 11 11) 11 (cellsB l)) (k : Nat) : OwnG (w.setCell ⟨g, k, none⟩ (.int .u8 45)) b e (.slice (some ⟨g, 0, none⟩) 11 11) 11 (cellsB (l.set k 45)) := by
  have := (h.stored k (.int .u8 ((45 : UInt8).toNat : Int))).1
  rw [cellsB_set] at this
  exact this
theorem first_row (w : World) (e : TypeId) : OwnG (w.alloc (.cells #[.int .u8 115, .int .u8 116, .int .u8 114, .int .u8 119, .int .u8 120, .int .u8 114, .int .u8 119, .int .u8 120, .int .u8 114, .int .u8 119, .int .u8 120] e (11, 12))) w.heap.size e (.slice (some ⟨w.heap.size, 0, none⟩) 11 11) 11 (cellsB [115, 116, 114, 119, 120, 114, 119, 120, 114, 119, 120]) :=
  ⟨rfl, w.heap.size, 11, _, (11, 12), rfl, Nat.le_refl _, World.alloc_heap_new w _, .inl (Nat.le_refl _), Nat.le_refl _, by unfold maxLen; omega, rfl, rfl⟩

end Go.Proofs.YtmljjdglmlnbaaaGreatDoor.Md
