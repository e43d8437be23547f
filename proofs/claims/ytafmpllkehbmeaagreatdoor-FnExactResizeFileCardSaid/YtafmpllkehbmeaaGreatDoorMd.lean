/- Contracts and plain facts that a law of this seat leans on. Conditions: as each theorem types them. -/
import Derived.Test.YtafmpllkehbmeaaGreatDoorCrI
import Derived.Test.YtafmpllkehbmeaaGreatDoorRowG
import Derived.Deep.QuietTactic
import Derived.BigQuiet
import Derived.Deep.RegionLaw
namespace Go.Proofs.YtafmpllkehbmeaaGreatDoor.Md
open Go.ChangeShapes Go.WideShapes Go.ChangeAt Go.RowKit
open Bx CredV ModeV RowG
open Dk (ret_bool)
open Strs (ret_int)
set_option linter.unusedVariables false

theorem i64_and_nat (a b : Nat) (ha : a < 2048) (hb : b < 2048) : bits .and .i64 ((a : Nat) : Int) ((b : Nat) : Int) = ((a &&& b : Nat) : Int) := by
  have h1 : (BitVec.ofInt 64 (a : Int)).toNat = a := by rw [BitVec.toNat_ofInt]; omega
  have h2 : (BitVec.ofInt 64 (b : Int)).toNat = b := by rw [BitVec.toNat_ofInt]; omega
  have h3 : a &&& b ≤ a := Nat.and_le_left
  show IntKind.i64.wrap ((BitVec.ofInt 64 (a : Int) &&& BitVec.ofInt 64 (b : Int)).toNat : Nat) = _
  rw [BitVec.toNat_and, h1, h2, IntKind.wrap_i64]
  omega
theorem and_pow_one {n i : Nat} (h : n / 2 ^ i % 2 = 1) : n &&& 2 ^ i ≠ 0 := by
  intro he
  have h1 : (n &&& 2 ^ i).testBit i = true := by rw [Nat.testBit_and, Nat.testBit_two_pow_self, Nat.testBit_eq_decide_div_mod_eq, decide_eq_true h]; rfl
  rw [he, Nat.zero_testBit] at h1
  cases h1
theorem and_pow_none {n i : Nat} (h : ¬ n / 2 ^ i % 2 = 1) : n &&& 2 ^ i = 0 := by
  refine Nat.eq_of_testBit_eq fun j => ?_
  rw [Nat.testBit_and, Nat.testBit_two_pow, Nat.zero_testBit]
  by_cases hj : i = j
  · subst hj
    rw [Nat.testBit_eq_decide_div_mod_eq, decide_eq_false h]; rfl
  · rw [decide_eq_false hj, Bool.and_false]
theorem bit_in {m : Int} (h0 : 0 ≤ m) (h : m ≤ 2047) (i : Nat) (hi : i < 11) (c : Int) (hc : c = ((2 ^ i : Nat) : Int)) : (bits .and .i64 m c != 0) = decide (m.toNat / 2 ^ i % 2 = 1) := by
  obtain ⟨n, rfl⟩ := Int.eq_ofNat_of_zero_le h0
  subst hc
  have hp : 2 ^ i < 2048 := by
    have := Nat.pow_lt_pow_right (show 1 < 2 by omega) hi
    exact this
  rw [i64_and_nat n (2 ^ i) (by omega) hp, Int.toNat_natCast]
  by_cases hb : n / 2 ^ i % 2 = 1
  · rw [decide_eq_true hb]
    have := and_pow_one hb
    simp; omega
  · rw [decide_eq_false hb, and_pow_none hb]; rfl

end Go.Proofs.YtafmpllkehbmeaaGreatDoor.Md
