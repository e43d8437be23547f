/- Contracts of the small functions on modes and permissions, the program's and the model's. Conditions: as each theorem types them. -/
import Derived.Test.YtjdehgadfjopiaaAclS
import Derived.Test.YtjdehgadfjopiaaCredV
import Derived.Laws.BitsAllLaws
namespace Go.Proofs.Ytjdehgadfjopiaa.Pm
open Go.ChangeShapes Go.WideShapes Go.ChangeAt Go.RowKit
open ModeV CredV
open Dk (ret_bool)
open Strs (ret_int)
set_option linter.unusedVariables false

theorem user_impl (n : Int) (w : World) :
    Calls Try.prog 42 #[.int .i64 n] w fun e w' => e = .returned (.bool (userB n)) ∧ w = w' := AclS.user_any n w
theorem user_spec (n : Int) (w : World) :
    Calls Try.prog 53 #[.int .i64 n] w fun e w' => e = .returned (.bool (userB n)) ∧ w = w' := by
  go_enter Try.func53, Try.ntmps53
  go_wp2_with fail
  refine (AclS.in_any n 0 3 _).mono ?_
  rintro e w' ⟨rfl, rfl⟩
  go_wp2
  go_ret
  exact ⟨rfl, rfl⟩
theorem mode_impl (n : Int) (w : World) :
    Calls Try.prog 43 #[.int .i64 n] w fun e w' => e = .returned (.bool (modeB n)) ∧ w = w' := by
  by_cases h1 : 0 ≤ n
  · go_enter Try.func43, Try.ntmps43
    go_wp2
    go_ret
    exact ⟨ret_bool (by simp [modeB, h1]), rfl⟩
  · have hd : decide (0 ≤ n) = false := decide_eq_false h1
    have HD := Lib.hid hd
    go_enter Try.func43, Try.ntmps43
    go_wp2
    go_ret
    exact ⟨ret_bool (by rw [modeB, HD.out]; rfl), rfl⟩
theorem mode_spec (n : Int) (w : World) :
    Calls Try.prog 57 #[.int .i64 n] w fun e w' => e = .returned (.bool (modeB n)) ∧ w = w' := by
  go_enter Try.func57, Try.ntmps57
  go_wp2_with fail
  refine (AclS.in_any n 0 2047 _).mono ?_
  rintro e w' ⟨rfl, rfl⟩
  go_wp2
  go_ret
  exact ⟨rfl, rfl⟩
theorem and_comm8 (a b : Int) : andP a b = andP b a := by unfold andP; rw [Nat.and_comm]
theorem isin_any (p q : Int) (w : World) (hp : In8 p) (hq : In8 q) :
    Calls Try.prog 46 #[.int .i64 p, .int .i64 q] w fun e w' => e = .returned (.bool (covB q p)) ∧ w = w' := by
  have hb := and_bits hp.1 hp.2 hq.1 hq.2
  have HC := Lib.hid (show covB q p = decide (andP p q = p) by unfold covB; rw [and_comm8])
  generalize andP p q = r at hb HC
  go_enter Try.func46, Try.ntmps46
  go_wp2
  go_ret
  exact ⟨ret_bool (by rw [HC.out]; rfl), rfl⟩
theorem covers_any (p q : Int) (w : World) (hp : In8 p) (hq : In8 q) :
    Calls Try.prog 60 #[.int .i64 p, .int .i64 q] w fun e w' => e = .returned (.bool (covB p q)) ∧ w = w' := by
  have hb := and_bits hp.1 hp.2 hq.1 hq.2
  have HC := Lib.hid (show covB p q = decide (andP p q = q) from rfl)
  generalize andP p q = r at hb HC
  go_enter Try.func60, Try.ntmps60
  go_wp2
  go_ret
  exact ⟨ret_bool (by rw [HC.out]; rfl), rfl⟩
theorem i64_and7 (n : Int) : bits .and .i64 n 7 = n % 8 := by
  have h7 : (BitVec.ofInt 64 7).toNat = 2 ^ 3 - 1 := by decide
  have key : (BitVec.ofInt 64 n &&& BitVec.ofInt 64 7).toNat = (n % ((2 ^ 64 : Nat) : Int)).toNat % 2 ^ 3 := by
    rw [BitVec.toNat_and, BitVec.toNat_ofInt, h7, Nat.and_two_pow_sub_one_eq_mod]
  show IntKind.i64.wrap ((BitVec.ofInt 64 n &&& BitVec.ofInt 64 7).toNat : Nat) = n % 8
  rw [key, IntKind.wrap_i64]
  omega
theorem perm_no {m k : Int} (h : modeB m = false ∨ k < 0 ∨ 2 < k) : permOfV m k = 0 := by
  unfold permOfV
  rw [if_neg]
  rintro ⟨h1, h2, h3⟩
  rcases h with h | h | h
  · rw [h1] at h; cases h
  · omega
  · omega
theorem perm_impl (m k : Int) (w : World) :
    Calls Try.prog 19 #[.int .i64 m, .int .i64 k] w fun e w' => e = .returned (.int .i64 (permOfV m k)) ∧ w = w' := by
  have HM := Lib.hid (mode_impl m w)
  by_cases hm : modeB m = true
  · rw [hm] at HM
    have h1 := (mode_iff m).1 hm
    by_cases hk : k < 0
    · have HF := Lib.hid (perm_no (m := m) (k := k) (.inr (.inl hk)))
      clear hm
      go_enter Try.func19, Try.ntmps19
      go_wp2_with fail
      refine HM.out.mono ?_
      rintro e w' ⟨rfl, rfl⟩
      go_wp2
      go_ret
      exact ⟨ret_int HF.out.symm, rfl⟩
    · by_cases hk2 : 2 < k
      · have HF := Lib.hid (perm_no (m := m) (k := k) (.inr (.inr hk2)))
        clear hm
        have hd1 : decide (k < 0) = false := decide_eq_false hk
        go_enter Try.func19, Try.ntmps19
        go_wp2_with fail
        refine HM.out.mono ?_
        rintro e w' ⟨rfl, rfl⟩
        go_wp2
        go_ret
        exact ⟨ret_int HF.out.symm, rfl⟩
      · have HA := Lib.hid (permOf_at hm)
        clear hm
        obtain rfl | rfl | rfl : k = 0 ∨ k = 1 ∨ k = 2 := by omega
        all_goals
          go_enter Try.func19, Try.ntmps19
          go_wp2_with fail
          refine HM.out.mono ?_
          rintro e w' ⟨rfl, rfl⟩
          go_wp2
          go_ret
          exact ⟨ret_int (by first | rw [HA.out.1] | rw [HA.out.2.1] | rw [HA.out.2.2]
                             rw [i64_and7]), rfl⟩
  · have HF := Lib.hid (perm_no (m := m) (k := k) (.inl (by simpa using hm)))
    rw [show modeB m = false by simpa using hm] at HM
    clear hm
    go_enter Try.func19, Try.ntmps19
    go_wp2_with fail
    refine HM.out.mono ?_
    rintro e w' ⟨rfl, rfl⟩
    go_wp2
    go_ret
    exact ⟨ret_int HF.out.symm, rfl⟩
end Go.Proofs.Ytjdehgadfjopiaa.Pm
