/- Contracts: IsEntryName of the program and of the model: the names that an entry may have. Conditions: the string's size. -/
import Derived.Test.YthppbcnejapbiaaEnC
import Derived.Test.YthppbcnejapbiaaIsName
namespace Go.Proofs.Ythppbcnejapbiaa.EnN
open Go.ChangeShapes Go.WideShapes Go.ChangeAt Go.RowKit
open EnC (nulB)
set_option linter.unusedVariables false

theorem ret_bool {a b : Bool} (h : a = b) : Ending.returned (.bool a) = .returned (.bool b) := by rw [h]
def dot1 (s : ByteArray) : Bool := s.toList == [46]
def dot2 (s : ByteArray) : Bool := s.toList == [46, 46]
/-- The names of entries. -/
def nameB (s : ByteArray) : Bool := decide (1 ≤ s.size) && decide (s.size ≤ 12) && !s.data.toList.any nulB && !dot1 s && !dot2 s

set_option maxRecDepth 100000 in
set_option maxHeartbeats 1600000 in
theorem name_impl (s : ByteArray) (hs : s.size ≤ 1048576) (w : World) :
    Calls Try.prog 17 #[.string s] w fun e w' => e = .returned (.bool (nameB s)) ∧ Below w.heap.size w w' := by
  have HC := Lib.hid (fun W => EnC.contains_any s hs W)
  by_cases h0 : s.size = 0
  · have HV := Lib.hid (show nameB s = false from by unfold nameB; rw [decide_eq_false (by omega)]; rfl)
    have e1 := IsName.emp_true s h0
    have e2 : s.toList = [] := List.isEmpty_iff.1 e1
    clear h0
    go_enter Try.func17, Try.ntmps17
    go_wp2
    go_ret
    exact ⟨ret_bool HV.out.symm, Below.refl _ _⟩
  · have e1 := IsName.emp_false s h0
    have e2 : (!s.toList.isEmpty) = true := by rw [e1]; rfl
    by_cases h12 : s.size ≤ 12
    · have q12 : decide ((12 : Int) < (s.size : Int)) = false := decide_eq_false (by omega)
      cases ha : s.data.toList.any nulB
      · have HV := Lib.hid (show nameB s = (!dot1 s && !dot2 s) from by unfold nameB; rw [decide_eq_true (by omega), decide_eq_true h12, ha]; rfl)
        rw [ha] at HC
        clear ha h0 h12
        unfold dot1 dot2 at HV
        go_enter Try.func17, Try.ntmps17
        go_wp2_with fail
        refine (HC.out _).mono ?_
        rintro e w1 ⟨rfl, hb⟩
        have HB := Lib.hid hb
        clear hb
        by_cases h1 : s.toList = [46]
        · have HV2 := Lib.hid (show nameB s = false from by rw [HV.out, h1]; rfl)
          clear HV
          go_wp2
          go_ret
          exact ⟨ret_bool HV2.out.symm, HB.out⟩
        · have q1 : (s.toList == [46]) = false := by simpa using h1
          cases h2 : (s.toList == [46, 46])
          · rw [q1, h2] at HV
            go_wp2
            go_ret
            exact ⟨ret_bool HV.out.symm, HB.out⟩
          · rw [q1, h2] at HV
            go_wp2
            go_ret
            exact ⟨ret_bool HV.out.symm, HB.out⟩
      · have HV := Lib.hid (show nameB s = false from by unfold nameB; rw [ha]; simp)
        rw [ha] at HC
        clear ha h0 h12
        go_enter Try.func17, Try.ntmps17
        go_wp2_with fail
        refine (HC.out _).mono ?_
        rintro e w1 ⟨rfl, hb⟩
        have HB := Lib.hid hb
        clear hb
        go_wp2
        go_ret
        exact ⟨ret_bool HV.out.symm, HB.out⟩
    · have q12 : decide ((12 : Int) < (s.size : Int)) = true := decide_eq_true (by omega)
      have HV := Lib.hid (show nameB s = false from by unfold nameB; rw [decide_eq_false h12]; simp)
      clear h0 h12
      go_enter Try.func17, Try.ntmps17
      go_wp2
      go_ret
      exact ⟨ret_bool HV.out.symm, Below.refl _ _⟩
/-- No byte before place k is 0 or '/'. -/
def upto (s : ByteArray) (k : Nat) : Prop := (s.data.toList.take k).any nulB = false
theorem upto_succ (s : ByteArray) (k : Nat) (h : k < s.size) (hu : upto s k) (hd : nulB s[k] = false) : upto s (k + 1) := by
  unfold upto at *
  rw [List.take_succ_eq_append_getElem (by simpa using h), List.any_append, hu]
  have : s.data.toList[k]'(by simpa using h) = s[k] := rfl
  simp [this, hd]
theorem any_at (s : ByteArray) (k : Nat) (h : k < s.size) (hd : nulB s[k] = true) : s.data.toList.any nulB = true := by
  rw [List.any_eq_true]
  have : s.data.toList[k]'(by simpa using h) = s[k] := rfl
  exact ⟨s[k], by rw [← this]; exact List.getElem_mem _, hd⟩
theorem upto_end (s : ByteArray) (k : Nat) (h : s.size ≤ k) (hu : upto s k) : s.data.toList.any nulB = false := by
  unfold upto at hu
  rwa [List.take_of_length_le (by simpa using h)] at hu
theorem in_spec (n a b : Int) (w : World) : Calls Try.prog 20 #[.int .i64 n, .int .i64 a, .int .i64 b] w fun e w' => e = .returned (.bool (decide (a ≤ n) && decide (n ≤ b))) ∧ w = w' := by
  by_cases h1 : a ≤ n
  · have q1 : decide (a ≤ n) = true := decide_eq_true h1
    go_enter Try.func20, Try.ntmps20
    go_wp2
    go_ret
    exact ⟨ret_bool (by simp [h1]), rfl⟩
  · have q1 : decide (a ≤ n) = false := decide_eq_false h1
    go_enter Try.func20, Try.ntmps20
    go_wp2
    go_ret
    exact ⟨ret_bool (by simp [h1]), rfl⟩

set_option maxRecDepth 100000 in
set_option maxHeartbeats 1600000 in
theorem name_spec (s : ByteArray) (hs : s.size ≤ 1048576) (w : World) :
    Calls Try.prog 15 #[.string s] w fun e w' => e = .returned (.bool (nameB s)) ∧ w = w' := by
  have HI := Lib.hid (fun W => in_spec s.size 1 12 W)
  by_cases hz : 1 ≤ s.size ∧ s.size ≤ 12
  · rw [decide_eq_true (show (1 : Int) ≤ (s.size : Int) by omega), decide_eq_true (show (s.size : Int) ≤ 12 by omega)] at HI
    by_cases h1 : s.toList = [46]
    · have HV := Lib.hid (show nameB s = false from by unfold nameB dot1; rw [h1]; simp)
      go_enter Try.func15, Try.ntmps15
      go_wp2_with fail
      refine (HI.out _).mono ?_
      rintro e w1 ⟨rfl, rfl⟩
      rw [show (true && true) = true from rfl]
      go_wp2
      go_ret
      exact ⟨ret_bool HV.out.symm, rfl⟩
    · have q1 : (s.toList == [46]) = false := by simpa using h1
      by_cases h2 : s.toList = [46, 46]
      · have HV := Lib.hid (show nameB s = false from by unfold nameB dot2; rw [h2]; simp)
        go_enter Try.func15, Try.ntmps15
        go_wp2_with fail
        refine (HI.out _).mono ?_
        rintro e w1 ⟨rfl, rfl⟩
        rw [show (true && true) = true from rfl]
        go_wp2
        go_ret
        exact ⟨ret_bool HV.out.symm, rfl⟩
      · have q2 : (s.toList == [46, 46]) = false := by simpa using h2
        have HV := Lib.hid (show nameB s = !s.data.toList.any nulB from by unfold nameB dot1 dot2; rw [q1, q2, decide_eq_true hz.1, decide_eq_true hz.2]; simp)
        go_enter Try.func15, Try.ntmps15
        go_wp2_with fail
        refine (HI.out _).mono ?_
        rintro e w1 ⟨rfl, rfl⟩
        rw [show (true && true) = true from rfl]
        go_wp2
        clear h1 h2 q1 q2
        go_loop [3] (fun i => ∃ k : Nat, k ≤ s.size ∧ i = .int .i64 k ∧ upto s k) (fun i => s.size - (intOf i).toNat)
        case atStart => exact ⟨0, Nat.zero_le _, rfl, rfl⟩
        case round =>
          obtain ⟨k, hk, rfl, hu⟩ := hrel
          have HU := Lib.hid hu
          clear hu
          by_cases hlt : k < s.size
          · by_cases h1 : (s[k].toNat : Int) = 0
            · have HN := Lib.hid (any_at s k hlt (by simp [nulB]; left; exact UInt8.toNat_inj.1 (by simpa using h1)))
              go_wp2
              go_ret
              exact ⟨ret_bool (by rw [HV.out, HN.out]; rfl), rfl⟩
            · by_cases h2 : (s[k].toNat : Int) = 47
              · have HN := Lib.hid (any_at s k hlt (by simp [nulB]; right; exact UInt8.toNat_inj.1 (by simp; omega)))
                go_wp2
                go_ret
                exact ⟨ret_bool (by rw [HV.out, HN.out]; rfl), rfl⟩
              · have HN := Lib.hid (upto_succ s k hlt HU.out (by
                  unfold nulB
                  have e1 : s[k] ≠ 0 := fun e => h1 (by rw [e]; rfl)
                  have e2 : s[k] ≠ 47 := fun e => h2 (by rw [e]; rfl)
                  simp [e1, e2]))
                have q0 : ((s[k].toNat : Int) == 0) = false := by simpa using h1
                have q47 : ((s[k].toNat : Int) == 47) = false := by simpa using h2
                have n0 : ¬ s[k].toNat = 0 := by omega
                have n47 : ¬ s[k].toNat = 47 := by omega
                go_wp2
                go_round
                case rel => exact ⟨k + 1, by omega, by go_num, HN.out⟩
                case measure => simp [intOf]; omega
          · have HN := Lib.hid (upto_end s k (by omega) HU.out)
            go_wp2
            go_ret
            exact ⟨ret_bool (by rw [HV.out, HN.out]; rfl), rfl⟩
  · have HV := Lib.hid (show nameB s = false from by
      unfold nameB
      by_cases h1 : 1 ≤ s.size
      · rw [decide_eq_false (show ¬ s.size ≤ 12 by omega)]; simp
      · rw [decide_eq_false h1]; rfl)
    have hn : (decide ((1 : Int) ≤ (s.size : Int)) && decide ((s.size : Int) ≤ 12)) = false := by
      rw [Bool.and_eq_false_iff]
      by_cases h1 : 1 ≤ s.size
      · exact .inr (decide_eq_false (by omega))
      · exact .inl (decide_eq_false (by omega))
    rw [hn] at HI
    clear hn
    go_enter Try.func15, Try.ntmps15
    go_wp2_with fail
    refine (HI.out _).mono ?_
    rintro e w1 ⟨rfl, rfl⟩
    go_wp2
    go_ret
    exact ⟨ret_bool HV.out.symm, rfl⟩
end Go.Proofs.Ythppbcnejapbiaa.EnN
