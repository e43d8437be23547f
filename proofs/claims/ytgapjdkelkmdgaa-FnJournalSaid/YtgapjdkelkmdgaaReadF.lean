/- Plain facts on the reading of a journal. No condition. -/
import Derived.Test.YtgapjdkelkmdgaaCommitF
namespace Go.Proofs.Ytgapjdkelkmdgaa.Txn
open Wr (Wt d0 datas wcells)
open Dk (D Ok)
open ReadS (readF readV Has lastTo)
open Strs (total)
set_option linter.unusedVariables false

theorem got_num (s : ByteArray) (a w : Nat) : GetNumber.gotV s a w = .returned (.tuple #[.int .i64 (num s a w : Nat), .bool (GetNumber.liesB s a w)]) := by
  unfold GetNumber.gotV num
  by_cases h : GetNumber.liesB s a w = true
  · rw [if_pos h, if_pos h, h]; rfl
  · have hf : GetNumber.liesB s a w = false := by simpa using h
    rw [if_neg h, if_neg h, hf]; rfl
theorem num_lt (s : ByteArray) (a w : Nat) (hw : w ≤ 6) : num s a w < 281474976710656 := by
  unfold num
  split
  · have h1 := Nums.getL_lt (GetNumber.seg s a w)
    have h2 : (GetNumber.seg s a w).length ≤ w := List.length_take_le _ _
    have h3 : 256 ^ (GetNumber.seg s a w).length ≤ 256 ^ 6 := Nat.pow_le_pow_right (by omega) (by omega)
    omega
  · omega
theorem num_two (s : ByteArray) (a : Nat) : num s a 2 < 65536 := by
  unfold num
  split
  · have h1 := Nums.getL_lt (GetNumber.seg s a 2)
    have h2 : (GetNumber.seg s a 2).length ≤ 2 := List.length_take_le _ _
    have h3 : 256 ^ (GetNumber.seg s a 2).length ≤ 256 ^ 2 := Nat.pow_le_pow_right (by omega) (by omega)
    omega
  · omega
theorem num_nil (a w : Nat) (h : 1 ≤ w) : num ⟨#[]⟩ a w = 0 := by
  unfold num
  rw [if_neg]
  intro hl
  simp only [GetNumber.liesB, Bool.and_eq_true, decide_eq_true_eq] at hl
  have : (⟨#[]⟩ : ByteArray).size = 0 := rfl
  omega
theorem items_succ (d : D) (k : Nat) : items d (k + 1) = items d k ++ [item d k] := by simp [items, List.range_succ]
theorem items_len (d : D) (k : Nat) : (items d k).length = k := by simp [items]
theorem lastTo_mem (ws : List Wt) (i : Int) (s : ByteArray) : ∀ k, lastTo ws i k = some s → ∃ j, j < k ∧ (ws.getD j d0).2 = s := by
  intro k
  induction k with
  | zero => intro h; cases h
  | succ k ih =>
    intro h
    unfold lastTo at h
    by_cases hc : (ws.getD k d0).1 = i
    · rw [if_pos hc] at h
      exact ⟨k, by omega, Option.some.inj h⟩
    · rw [if_neg hc] at h
      obtain ⟨j, hj, e⟩ := ih h
      exact ⟨j, by omega, e⟩
theorem readV_size {d : D} {i : Int} (hok : Ok d) (hi : Has d i) : (readV d i).size = 32 := by
  unfold readV
  cases h : lastTo d.2 i d.2.length with
  | none =>
    have h2 := hok.2.1 i.toNat (by have := hi.2; have := hi.1; omega)
    simpa using h2
  | some s =>
    obtain ⟨j, hj, e⟩ := lastTo_mem d.2 i s _ h
    have h2 := (hok.2.2 j hj).2
    rw [e] at h2
    simpa using h2
theorem readF_size (d : D) (i : Int) : (readF d i).size ≤ 32 := by
  unfold readF
  split
  · rename_i h; exact Nat.le_of_eq (readV_size h.1 h.2)
  · exact Nat.zero_le _
theorem readF_no {d : D} {i : Int} (h : ¬ Ok d) : readF d i = ⟨#[]⟩ := if_neg (fun hh => h hh.1)
theorem readF_yes {d : D} {i : Int} (h : Ok d) (hi : Has d i) : readF d i = readV d i := if_pos ⟨h, hi⟩
theorem total_items (d : D) : ∀ k, total (datas (items d k)) ≤ 32 * k := by
  intro k
  induction k with
  | zero => exact Nat.le_refl _
  | succ k ih =>
    rw [items_succ, show datas (items d k ++ [item d k]) = datas (items d k) ++ [(item d k).2] from by simp [datas], total_append]
    have h1 : total [(item d k).2] = (item d k).2.size := by simp [total]
    have h2 : (item d k).2.size ≤ 32 := readF_size d _
    omega
open Classical in
/-- Does the journal hold a transaction? -/
noncomputable def busyB (d : D) : Bool := decide (Busy d)
theorem busy_yes {d : D} (h : Busy d) : busyB d = true ∧ seqV d = (seqOf d : Int) ∧ listV d = items d (cntOf d) := ⟨@decide_eq_true _ (Classical.propDecidable _) h, by unfold seqV; rw [if_pos h], by unfold listV; rw [if_pos h]⟩
theorem busy_no {d : D} (h : ¬ Busy d) : busyB d = false ∧ seqV d = 0 ∧ listV d = [] := ⟨@decide_eq_false _ (Classical.propDecidable _) h, by unfold seqV; rw [if_neg h], by unfold listV; rw [if_neg h]⟩
theorem rec_yes {d : D} (h : Busy d) : recV d = endV (listV d) := by
  rw [(busy_yes h).2.2]; unfold recV; rw [if_pos h]
theorem rec_no {d : D} (h : ¬ Busy d) : recV d = [] := by unfold recV; rw [if_neg h]
theorem listV_len (d : D) : (listV d).length ≤ 64 := by
  by_cases h : Busy d
  · rw [(busy_yes h).2.2, items_len]; exact h.1.2
  · rw [(busy_no h).2.2]; exact Nat.zero_le _
theorem not_busy_bad {d : D} (h : ¬ Ok d) : ¬ Busy d := by
  intro hb
  have h1 := hb.1.1
  unfold cntOf at h1
  rw [readF_no h, num_nil _ _ (by omega)] at h1
  omega
theorem not_busy_short {d : D} (h : d.1.length < 70) : ¬ Busy d := by
  intro hb
  have := hb.2.2.1.2
  omega
end Go.Proofs.Ytgapjdkelkmdgaa.Txn
