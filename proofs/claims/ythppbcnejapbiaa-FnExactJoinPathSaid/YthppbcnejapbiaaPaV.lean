/- Plain facts on absolute paths: the names that a path consists of, told in the program's way and in the model's; the path of names. No condition of its own. -/
import Derived.Test.YthppbcnejapbiaaEnN
import Derived.Test.YthppbcnejapbiaaSplitC
namespace Go.Proofs.Ythppbcnejapbiaa.PaV
open SplitAny (parts)
open SplitC (splitC parts_eq splitC_ne)
open EnN (nameB)
set_option linter.unusedVariables false

def slB : ByteArray := ⟨#[47]⟩
def restB (p : ByteArray) : ByteArray := p.extract 1 p.size
def isRoot (p : ByteArray) : Bool := p.toList == [47]
def okN (l : List ByteArray) : Bool := decide (l.length ≤ 8) && l.all nameB
/-- The names of a path, and whether it is one. -/
def splitV (p : ByteArray) : List ByteArray × Bool :=
  if isRoot p = true then ([], true)
  else if 0 < p.size ∧ p.data.toList.getD 0 0 = 47 ∧ okN (parts (restB p) slB) = true then (parts (restB p) slB, true) else ([], false)
theorem ba_len (s : ByteArray) : s.data.toList.length = s.size := by simp
theorem ext_data (r : ByteArray) (a b : Nat) : (r.extract a b).data.toList = (r.data.toList.take b).drop a := by
  rw [ByteArray.data_extract, Array.toList_extract, List.extract_eq_drop_take', List.drop_take]
theorem rest_list (p : ByteArray) : (restB p).data.toList = p.data.toList.drop 1 := by
  unfold restB
  rw [ext_data, List.take_of_length_le (by rw [ba_len]; exact Nat.le_refl _)]
theorem has47 : slB.data.toList.contains (47 : UInt8) = true := by decide
theorem hasnot {c : UInt8} (h : c ≠ 47) : slB.data.toList.contains c = false := by
  show [(47 : UInt8)].contains c = false
  simp [h]
theorem parts_slash {p : ByteArray} {l : List UInt8} (h : p.data.toList = 47 :: l) : parts p slB = ⟨#[]⟩ :: parts (restB p) slB := by
  rw [parts_eq, parts_eq, rest_list, h, splitC, if_pos has47]
  rfl
theorem parts_other {p : ByteArray} {c : UInt8} {l : List UInt8} (h : p.data.toList = c :: l) (hc : c ≠ 47) : ∃ x t, parts p slB = x :: t ∧ x.data.toList ≠ [] := by
  rw [parts_eq, h, splitC, if_neg (by rw [hasnot hc]; simp)]
  cases hs : splitC (slB.data.toList.contains ·) l with
  | nil => exact absurd hs (splitC_ne _ _)
  | cons a t => exact ⟨_, _, rfl, by simp⟩
theorem parts_none {p : ByteArray} (h : p.data.toList = []) : parts p slB = [⟨#[]⟩] := by
  rw [parts_eq, h]; rfl
theorem parts_cons (p : ByteArray) : ∃ x t, parts p slB = x :: t := by
  rw [parts_eq]
  cases hs : splitC (slB.data.toList.contains ·) p.data.toList with
  | nil => exact absurd hs (splitC_ne _ _)
  | cons a t => exact ⟨_, _, rfl⟩
/-- The program's way. -/
theorem split_prog {p x : ByteArray} {t : List ByteArray} (hr : isRoot p = false) (h : parts p slB = x :: t) :
    splitV p = if (0 < t.length ∧ t.length ≤ 8) ∧ x.data.toList = [] ∧ t.all nameB = true then (t, true) else ([], false) := by
  unfold splitV okN
  rw [if_neg (by rw [hr]; simp)]
  cases hp : p.data.toList with
  | nil =>
    have e := parts_none hp
    rw [h] at e
    cases e
    have hz : p.size = 0 := by rw [← ba_len, hp]; rfl
    rw [if_neg (by omega), if_neg (by simp)]
  | cons c l =>
    have hz : 0 < p.size := by rw [← ba_len, hp]; simp
    by_cases hc : c = 47
    · subst hc
      have e := parts_slash hp
      rw [h] at e
      cases e
      obtain ⟨y, u, hy⟩ := parts_cons (restB p)
      have hl : 0 < (parts (restB p) slB).length := by rw [hy]; simp
      by_cases h8 : (parts (restB p) slB).length ≤ 8
      · by_cases ha : (parts (restB p) slB).all nameB = true
        · rw [if_pos ⟨hz, rfl, by rw [ha, decide_eq_true h8]; rfl⟩, if_pos ⟨⟨hl, h8⟩, rfl, ha⟩]
        · rw [if_neg (fun hh => ha (by have := hh.2.2; rw [Bool.and_eq_true] at this; exact this.2)), if_neg (fun hh => ha hh.2.2)]
      · rw [if_neg (fun hh => h8 (by have := hh.2.2; rw [Bool.and_eq_true] at this; exact of_decide_eq_true this.1)), if_neg (fun hh => h8 hh.1.2)]
    · obtain ⟨y, u, hy, hne⟩ := parts_other hp hc
      rw [h] at hy
      cases hy
      rw [if_neg (fun hh => hc hh.2.1), if_neg (fun hh => hne hh.2.1)]
theorem split_no {p : ByteArray} (hr : isRoot p = false) (h : ¬ (0 < p.size ∧ p.data.toList.getD 0 0 = 47 ∧ okN (parts (restB p) slB) = true)) : splitV p = ([], false) := by
  unfold splitV
  rw [if_neg (by rw [hr]; simp), if_neg h]
theorem split_yes {p : ByteArray} (hr : isRoot p = false) (h0 : 0 < p.size) (h1 : p.data.toList.getD 0 0 = 47) (h2 : okN (parts (restB p) slB) = true) : splitV p = (parts (restB p) slB, true) := by
  unfold splitV
  rw [if_neg (by rw [hr]; simp), if_pos ⟨h0, h1, h2⟩]
theorem part_size (s b : ByteArray) : ∀ x ∈ parts s b, x.size ≤ s.size := by
  have hk : ∀ k, k ≤ s.size → ∀ x ∈ (SplitAny.cutL s b k).1, x.size ≤ s.size := by
    intro k
    induction k with
    | zero => intro _ x hx; cases hx
    | succ k ih =>
      intro hk x hx
      rw [SplitAny.cutL] at hx
      split at hx
      · rcases List.mem_append.1 hx with h | h
        · exact ih (by omega) x h
        · rw [List.mem_singleton] at h
          rw [h, ByteArray.size_extract]; omega
      · exact ih (by omega) x hx
  intro x hx
  rcases List.mem_append.1 hx with h | h
  · exact hk _ (Nat.le_refl _) x h
  · rw [List.mem_singleton] at h
    rw [h, ByteArray.size_extract]; omega
theorem rest_size (p : ByteArray) : (restB p).size = p.size - 1 := by unfold restB; rw [ByteArray.size_extract]; omega
theorem parts_length (s b : ByteArray) : (parts s b).length ≤ s.size + 1 := by
  have := (SplitAny.cutL_le s b s.size).1
  simp [parts]; omega
theorem split_len (p : ByteArray) : (splitV p).1.length ≤ 8 := by
  unfold splitV okN
  split
  · exact Nat.zero_le _
  · split
    · rename_i h
      have := h.2.2
      rw [Bool.and_eq_true] at this
      exact of_decide_eq_true this.1
    · exact Nat.zero_le _
theorem split_names (p : ByteArray) : ∀ x ∈ (splitV p).1, nameB x = true := by
  unfold splitV okN
  split
  · intro x hx; cases hx
  · split
    · rename_i h
      have := h.2.2
      rw [Bool.and_eq_true, List.all_eq_true] at this
      exact this.2
    · intro x hx; cases hx
end Go.Proofs.Ythppbcnejapbiaa.PaV
