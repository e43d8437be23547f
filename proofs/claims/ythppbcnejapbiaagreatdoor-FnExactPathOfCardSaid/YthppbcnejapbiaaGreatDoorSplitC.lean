/- A text's parts, as the pieces of its list of bytes between the cuts: plain facts. No condition. -/
import Derived.Test.YthppbcnejapbiaaGreatDoorSplitAny
namespace Go.Proofs.YthppbcnejapbiaaGreatDoor.SplitC
open SplitAny (cutL parts)
set_option linter.unusedVariables false

/-- A list cut at each byte that p takes: the pieces between. -/
def splitC (p : UInt8 → Bool) : List UInt8 → List (List UInt8)
  | [] => [[]]
  | c :: l => if p c = true then [] :: splitC p l else match splitC p l with
    | [] => [[c]]
    | h :: t => (c :: h) :: t
theorem splitC_ne (p : UInt8 → Bool) (l : List UInt8) : splitC p l ≠ [] := by
  cases l with
  | nil => simp [splitC]
  | cons c l =>
    rw [splitC]
    split
    · simp
    · split <;> simp
theorem splitC_free (p : UInt8 → Bool) (x : List UInt8) (h : ∀ c ∈ x, p c = false) : splitC p x = [x] := by
  induction x with
  | nil => rfl
  | cons c l ih =>
    rw [splitC, if_neg (by rw [h c (by simp)]; simp), ih (fun d hd => h d (by simp [hd]))]
theorem splitC_cut (p : UInt8 → Bool) (x : List UInt8) (c : UInt8) (y : List UInt8) (h : ∀ d ∈ x, p d = false) (hc : p c = true) : splitC p (x ++ c :: y) = x :: splitC p y := by
  induction x with
  | nil => rw [List.nil_append, splitC, if_pos hc]
  | cons d l ih =>
    rw [List.cons_append, splitC, if_neg (by rw [h d (by simp)]; simp), ih (fun e he => h e (by simp [he]))]
theorem splitC_snoc (p : UInt8 → Bool) (l : List UInt8) (c : UInt8) (a : List (List UInt8)) (z : List UInt8) (h : splitC p l = a ++ [z]) :
    splitC p (l ++ [c]) = if p c = true then a ++ [z, []] else a ++ [z ++ [c]] := by
  induction l generalizing a z with
  | nil =>
    have e : a = [] ∧ z = [] := by
      cases a with
      | nil => simp [splitC] at h; exact ⟨rfl, h.symm ▸ rfl⟩
      | cons b a => simp [splitC] at h
    obtain ⟨rfl, rfl⟩ := e
    simp only [List.nil_append, splitC]
  | cons d l ih =>
    rw [List.cons_append, splitC]
    rw [splitC] at h
    by_cases hd : p d = true
    · rw [if_pos hd] at h ⊢
      cases a with
      | nil =>
        rw [List.nil_append, List.cons.injEq] at h
        exact absurd h.2 (splitC_ne p l)
      | cons b a =>
        rw [List.cons_append, List.cons.injEq] at h
        obtain ⟨rfl, h⟩ := h
        rw [ih a z h]
        split <;> rfl
    · rw [if_neg hd] at h ⊢
      cases hs : splitC p l with
      | nil => exact absurd hs (splitC_ne p l)
      | cons g t =>
        rw [hs] at h
        dsimp only at h
        cases a with
        | nil =>
          rw [List.nil_append, List.cons.injEq] at h
          obtain ⟨rfl, rfl⟩ := h
          rw [ih [] g hs]
          by_cases hc : p c = true
          · simp only [if_pos hc]; rfl
          · simp only [if_neg hc]; rfl
        | cons b a =>
          rw [List.cons_append, List.cons.injEq] at h
          obtain ⟨rfl, rfl⟩ := h
          rw [ih (g :: a) z hs]
          by_cases hc : p c = true
          · simp only [if_pos hc]; rfl
          · simp only [if_neg hc]; rfl
/-- The program's parts are these pieces. -/
theorem cut_split (s b : ByteArray) (k : Nat) (hk : k ≤ s.size) :
    splitC (b.data.toList.contains ·) (s.data.toList.take k) = ((cutL s b k).1.map fun x => x.data.toList) ++ [(s.extract (cutL s b k).2 k).data.toList] ∧ (cutL s b k).2 ≤ k := by
  induction k with
  | zero => exact ⟨by simp [splitC, cutL], by simp [cutL]⟩
  | succ k ih =>
    obtain ⟨ih, hle⟩ := ih (by omega)
    have hkl : k < s.data.toList.length := by rw [Array.length_toList]; exact hk
    rw [List.take_succ_eq_append_getElem hkl, splitC_snoc _ _ _ _ _ ih]
    have eg : s.data.toList.getD k 0 = s.data.toList[k] := by rw [List.getD_eq_getElem?_getD, List.getElem?_eq_getElem hkl]; rfl
    by_cases hc : b.data.toList.contains (s.data.toList.getD k 0) = true
    · have h2 : cutL s b (k + 1) = ((cutL s b k).1 ++ [s.extract (cutL s b k).2 k], k + 1) := by rw [cutL, if_pos hc]
      rw [h2]
      rw [eg] at hc
      rw [if_pos hc]
      refine ⟨?_, Nat.le_refl _⟩
      simp
    · have h2 : cutL s b (k + 1) = cutL s b k := by rw [cutL, if_neg hc]
      rw [h2]
      rw [eg] at hc
      rw [if_neg hc]
      refine ⟨?_, by omega⟩
      congr 2
      simp only [ByteArray.data_extract, Array.toList_extract, List.extract_eq_take_drop]
      rw [show k + 1 - (cutL s b k).2 = (k - (cutL s b k).2) + 1 from by omega, List.take_succ_eq_append_getElem (by simp only [List.length_drop]; omega)]
      congr 2
      rw [List.getElem_drop]
      congr 1
      omega
theorem parts_split (s b : ByteArray) : (parts s b).map (fun x => x.data.toList) = splitC (b.data.toList.contains ·) s.data.toList := by
  have h := (cut_split s b s.size (Nat.le_refl _)).1
  rw [List.take_of_length_le (by simp)] at h
  rw [h, parts, List.map_append]
  rfl
theorem parts_eq (s b : ByteArray) : parts s b = (splitC (b.data.toList.contains ·) s.data.toList).map (fun l => ⟨l.toArray⟩) := by
  rw [← parts_split, List.map_map]
  conv => lhs; rw [← List.map_id (parts s b)]
  apply List.map_congr_left
  intro x _
  rfl
end Go.Proofs.YthppbcnejapbiaaGreatDoor.SplitC
