/- Modes as values: their text, the permission of a class; a mode is known by its text. Plain facts, no condition. -/
import Derived.Test.YtjefefedhhloiaaGreatDoorAclV
namespace Go.Proofs.YtjefefedhhloiaaGreatDoor.ModeV
open Go
set_option linter.unusedVariables false

def modeB (m : Int) : Bool := decide (0 ≤ m) && decide (m ≤ 2047)
theorem mode_iff (m : Int) : modeB m = true ↔ 0 ≤ m ∧ m ≤ 2047 := by simp [modeB]
/-- The permission of a class in a mode. -/
def permOfV (m k : Int) : Int := if modeB m = true ∧ 0 ≤ k ∧ k ≤ 2 then (if k = 0 then m / 64 else if k = 1 then m / 8 else m) % 8 else 0
theorem permOf_range (m k : Int) : 0 ≤ permOfV m k ∧ permOfV m k ≤ 7 := by
  unfold permOfV
  split
  · split
    · omega
    · split <;> omega
  · omega
theorem permOf_at {m : Int} (h : modeB m = true) : permOfV m 0 = m / 64 % 8 ∧ permOfV m 1 = m / 8 % 8 ∧ permOfV m 2 = m % 8 := by
  refine ⟨?_, ?_, ?_⟩
  · rw [permOfV, if_pos ⟨h, by omega, by omega⟩, if_pos rfl]
  · rw [permOfV, if_pos ⟨h, by omega, by omega⟩, if_neg (by omega), if_pos rfl]
  · rw [permOfV, if_pos ⟨h, by omega, by omega⟩, if_neg (by omega), if_neg (by omega)]
theorem permOf_parts {m : Int} (h : modeB m = true) : permOfV m 0 * 64 + permOfV m 1 * 8 + permOfV m 2 = m % 512 := by
  obtain ⟨e0, e1, e2⟩ := permOf_at h
  rw [e0, e1, e2]
  omega
/-- The letter of a place, its character in a mode's text: the letter, or '-'. -/
def letB (i : Nat) : UInt8 := [115, 116, 114, 119, 120, 114, 119, 120, 114, 119, 120].getD i 0
def chM (n i : Nat) : UInt8 := if n / 2 ^ (10 - i) % 2 = 1 then letB i else 45
def fmtM (n : Nat) : List UInt8 := (List.range 11).map (chM n)
theorem fmtM_length (n : Nat) : (fmtM n).length = 11 := by simp [fmtM]
def formatM (m : Int) : ByteArray := if modeB m = true then ⟨(fmtM m.toNat).toArray⟩ else ⟨#[]⟩
theorem formatM_size {m : Int} (h : modeB m = true) : (formatM m).size = 11 := by
  rw [formatM, if_pos h]
  show (fmtM m.toNat).toArray.size = 11
  rw [List.size_toArray, fmtM_length]
theorem formatM_no {m : Int} (h : modeB m = false) : formatM m = ⟨#[]⟩ := by rw [formatM, if_neg (by rw [h]; simp)]
/-- What a text spells, a bit a character. -/
def stepM (a : Nat) (c : UInt8) : Nat := 2 * a + (if c = 45 then 0 else 1)
def readM (l : List UInt8) : Nat := l.foldl stepM 0
theorem readM_nil : readM [] = 0 := rfl
theorem readM_snoc (l : List UInt8) (c : UInt8) : readM (l ++ [c]) = 2 * readM l + (if c = 45 then 0 else 1) := by
  simp [readM, stepM]
theorem readM_lt (l : List UInt8) : readM l < 2 ^ l.length := by
  have h : ∀ (l : List UInt8) (a k : Nat), a < 2 ^ k → l.foldl stepM a < 2 ^ (k + l.length) := by
    intro l
    induction l with
    | nil => intro a k h; exact h
    | cons c l ih =>
      intro a k h
      have h2 : stepM a c < 2 ^ (k + 1) := by
        unfold stepM
        rw [Nat.pow_succ]
        split <;> omega
      have := ih _ _ h2
      rw [List.foldl_cons, List.length_cons, show k + (l.length + 1) = k + 1 + l.length by omega]
      exact this
  have := h l 0 0 (by decide)
  rwa [Nat.zero_add] at this
theorem let_ne (i : Nat) (h : i < 11) : letB i ≠ 45 := by
  rcases (show i = 0 ∨ i = 1 ∨ i = 2 ∨ i = 3 ∨ i = 4 ∨ i = 5 ∨ i = 6 ∨ i = 7 ∨ i = 8 ∨ i = 9 ∨ i = 10 by omega) with rfl | rfl | rfl | rfl | rfl | rfl | rfl | rfl | rfl | rfl | rfl <;> decide
theorem ch_bit (n i : Nat) (h : i < 11) : (if chM n i = 45 then 0 else 1) = n / 2 ^ (10 - i) % 2 := by
  unfold chM
  by_cases hb : n / 2 ^ (10 - i) % 2 = 1
  · rw [if_pos hb, if_neg (let_ne i h), hb]
  · rw [if_neg hb, if_pos rfl]
    omega
theorem read_part (n : Nat) (h : n < 2048) : ∀ k, k ≤ 11 → readM ((List.range k).map (chM n)) = n / 2 ^ (11 - k)
  | 0, _ => (Nat.div_eq_of_lt h).symm
  | k + 1, hk => by
    rw [List.range_succ, List.map_append, List.map_cons, List.map_nil, readM_snoc, read_part n h k (by omega), ch_bit n k (by omega), show 11 - (k + 1) = 10 - k by omega, show 11 - k = (10 - k) + 1 by omega, Nat.pow_succ, ← Nat.div_div_eq_div_mul]
    omega
/-- A mode's text spells it. -/
theorem read_fmt (n : Nat) (h : n < 2048) : readM (fmtM n) = n := by
  have := read_part n h 11 (Nat.le_refl _)
  rwa [Nat.sub_self, Nat.pow_zero, Nat.div_one] at this
theorem formatM_inj {m k : Int} (hm : modeB m = true) (hk : modeB k = true) (h : formatM m = formatM k) : m = k := by
  have am := (mode_iff m).1 hm
  have ak := (mode_iff k).1 hk
  rw [formatM, formatM, if_pos hm, if_pos hk] at h
  have h2 : fmtM m.toNat = fmtM k.toNat := by simpa using congrArg (fun b : ByteArray => b.data.toList) h
  have h3 := congrArg readM h2
  rw [read_fmt _ (by omega), read_fmt _ (by omega)] at h3
  omega
/-- The mode whose text is t. -/
def parseM (t : ByteArray) : Int × Bool := if formatM (readM (t.data.toList.take 11)) = t then ((readM (t.data.toList.take 11) : Int), true) else (0, false)
theorem parseM_of {m : Int} (h : modeB m = true) : parseM (formatM m) = (m, true) := by
  have a := (mode_iff m).1 h
  have e : (formatM m).data.toList = fmtM m.toNat := by rw [formatM, if_pos h]
  have e2 : ((readM ((formatM m).data.toList.take 11) : Nat) : Int) = m := by
    rw [e, List.take_of_length_le (by rw [fmtM_length]; exact Nat.le_refl _), read_fmt _ (by omega)]
    omega
  rw [parseM, e2, if_pos rfl]
theorem parseM_no {t : ByteArray} (h : ∀ m, modeB m = true → formatM m ≠ t) (ht : t ≠ ⟨#[]⟩) : parseM t = (0, false) := by
  rw [parseM, if_neg]
  intro e
  cases hm : modeB (readM (t.data.toList.take 11))
  · rw [formatM_no hm] at e
    exact ht e.symm
  · exact h _ hm e
theorem read_mode (l : List UInt8) (h : l.length ≤ 11) : modeB (readM l : Int) = true := by
  have h1 := readM_lt l
  have h2 : 2 ^ l.length ≤ 2 ^ 11 := Nat.pow_le_pow_right (by omega) h
  rw [mode_iff]
  have : (2 : Nat) ^ 11 = 2048 := rfl
  omega
/-- Parsing is right of every text. -/
theorem parseM_yes {t : ByteArray} {m : Int} (h : modeB m = true) (e : formatM m = t) : parseM t = (m, true) := by rw [← e]; exact parseM_of h
theorem parseM_none {t : ByteArray} (h : ∀ m, modeB m = true → formatM m ≠ t) : parseM t = (0, false) := by
  rw [parseM, if_neg]
  intro e
  exact h _ (read_mode _ (by rw [List.length_take]; omega)) e
/-- The sticky bit of a mode. -/
def stickyB (m : Int) : Bool := decide (m.toNat / 512 % 2 = 1)
end Go.Proofs.YtjefefedhhloiaaGreatDoor.ModeV
