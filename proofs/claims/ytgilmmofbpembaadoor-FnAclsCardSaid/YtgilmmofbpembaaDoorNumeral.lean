/- Plain facts on decimal numerals: what a list of digits spells, that the numeral of a number spells it, and that reading it back yields it. No program; no condition of its own. -/
import Derived.Test.YtgilmmofbpembaaDoorKit
import Derived.Lib.ItoaNum
import Derived.Lib.AtoiAll
namespace Go.Proofs.YtgilmmofbpembaaDoor.Numeral
open Go.Lib

/-- What the digits spell, behind acc. -/
def vf (acc : Nat) (l : List UInt8) : Nat := l.foldl (fun a c => a * 10 + (c.toNat - 48)) acc
theorem vf_nil (acc : Nat) : vf acc [] = acc := rfl
theorem vf_cons (acc : Nat) (c : UInt8) (l : List UInt8) : vf acc (c :: l) = vf (acc * 10 + (c.toNat - 48)) l := by simp only [vf, List.foldl_cons]
theorem vf_append (acc : Nat) (l r : List UInt8) : vf acc (l ++ r) = vf (vf acc l) r := by simp [vf, List.foldl_append]
theorem vf_ge (l : List UInt8) : ∀ acc, acc ≤ vf acc l := by
  induction l with
  | nil => intro acc; exact Nat.le_refl _
  | cons c l ih => intro acc; rw [vf_cons]; have := ih (acc * 10 + (c.toNat - 48)); omega
theorem vf_take (l : List UInt8) (k : Nat) : vf 0 (l.take k) ≤ vf 0 l := by
  have : vf 0 l = vf (vf 0 (l.take k)) (l.drop k) := by rw [← vf_append, List.take_append_drop]
  rw [this]; exact vf_ge _ _
theorem vf_snoc (l : List UInt8) (k : Nat) (h : k < l.length) : vf 0 (l.take (k + 1)) = vf 0 (l.take k) * 10 + (l[k].toNat - 48) := by
  rw [List.take_succ_eq_append_getElem h, vf_append]; rfl
def Dig (c : UInt8) : Prop := 48 ≤ c.toNat ∧ c.toNat ≤ 57
theorem byte_of (d : Nat) (h : d < 10) : (UInt8.ofNat (48 + d)).toNat = 48 + d := by
  rw [UInt8.toNat_ofNat']; omega
theorem dec_vf (u : Nat) : vf 0 (decDigits u) = u := by
  induction u using Nat.strongRecOn with
  | _ u ih =>
    rw [decDigits]
    split
    · rename_i h; rw [vf_cons, vf_nil, byte_of u h]; omega
    · rename_i h; rw [vf_append, ih (u / 10) (by omega), vf_cons, vf_nil, byte_of (u % 10) (by omega)]; omega
theorem dec_dig (u : Nat) : ∀ c ∈ decDigits u, Dig c := by
  induction u using Nat.strongRecOn with
  | _ u ih =>
    rw [decDigits]
    split
    · rename_i h; intro c hc
      obtain rfl : c = UInt8.ofNat (48 + u) := by simpa using hc
      unfold Dig; rw [byte_of u h]; omega
    · rename_i h; intro c hc
      rcases List.mem_append.1 hc with h1 | h1
      · exact ih (u / 10) (by omega) c h1
      · obtain rfl : c = UInt8.ofNat (48 + u % 10) := by simpa using h1
        unfold Dig; rw [byte_of (u % 10) (by omega)]; omega
theorem dec_ne (u : Nat) : decDigits u ≠ [] := by
  intro h
  have := decDigits_length u
  have h2 := nDigits_pos u
  rw [h] at this; simp at this; omega
theorem nDigits_lt (k : Nat) : ∀ u, u < 10 ^ (k + 1) → nDigits u ≤ k + 1 := by
  induction k with
  | zero => intro u h; rw [nDigits_small (by simpa using h)]; omega
  | succ k ih =>
    intro u h
    by_cases h1 : u < 10
    · rw [nDigits_small h1]; omega
    · rw [nDigits_big h1]
      have := ih (u / 10) (by rw [Nat.pow_succ] at h; omega)
      omega
theorem dec_len (u : Nat) (h : u ≤ 9223372036854775808) : (decDigits u).length ≤ 19 := by
  rw [decDigits_length]
  exact nDigits_lt 18 u (by omega)
theorem parse_dig (l : List UInt8) : ∀ acc, (∀ c ∈ l, Dig c) → vf acc l < 18446744073709551616 → parseUint10 acc l = .ok (vf acc l) := by
  induction l with
  | nil => intro acc _ _; rfl
  | cons c l ih =>
    intro acc hd hv
    have hc := hd c (by simp)
    unfold Dig at hc
    rw [vf_cons] at hv ⊢
    have hge := vf_ge l (acc * 10 + (c.toNat - 48))
    rw [parseUint10, if_pos hc, if_neg (by omega), if_neg (by omega)]
    exact ih _ (fun x hx => hd x (by simp [hx])) hv
theorem parse_dec (u : Nat) (h : u ≤ 9223372036854775808) : parseMag (decDigits u) = .ok u := by
  rw [parseMag, if_neg (dec_ne u), parse_dig _ _ (dec_dig u) (by rw [dec_vf]; omega), dec_vf]
theorem atoi_itoa (n : Int) (h0 : -9223372036854775808 ≤ n) (h1 : n ≤ 9223372036854775807) : atoiAll (itoa n) = .ok n := by
  unfold itoa
  by_cases hn : n < 0
  · rw [if_pos hn]
    unfold atoiAll
    dsimp only
    rw [if_pos (Or.inr rfl : (45 : UInt8).toNat = 43 ∨ (45 : UInt8).toNat = 45), parse_dec n.natAbs (by omega)]
    dsimp only
    rw [if_neg (fun h => h.1 rfl), if_neg (fun h => by have := h.2; omega)]
    have h45 : UInt8.toNat 45 = 45 := rfl
    rw [h45, if_pos rfl]
    congr 1; omega
  · rw [if_neg hn]
    obtain ⟨c, r, hr⟩ : ∃ c r, decDigits n.toNat = c :: r := by
      cases h : decDigits n.toNat with
      | nil => exact absurd h (dec_ne _)
      | cons c r => exact ⟨c, r, rfl⟩
    have hc := dec_dig n.toNat c (by rw [hr]; simp)
    unfold Dig at hc
    rw [hr]
    unfold atoiAll
    dsimp only
    rw [if_neg (by omega), ← hr, parse_dec n.toNat (by omega)]
    dsimp only
    rw [if_neg (by omega), if_neg (by omega), if_neg (by omega)]
    congr 1; omega
/-- Is the first byte a minus sign? -/
def negL (l : List UInt8) : Bool := decide (l.head? = some 45)
/-- What stands behind the sign. -/
def magL (l : List UInt8) : List UInt8 := if negL l = true then l.tail else l
theorem itoa_form (n : Int) (l : List UInt8) (h : itoa n = l) (h0 : -9223372036854775808 ≤ n) (h1 : n ≤ 9223372036854775807) :
    (∀ c ∈ magL l, Dig c) ∧ magL l ≠ [] ∧ (magL l).length ≤ 19 ∧ vf 0 (magL l) = n.natAbs ∧ (negL l = true ↔ n < 0) := by
  unfold itoa at h
  by_cases hn : n < 0
  · rw [if_pos hn] at h
    subst h
    have e : negL (45 :: decDigits n.natAbs) = true := by simp [negL]
    rw [magL, if_pos e]
    exact ⟨dec_dig _, dec_ne _, dec_len _ (by omega), dec_vf _, ⟨fun _ => hn, fun _ => e⟩⟩
  · rw [if_neg hn] at h
    subst h
    have e : negL (decDigits n.toNat) = false := by
      rw [negL, decide_eq_false_iff_not]
      intro hh
      have hm : (45 : UInt8) ∈ decDigits n.toNat := List.mem_of_mem_head? hh
      have := dec_dig _ _ hm
      unfold Dig at this
      have h45 : (45 : UInt8).toNat = 45 := rfl
      omega
    rw [magL, if_neg (by rw [e]; decide)]
    have ha : n.toNat = n.natAbs := by omega
    rw [ha] at e ⊢
    exact ⟨dec_dig _, dec_ne _, dec_len _ (by omega), dec_vf _, ⟨fun hh => absurd (e.symm.trans hh) (by decide), fun hh => absurd hh hn⟩⟩
theorem itoa_inj (n m : Int) (h : itoa n = itoa m) (hn0 : -9223372036854775808 ≤ n) (hn1 : n ≤ 9223372036854775807) (hm0 : -9223372036854775808 ≤ m) (hm1 : m ≤ 9223372036854775807) : n = m := by
  have h1 := atoi_itoa n hn0 hn1
  have h2 := atoi_itoa m hm0 hm1
  rw [h, h2] at h1
  injection h1 with h1
  exact h1.symm
end Go.Proofs.YtgilmmofbpembaaDoor.Numeral
