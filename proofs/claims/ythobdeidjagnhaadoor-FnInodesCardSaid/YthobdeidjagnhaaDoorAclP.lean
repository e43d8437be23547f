/- Access lists' text and bytes as the program makes them: piece by piece. Plain facts; conditions: as each theorem types them. -/
import Derived.Test.YthobdeidjagnhaaDoorAclV
import Derived.Test.YthobdeidjagnhaaDoorNums
import Derived.Test.YthobdeidjagnhaaDoorJoin
import Derived.Test.YthobdeidjagnhaaDoorPadTo
import Derived.Lib.ItoaNum
namespace Go.Proofs.YthobdeidjagnhaaDoor.AclP
open Go
open AclV
open Nums (putB fitsB lowL byteN)
open Join (joined)
open PadTo (padB padB_at zend)
set_option linter.unusedVariables false

theorem ext {a b : ByteArray} (h : a.data.toList = b.data.toList) : a = b := ByteArray.ext (Array.toList_inj.1 h)
/-- A digit's text. -/
theorem itoa_dig {n : Int} (h0 : 0 ≤ n) (h9 : n ≤ 9) : (⟨(Lib.itoa n).toArray⟩ : ByteArray) = ⟨#[digC n]⟩ := by
  apply ext
  simp only [List.toList_toArray]
  rw [Lib.itoa, if_neg (by omega), Lib.decDigits_one (by omega)]
  rfl
/-- A number in one byte. -/
theorem put1 {n : Int} (h0 : 0 ≤ n) (h : n ≤ 255) : putB n 1 = ⟨#[by1 n]⟩ := by
  have hf : fitsB n 1 = true := by
    simp only [fitsB, Bool.and_eq_true, decide_eq_true_eq]
    refine ⟨⟨⟨by omega, by omega⟩, h0⟩, ?_⟩
    show n < 256 ^ 1
    omega
  rw [putB, if_pos hf]
  apply ext
  show lowL n.toNat 1 = [by1 n]
  simp only [lowL, byteN, by1]
  rw [Nat.pow_zero, Nat.div_one, Nat.mod_eq_of_lt (by omega)]
/-- The bytes with k entries laid. -/
def accP (l : List At) (k : Nat) : ByteArray := ⟨(by1 l.length :: tripL (l.take k)).toArray⟩
theorem acc_zero {l : List At} (h : l.length ≤ 6) : putB l.length 1 = accP l 0 := by
  rw [put1 (by omega) (by omega)]
  rfl
theorem acc_succ {l : List At} (k : Nat) (hk : k < l.length) (he : entB (l.getD k a0) = true) :
    accP l k ++ putB (l.getD k a0).1 1 ++ putB (l.getD k a0).2.1 1 ++ putB (l.getD k a0).2.2 1 = accP l (k + 1) := by
  have f := ent_facts he
  rw [put1 (by omega) (by omega), put1 (by omega) (by omega), put1 (by omega) (by omega)]
  apply ext
  have eg : l.getD k a0 = l[k] := by rw [List.getD_eq_getElem?_getD, List.getElem?_eq_getElem hk]; rfl
  rw [eg]
  simp only [accP, ByteArray.data_append, Array.toList_append, List.toList_toArray]
  have e : tripL (l.take (k + 1)) = tripL (l.take k) ++ [by1 l[k].1, by1 l[k].2.1, by1 l[k].2.2] := by
    rw [List.take_succ_eq_append_getElem hk, tripL, List.flatMap_append, ← tripL]
    rfl
  rw [e]
  simp
theorem acc_size (l : List At) (k : Nat) (hk : k ≤ l.length) : (accP l k).size = 1 + 3 * k := by
  show (by1 l.length :: tripL (l.take k)).toArray.size = _
  rw [List.size_toArray, List.length_cons, tripL_len, List.length_take, Nat.min_eq_left hk]
  omega
theorem acc_pad {l : List At} (h : okB l = true) : padB (accP l l.length) 19 = packV l := by
  have h6 := ok_len h
  rw [padB_at _ _ (18 - 3 * l.length) (by omega) (by rw [acc_size l _ (Nat.le_refl _)]; omega), packV, if_pos h]
  congr 1
  simp only [zend, accP, List.take_length]
  rfl
/-- An entry's text. -/
def entT (x : At) : ByteArray := ⟨(entL x).toArray⟩
theorem entT_size (x : At) : (entT x).size = 4 := rfl
/-- The letters of the tags, in one text. -/
def ugm : ByteArray := ⟨#[63, 117, 103, 109]⟩
theorem ugm_at {t : Int} (h1 : 1 ≤ t) (h3 : t ≤ 3) : ugm.extract t.toNat (t.toNat + 1) = ⟨#[tagC t]⟩ := by
  have e : t = 1 ∨ t = 2 ∨ t = 3 := by omega
  rcases e with rfl | rfl | rfl <;> rfl
theorem entT_eq {x : At} (h : entB x = true) : ugm.extract x.1.toNat (x.1.toNat + 1) ++ ⟨(Lib.itoa x.2.1).toArray⟩ ++ ⟨#[58]⟩ ++ ⟨(Lib.itoa x.2.2).toArray⟩ = entT x := by
  have f := ent_facts h
  rw [ugm_at f.2.2.1 f.2.2.2.1, itoa_dig f.2.2.2.2.1 (by omega), itoa_dig f.1 (by omega)]
  apply ext
  simp [entT, entL]
theorem fmtL_snoc (l : List At) (x : At) (h : l ≠ []) : fmtL (l ++ [x]) = fmtL l ++ 44 :: entL x := by
  induction l with
  | nil => exact absurd rfl h
  | cons y l ih =>
    cases l with
    | nil => rfl
    | cons z l =>
      rw [List.cons_append, fmtL_cons y _ (by simp), ih (by simp), fmtL_cons y _ (by simp), List.append_assoc, List.cons_append]
theorem joined_fmt (l : List At) (k : Nat) (hk : k ≤ l.length) (h1 : 1 ≤ k) : joined (l.map entT) ⟨#[44]⟩ k = ⟨(fmtL (l.take k)).toArray⟩ := by
  induction k with
  | zero => omega
  | succ k ih =>
    have hkl : k < l.length := by omega
    have e : (l.map entT).getD k ⟨#[]⟩ = entT l[k] := by simp [List.getD, List.getElem?_eq_getElem hkl]
    rw [joined, e, List.take_succ_eq_append_getElem hkl]
    by_cases h0 : k = 0
    · subst h0
      rw [if_pos rfl]
      apply ext
      simp [joined, entT, fmtL]
    · rw [if_neg h0, ih (by omega) (by omega), fmtL_snoc _ _ (by
        intro e2
        have := congrArg List.length e2
        rw [List.length_take, Nat.min_eq_left (by omega)] at this
        exact h0 this)]
      apply ext
      simp [entT]
/-- The joined texts of a valid list's entries are its text. -/
theorem joined_all {l : List At} (h : okB l = true) (hne : l ≠ []) : joined (l.map entT) ⟨#[44]⟩ l.length = formatV l := by
  rw [joined_fmt l _ (Nat.le_refl _) (by cases l with | nil => exact absurd rfl hne | cons _ _ => simp), List.take_length, formatV, if_pos h, if_neg hne]
end Go.Proofs.YthobdeidjagnhaaDoor.AclP
