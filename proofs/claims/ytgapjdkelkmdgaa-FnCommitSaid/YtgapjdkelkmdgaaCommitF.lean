/- Plain facts on strings one behind the other and on what the commit sector is made of. No condition. -/
import Derived.Test.YtgapjdkelkmdgaaTxnV
import Derived.Test.YtgapjdkelkmdgaaJoin
namespace Go.Proofs.Ytgapjdkelkmdgaa.Txn
open Wr (Wt d0 datas)
open Strs (total)
set_option linter.unusedVariables false

theorem cat_nil : cat [] = ⟨#[]⟩ := rfl
theorem cat_data (xs : List ByteArray) : (cat xs).data.toList = xs.flatMap fun x => x.data.toList := by simp [cat]
theorem cat_append (xs ys : List ByteArray) : cat (xs ++ ys) = cat xs ++ cat ys := by
  apply ByteArray.ext
  apply Array.toList_inj.1
  rw [ByteArray.data_append, Array.toList_append, cat_data, cat_data, cat_data, List.flatMap_append]
theorem cat_one (x : ByteArray) : cat [x] = x := by
  apply ByteArray.ext
  apply Array.toList_inj.1
  rw [cat_data]; simp
theorem cat_snoc (xs : List ByteArray) (x : ByteArray) : cat (xs ++ [x]) = cat xs ++ x := by rw [cat_append, cat_one]
theorem cat_snoc2 (xs : List ByteArray) (x y : ByteArray) : cat (xs ++ [x, y]) = cat xs ++ x ++ y := by
  rw [show xs ++ [x, y] = (xs ++ [x]) ++ [y] from by simp, cat_snoc, cat_snoc]
theorem cat_size (xs : List ByteArray) : (cat xs).size = total xs := by
  have h : (cat xs).data.toList.length = (xs.map ByteArray.size).sum := by
    rw [cat_data]
    induction xs with
    | nil => rfl
    | cons a l ih => rw [List.flatMap_cons, List.length_append, ih, List.map_cons, List.sum_cons]; rfl
  exact h
theorem joined_cat (xs : List ByteArray) : ∀ k, k ≤ xs.length → Join.joined xs ⟨#[]⟩ k = cat (xs.take k) := by
  intro k
  induction k with
  | zero => intro _; rfl
  | succ k ih =>
    intro hk
    have hlt : k < xs.length := by omega
    rw [Join.joined, ih (by omega), List.take_succ_eq_append_getElem hlt, cat_snoc]
    have e : xs.getD k ⟨#[]⟩ = xs[k] := by simp [List.getD, List.getElem?_eq_getElem hlt]
    have e2 : cat (xs.take k) ++ (⟨#[]⟩ : ByteArray) = cat (xs.take k) := by
      apply ByteArray.ext
      apply Array.toList_inj.1
      rw [ByteArray.data_append, Array.toList_append]
      simp
    rw [e, e2]
    split <;> rfl
theorem joined_all (xs : List ByteArray) : Join.joined xs ⟨#[]⟩ xs.length = cat xs := by
  rw [joined_cat xs xs.length (Nat.le_refl _), List.take_of_length_le (Nat.le_refl _)]

theorem putB_size (n k : Int) : (Nums.putB n k).size ≤ 6 := by
  by_cases h : Nums.fitsB n k = true
  · unfold Nums.putB
    rw [if_pos h]
    have h6 : k.toNat ≤ 6 := by
      simp only [Nums.fitsB, Bool.and_eq_true, decide_eq_true_eq] at h
      omega
    show (Nums.lowL n.toNat k.toNat).toArray.size ≤ 6
    simpa [Nums.lowL_length] using h6
  · rw [Nums.putB_no (by simpa using h)]
    show (0 : Nat) ≤ 6
    omega
theorem putB_size2 (n : Nat) (h : n < 65536) : (Nums.putB n 2).size = 2 := by
  have hf : Nums.fitsB n (2 : Nat) = true := (PutNumber.fits_nat n 2).2 ⟨by omega, by omega, by omega⟩
  have := Nums.putB_yes n 2 hf
  rw [show ((2 : Nat) : Int) = 2 from rfl] at this
  rw [this]
  show (Nums.lowL n 2).toArray.size = 2
  simp [Nums.lowL_length]
theorem crc_lt (l : List UInt8) : Checksum.crc l < 4294967296 := by
  have := Checksum.sumC_lt l
  unfold Checksum.crc
  omega
theorem sumOf_lt (l : List Wt) : sumOf l < 4294967296 := crc_lt _

theorem parts_append (a b : List Wt) : parts (a ++ b) = parts a ++ parts b := by simp [parts]
theorem parts_length (l : List Wt) : (parts l).length = 2 * l.length := by
  induction l with
  | nil => rfl
  | cons a l ih =>
    rw [show parts (a :: l) = [Nums.putB a.1 2, a.2] ++ parts l from rfl, List.length_append, ih, List.length_cons]
    simp; omega
theorem take_snoc (l : List Wt) (i : Nat) (h : i < l.length) : l.take (i + 1) = l.take i ++ [l.getD i d0] := by
  rw [List.take_succ_eq_append_getElem h]
  simp [List.getD, List.getElem?_eq_getElem h]
theorem parts_take (l : List Wt) (i : Nat) (h : i < l.length) : parts (l.take (i + 1)) = parts (l.take i) ++ [Nums.putB (l.getD i d0).1 2, (l.getD i d0).2] := by
  rw [take_snoc l i h, parts_append]; rfl
theorem total_append (a b : List ByteArray) : total (a ++ b) = total a + total b := by simp [total]
theorem total_parts (l : List Wt) : total (parts l) ≤ 6 * l.length + total (datas l) := by
  induction l with
  | nil => exact Nat.zero_le _
  | cons a l ih =>
    rw [show parts (a :: l) = [Nums.putB a.1 2, a.2] ++ parts l from rfl, total_append, show datas (a :: l) = [a.2] ++ datas l from rfl, total_append, List.length_cons]
    have h1 := putB_size a.1 2
    have h2 : total [Nums.putB a.1 2, a.2] = (Nums.putB a.1 2).size + a.2.size := by simp [total]
    have h3 : total [a.2] = a.2.size := by simp [total]
    omega
theorem fields_cat (seq : Int) (l : List Wt) : cat (fields seq l) = mark ++ Nums.putB seq 4 ++ Nums.putB l.length 2 ++ Nums.putB (sumOf l) 4 := by
  unfold fields
  rw [show [mark, Nums.putB seq 4, Nums.putB l.length 2, Nums.putB (sumOf l) 4] = [mark] ++ [Nums.putB seq 4] ++ [Nums.putB l.length 2] ++ [Nums.putB (sumOf l) 4] from rfl, cat_append, cat_append, cat_append, cat_one, cat_one, cat_one, cat_one]
theorem total4 (a b c d : ByteArray) : total [a, b, c, d] = a.size + (b.size + (c.size + d.size)) := by simp [total]
theorem le4 {a b c d m : Nat} (h : m = a + (b + (c + d))) (h1 : a ≤ 4) (h2 : b ≤ 6) (h3 : c ≤ 6) (h4 : d ≤ 6) : m ≤ 22 := by omega
theorem fields_total (seq : Int) (l : List Wt) : total (fields seq l) ≤ 22 :=
  le4 (total4 _ _ _ _) (Nat.le_of_eq rfl) (putB_size seq 4) (putB_size l.length 2) (putB_size (sumOf l) 4)
end Go.Proofs.Ytgapjdkelkmdgaa.Txn
