/- Contracts: JoinPath of the program and of the model: the names, each with a slash before it. Conditions: as each theorem types them. -/
import Derived.Test.YthppbcnejapbiaaJoin
import Derived.Test.YthppbcnejapbiaaPaV
namespace Go.Proofs.Ythppbcnejapbiaa.PaJ
open Go.ChangeShapes Go.WideShapes Go.ChangeAt Go.RowKit
open Strs (Holds holds_of_own holds_below eq_any own_below total total_take_succ total_take_le budgetOf sz_any to_any)
open Join (joined joined_size ret_str)
open PaV (slB)
set_option linter.unusedVariables false

/-- The first k names, each with a slash before it. -/
def catB (xs : List ByteArray) : Nat → ByteArray
  | 0 => ⟨#[]⟩
  | k + 1 => catB xs k ++ slB ++ xs.getD k ⟨#[]⟩
def pathJ (xs : List ByteArray) : ByteArray := slB ++ joined xs slB xs.length
theorem cat_path (xs : List ByteArray) : ∀ k, catB xs (k + 1) = slB ++ joined xs slB (k + 1)
  | 0 => by
    show (⟨#[]⟩ : ByteArray) ++ slB ++ xs.getD 0 ⟨#[]⟩ = slB ++ (⟨#[]⟩ ++ xs.getD 0 ⟨#[]⟩)
    rw [show (⟨#[]⟩ : ByteArray) ++ slB = slB from rfl]
    congr 1
  | k + 1 => by
    rw [catB, cat_path xs k]
    show slB ++ joined xs slB (k + 1) ++ slB ++ xs.getD (k + 1) ⟨#[]⟩ = slB ++ ((if k + 1 = 0 then joined xs slB (k + 1) else joined xs slB (k + 1) ++ slB) ++ xs.getD (k + 1) ⟨#[]⟩)
    rw [if_neg (show ¬ k + 1 = 0 by omega), ByteArray.append_assoc, ByteArray.append_assoc, ByteArray.append_assoc]
theorem cat_all (xs : List ByteArray) : (if xs.length = 0 then slB else catB xs xs.length) = pathJ xs := by
  unfold pathJ
  by_cases h : xs.length = 0
  · rw [if_pos h, h]; rfl
  · obtain ⟨k, hk⟩ : ∃ k, xs.length = k + 1 := ⟨xs.length - 1, by omega⟩
    rw [if_neg h, hk, cat_path]
theorem cat_size (xs : List ByteArray) : ∀ k, k ≤ xs.length → (catB xs k).size ≤ k + total (xs.take k) := by
  intro k
  induction k with
  | zero => intro _; exact Nat.zero_le _
  | succ k ih =>
    intro hk
    have h1 := ih (by omega)
    rw [total_take_succ xs k (by omega), catB, ByteArray.size_append, ByteArray.size_append, show slB.size = 1 from rfl]
    omega

set_option maxRecDepth 100000 in
set_option maxHeartbeats 400000 in
theorem join_spec (w : World) (v : Value) (xs : List ByteArray) (hn : xs.length + total xs ≤ 1048576) (h : Holds w v xs) :
    Calls Try.prog 11 #[v] w fun e w' => e = .returned (.string (pathJ xs)) ∧ w = w' := by
  obtain ⟨a, cap, rfl, hc⟩ := h
  by_cases h0 : xs = []
  · subst h0
    simp only [List.length_nil]
    clear hc hn
    go_enter Try.func11, Try.ntmps11
    go_wp2
    refine wp_loop_rounds 1 ?_
    rw [rounds_succ]
    go_wp2
    go_ret
    exact ⟨ret_str rfl, rfl⟩
  · obtain ⟨b1, o1, rfl, _, hcell⟩ := hc h0
    have HC := Lib.hid hcell
    have hx0 : xs.length ≠ 0 := fun h => h0 (List.eq_nil_of_length_eq_zero h)
    have HCA := Lib.hid (cat_all xs)
    rw [if_neg hx0] at HCA
    have HSZ := Lib.hid (cat_size xs)
    have HTL := Lib.hid (total_take_le xs)
    obtain ⟨L, hL⟩ : ∃ L, L = xs.length := ⟨_, rfl⟩
    rw [← hL] at hn ⊢
    have HL := Lib.hid hL
    have HN := Lib.hid hn
    have hLb : L ≤ 1048576 := by omega
    have hLz : (L == 0) = false := by simp; omega
    have hLi : ((L : Int) == 0) = false := by simp; omega
    clear hL hn hc hcell h0 hx0
    have hbound : ∀ i, i ≤ L → (catB xs i).size ≤ 1099512676352 := by
      intro i hi
      have h1 := HSZ.out i (by rw [← HL.out]; exact hi)
      have h2 := HTL.out i
      have h3 := HN.out
      omega
    have HBD := Lib.hid hbound
    clear hbound
    go_enter Try.func11, Try.ntmps11
    go_wp2
    go_loop [3, 8] (fun sv iv => ∃ i : Nat, i ≤ L ∧ iv = .int .i64 i ∧ sv = .string (catB xs i)) (fun _ iv => L - (intOf iv).toNat)
    case atStart => exact ⟨0, Nat.zero_le _, rfl, rfl⟩
    case round =>
      obtain ⟨i, hi, rfl, rfl⟩ := hrel
      by_cases hlt : i < L
      · have hlx : i < xs.length := by rw [← HL.out]; exact hlt
        have g1 := HC.out i hlx
        have hjb := HBD.out i hi
        have hjb2 := HBD.out (i + 1) hlt
        have hj1 : catB xs (i + 1) = catB xs i ++ slB ++ xs.getD i ⟨#[]⟩ := rfl
        rw [hj1, ByteArray.size_append, ByteArray.size_append] at hjb2
        have HJ1 := Lib.hid hj1
        clear hj1
        generalize xs.getD i ⟨#[]⟩ = x at g1 hjb2 HJ1
        have hjb3 : (catB xs i ++ slB).size + x.size ≤ 1099512676352 := by rw [ByteArray.size_append]; exact hjb2
        go_wp2
        go_round
        case rel => exact ⟨i + 1, by omega, by go_num, by rw [HJ1.out]; rfl⟩
        case measure => simp [intOf]; omega
      · obtain rfl : i = L := by omega
        go_wp2
        go_ret
        exact ⟨ret_str (by rw [← HCA.out, ← HL.out]), rfl⟩

set_option maxRecDepth 100000 in
set_option maxHeartbeats 400000 in
theorem join_impl (w : World) (v : Value) (xs : List ByteArray) (hn : xs.length + total xs ≤ 1048576) (h : Holds w v xs) (hcap : ∀ a n c, v = .slice a n c → n ≤ c) :
    Calls Try.prog 13 #[v] w fun e w' => e = .returned (.string (pathJ xs)) ∧ Below w.heap.size w w' := by
  have hjs : (slB ++ joined xs slB xs.length).size ≤ 4194304 := by
    have h1 := joined_size xs slB xs.length (Nat.le_refl _)
    have h2 := total_take_le xs xs.length
    have h3 : slB.size = 1 := rfl
    rw [h3] at h1
    rw [ByteArray.size_append, h3]
    omega
  have HJ := Lib.hid (Join.impl_any w v xs slB (by decide) (by omega) h hcap)
  have HE := Lib.hid (show pathJ xs = slB ++ joined xs slB xs.length from rfl)
  generalize joined xs slB xs.length = J at hjs HJ HE
  rw [ByteArray.size_append] at hjs
  clear h hcap hn
  go_enter Try.func13, Try.ntmps13
  go_wp2_with fail
  refine (HJ.out).mono ?_
  rintro e w1 ⟨rfl, hb⟩
  go_wp2
  go_ret
  exact ⟨ret_str (by rw [HE.out]; rfl), hb⟩
end Go.Proofs.Ythppbcnejapbiaa.PaJ
