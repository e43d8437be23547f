/- Contracts and plain facts that a law of this seat leans on. Conditions: as each theorem types them. -/
import Derived.Test.YthppbcnejapbiaaGreatDoorStrsTwo
import Derived.Test.YthppbcnejapbiaaGreatDoorShelfR
import Derived.SliceStrings
import Derived.Lib.Join
namespace Go.Proofs.YthppbcnejapbiaaGreatDoor.Join
open Go.ChangeShapes Go.WideShapes Go.ChangeAt Go.RowKit
open Go.ChangeMaps (open_string shut_string)
open Strs (Holds holds_of_own holds_below eq_any own_below total total_take_succ total_take_le budgetOf sz_any to_any)
set_option linter.unusedVariables false

theorem ret_str {a b : ByteArray} (h : a = b) : Ending.returned (.string a) = .returned (.string b) := by rw [h]
/-- The first k elements, joined. -/
def joined (xs : List ByteArray) (b : ByteArray) : Nat → ByteArray
  | 0 => ⟨#[]⟩
  | k + 1 => (if k = 0 then joined xs b k else joined xs b k ++ b) ++ xs.getD k ⟨#[]⟩
theorem joined_size (xs : List ByteArray) (b : ByteArray) : ∀ k, k ≤ xs.length → (joined xs b k).size ≤ k * b.size + total (xs.take k) := by
  intro k
  induction k with
  | zero => intro _; exact Nat.zero_le _
  | succ k ih =>
    intro hk
    have h1 := ih (by omega)
    rw [total_take_succ xs k (by omega), joined, ByteArray.size_append, Nat.succ_mul]
    by_cases h0 : k = 0
    · rw [if_pos h0]; omega
    · rw [if_neg h0, ByteArray.size_append]; omega
theorem joined_data (xs : List ByteArray) (b : ByteArray) : ∀ k, k ≤ xs.length → (joined xs b k).data.toList = Lib.join ((xs.take k).map (·.data.toList)) b.data.toList := by
  intro k
  induction k with
  | zero => intro _; simp [joined, Lib.join, List.intercalate]
  | succ k ih =>
    intro hk
    have h1 := ih (by omega)
    have hlt : k < xs.length := by omega
    rw [joined, ByteArray.data_append, Array.toList_append, List.take_succ_eq_append_getElem hlt, List.map_append]
    have e : (xs.getD k ⟨#[]⟩) = xs[k] := by simp [List.getD, List.getElem?_eq_getElem hlt]
    rw [e]
    by_cases h0 : k = 0
    · subst h0
      simp [joined, Lib.join, List.intercalate]
    · rw [if_neg h0, ByteArray.data_append, Array.toList_append, h1]
      obtain ⟨x, r, hxr⟩ : ∃ x r, (xs.take k).map (·.data.toList) = x :: r := by
        cases h : (xs.take k).map (·.data.toList) with
        | nil =>
          have h2 : ((xs.take k).map (·.data.toList)).length = 0 := by rw [h]; rfl
          rw [List.length_map, List.length_take] at h2
          omega
        | cons x r => exact ⟨x, r, rfl⟩
      rw [hxr]
      simp only [List.cons_append, List.map_cons, List.map_nil, Lib.join_cons]
      simp [Lib.joinTail]
theorem joined_all (xs : List ByteArray) (b : ByteArray) : (⟨(Lib.join (xs.map (·.data.toList)) b.data.toList).toArray⟩ : ByteArray) = joined xs b xs.length := by
  apply ByteArray.ext
  apply Array.toList_inj.1
  rw [joined_data xs b xs.length (Nat.le_refl _), List.take_of_length_le (Nat.le_refl _)]

set_option maxRecDepth 100000 in
set_option maxHeartbeats 400000 in
theorem impl_any (w : World) (v : Value) (xs : List ByteArray) (b : ByteArray) (hb : b.size ≤ 1048576) (hn : xs.length + total xs ≤ 2097152) (h : Holds w v xs) (hcap : ∀ a n c, v = .slice a n c → n ≤ c) :
    Calls Tryz.prog 129 #[v, .string b] w fun e w' => e = .returned (.string (joined xs b xs.length)) ∧ Below w.heap.size w w' := by
  obtain ⟨a, cap, rfl, hc⟩ := h
  have hcc := hcap _ _ _ rfl
  clear hcap
  by_cases h0 : xs = []
  · subst h0
    simp only [List.length_nil] at hcc ⊢
    clear hc hn
    go_enter Tryz.func129, Tryz.ntmps129
    go_wp2_with (first | (go_at_call 165; go_in) | (go_at_call 206; refine (Tryz.strings_Join_none _ _ _ _).mono ?_; rintro e w1 ⟨rfl, rfl⟩))
    go_ret
    exact ⟨rfl, Below.refl _ _⟩
  · obtain ⟨b1, o1, rfl, hb1, hcell⟩ := hc h0
    have hall : ∀ (j : Nat) x, xs[j]? = some x → w.cell? ⟨b1, o1 + j, none⟩ = some (.string x) := by
      intro j x hx
      obtain ⟨hj, e⟩ := List.getElem?_eq_some_iff.1 hx
      rw [hcell j hj]
      simp [List.getD, hx]
    have hlen : (Lib.join (xs.map (·.data.toList)) b.data.toList).length ≤ 140737488355328 := by
      have h1 := joined_size xs b xs.length (Nat.le_refl _)
      have h2 := joined_data xs b xs.length (Nat.le_refl _)
      rw [List.take_of_length_le (Nat.le_refl _)] at h1 h2
      rw [← h2]
      have h4 : xs.length * b.size ≤ 2097152 * 1048576 := Nat.mul_le_mul (by omega) hb
      have h5 : (joined xs b xs.length).data.toList.length = (joined xs b xs.length).size := by simp
      omega
    have HA := Lib.hid hall
    have HLEN := Lib.hid hlen
    have HE := Lib.hid (joined_all xs b)
    have hn2 : xs.length ≤ 140737488355328 := by omega
    have HN := Lib.hid hn2
    clear hall hlen hc hcell h0 hn hn2
    go_enter Tryz.func129, Tryz.ntmps129
    go_wp2_with (first | (go_at_call 165; go_in) | (go_at_call 206; go_must (refine (Tryz.strings_Join b1 o1 cap xs b _ HA.out hb1 HN.out hcc HLEN.out).mono ?_); rintro e w1 ⟨rfl, hbel⟩))
    go_ret
    exact ⟨ret_str HE.out, hbel⟩

theorem own_of_heap {w w' : World} {base : Nat} {e : TypeId} {size : Nat} {v : Value} {n : Nat} {xs : List Value} (h : w.ownsRow base e size v n xs) (hh : w'.heap = w.heap) : w'.ownsRow base e size v n xs := by
  unfold World.ownsRow at *
  rw [hh]; exact h
theorem below_drewN {B : Nat} {a w : World} (h : Below B a w) (n : Nat) : Below B a (w.drewN n) := ⟨h.os, h.tape, h.output, h.size, h.block⟩

end Go.Proofs.YthppbcnejapbiaaGreatDoor.Join
