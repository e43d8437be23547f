/- Contracts and plain facts that a law of this seat leans on. Conditions: as each theorem types them. -/
import Derived.Test.YtafmpllkehbmeaaGreatDoorCr
import Derived.Test.YtafmpllkehbmeaaGreatDoorPm
namespace Go.Proofs.YtafmpllkehbmeaaGreatDoor.CrI
open Go.ChangeShapes Go.WideShapes Go.ChangeAt Go.RowKit
open Bx CredV
open Ni (HoldsN)
open Dk (ret_bool)
open Strs (ret_int)
set_option linter.unusedVariables false

/-- A number is among these. -/
def hasB (l : List Int) (x : Int) : Bool := l.any fun y => decide (y = x)
def NoneTo (l : List Int) (x : Int) (k : Nat) : Prop := ∀ i, i < k → l.getD i 0 ≠ x
theorem none_zero (l : List Int) (x : Int) : NoneTo l x 0 := fun i h => absurd h (Nat.not_lt_zero _)
theorem none_succ {l : List Int} {x : Int} {k : Nat} (h : NoneTo l x k) (hk : l.getD k 0 ≠ x) : NoneTo l x (k + 1) := fun i hi => by
  rcases Nat.lt_or_ge i k with hji | hji
  · exact h i hji
  · rw [show i = k from by omega]; exact hk
theorem getD_get {l : List Int} {i : Nat} (h : i < l.length) : l.getD i 0 = l[i] := by
  rw [List.getD_eq_getElem?_getD, List.getElem?_eq_getElem h]; rfl
/-- The first place of a number, or -1. -/
def idxV (l : List Int) (x : Int) : Int := if hasB l x = true then ((l.findIdx fun y => decide (y = x) : Nat) : Int) else -1
theorem has_at {l : List Int} {x : Int} {k : Nat} (hk : k < l.length) (h : NoneTo l x k) (he : l.getD k 0 = x) : hasB l x = true ∧ idxV l x = (k : Int) := by
  have h1 : hasB l x = true := by
    rw [hasB, List.any_eq_true]
    exact ⟨l[k], List.getElem_mem hk, by rw [← getD_get hk, he]; simp⟩
  refine ⟨h1, ?_⟩
  rw [idxV, if_pos h1]
  congr 1
  rw [List.findIdx_eq hk]
  refine ⟨by rw [← getD_get hk, he]; simp, fun j hj => ?_⟩
  have := h j hj
  rw [getD_get (by omega)] at this
  simpa using this
theorem has_none {l : List Int} {x : Int} (h : NoneTo l x l.length) : hasB l x = false ∧ idxV l x = -1 := by
  have h1 : hasB l x = false := by
    rw [hasB, List.any_eq_false]
    intro y hy
    obtain ⟨i, hi, rfl⟩ := List.mem_iff_getElem.1 hy
    have := h i hi
    rw [getD_get hi] at this
    simpa using this
  exact ⟨h1, by rw [idxV, if_neg (by rw [h1]; simp)]⟩
theorem idx_sign (l : List Int) (x : Int) : decide (0 ≤ idxV l x) = hasB l x := by
  unfold idxV
  cases h : hasB l x
  · rfl
  · rw [if_pos rfl]; exact decide_eq_true (by omega)


set_option maxRecDepth 100000 in
set_option maxHeartbeats 800000 in
theorem has_spec (w : World) (gv : Value) (l : List Int) (x : Int) (hn : l.length ≤ 1073741824) (h : HoldsN w gv l) :
    Calls Tryz.prog 209 #[gv, .int .i64 x] w fun e w' => e = .returned (.bool (hasB l x)) ∧ w = w' := by
  obtain ⟨a, c, rfl, hc⟩ := h
  have HC := Lib.hid hc
  clear hc
  obtain ⟨N, hN⟩ : ∃ N, N = l.length := ⟨_, rfl⟩
  rw [← hN] at hn ⊢
  have HN := Lib.hid hN
  clear hN
  go_enter Tryz.func209, Tryz.ntmps209
  go_wp2_with fail
  go_loop [9] (fun iv => ∃ k : Nat, k ≤ N ∧ iv = .int .i64 k ∧ NoneTo l x k) (fun iv => N - (intOf iv).toNat)
  case atStart => exact ⟨0, Nat.zero_le _, rfl, none_zero l x⟩
  case round =>
    obtain ⟨k, hk, rfl, hno⟩ := hrel
    have HNO := Lib.hid hno
    clear hno
    by_cases hlt : k < N
    · have hlx : k < l.length := by rw [← HN.out]; exact hlt
      obtain ⟨b, o, rfl, hb, g0⟩ := HC.out k hlx
      by_cases he : l.getD k 0 = x
      · have HV := Lib.hid (has_at hlx HNO.out he)
        rw [he] at g0
        clear he
        go_wp2
        go_ret
        exact ⟨ret_bool HV.out.1.symm, rfl⟩
      · have HS := Lib.hid (none_succ HNO.out he)
        have h1 : (l.getD k 0 == x) = false := beq_eq_false_iff_ne.2 he
        have h2 : (x == l.getD k 0) = false := beq_eq_false_iff_ne.2 (Ne.symm he)
        clear he
        generalize l.getD k 0 = y at g0 h1 h2
        go_wp2
        go_round
        case rel => exact ⟨k + 1, by omega, by go_num, HS.out⟩
        case measure => simp [intOf]; omega
    · obtain rfl : k = N := by omega
      have HV := Lib.hid (has_none (l := l) (by rw [← HN.out]; exact HNO.out))
      go_wp2
      go_ret
      exact ⟨ret_bool HV.out.1.symm, rfl⟩


set_option maxRecDepth 100000 in
set_option maxHeartbeats 800000 in
theorem index_any (w : World) (gv : Value) (l : List Int) (x : Int) (hn : l.length ≤ 1073741824) (h : HoldsN w gv l) :
    Calls Tryz.prog 249 #[gv, .int .i64 x] w fun e w' => e = .returned (.int .i64 (idxV l x)) ∧ w = w' := by
  obtain ⟨a, c, rfl, hc⟩ := h
  have HC := Lib.hid hc
  clear hc
  obtain ⟨N, hN⟩ : ∃ N, N = l.length := ⟨_, rfl⟩
  rw [← hN] at hn ⊢
  have HN := Lib.hid hN
  clear hN
  go_enter Tryz.func249, Tryz.ntmps249
  go_wp2_with fail
  go_loop [8] (fun iv => ∃ k : Nat, k ≤ N ∧ iv = .int .i64 k ∧ NoneTo l x k) (fun iv => N - (intOf iv).toNat)
  case atStart => exact ⟨0, Nat.zero_le _, rfl, none_zero l x⟩
  case round =>
    obtain ⟨k, hk, rfl, hno⟩ := hrel
    have HNO := Lib.hid hno
    clear hno
    by_cases hlt : k < N
    · have hlx : k < l.length := by rw [← HN.out]; exact hlt
      obtain ⟨b, o, rfl, hb, g0⟩ := HC.out k hlx
      by_cases he : l.getD k 0 = x
      · have HV := Lib.hid (has_at hlx HNO.out he)
        rw [he] at g0
        clear he
        go_wp2
        go_ret
        exact ⟨ret_int HV.out.2.symm, rfl⟩
      · have HS := Lib.hid (none_succ HNO.out he)
        have h1 : (l.getD k 0 == x) = false := beq_eq_false_iff_ne.2 he
        have h2 : (x == l.getD k 0) = false := beq_eq_false_iff_ne.2 (Ne.symm he)
        clear he
        generalize l.getD k 0 = y at g0 h1 h2
        go_wp2
        go_round
        case rel => exact ⟨k + 1, by omega, by go_num, HS.out⟩
        case measure => simp [intOf]; omega
    · obtain rfl : k = N := by omega
      have HV := Lib.hid (has_none (l := l) (by rw [← HN.out]; exact HNO.out))
      go_wp2
      go_ret
      exact ⟨ret_int HV.out.2.symm, rfl⟩


set_option maxRecDepth 100000 in
theorem contains_any (w : World) (gv : Value) (l : List Int) (x : Int) (hn : l.length ≤ 1073741824) (h : HoldsN w gv l) :
    Calls Tryz.prog 237 #[gv, .int .i64 x] w fun e w' => e = .returned (.bool (hasB l x)) ∧ w = w' := by
  have HI := Lib.hid (index_any w gv l x hn h)
  have HV := Lib.hid (idx_sign l x)
  obtain ⟨a, c, rfl, _⟩ := h
  generalize idxV l x = y at HI HV
  go_enter Tryz.func237, Tryz.ntmps237
  go_wp2_with fail
  refine HI.out.mono ?_
  rintro e wq ⟨rfl, rfl⟩
  go_wp2
  go_ret
  exact ⟨ret_bool HV.out, rfl⟩


end Go.Proofs.YtafmpllkehbmeaaGreatDoor.CrI
