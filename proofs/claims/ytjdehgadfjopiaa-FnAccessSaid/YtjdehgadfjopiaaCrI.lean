/- Contracts: the program's IsCred and InGroup and the model's answer of every credentials. Condition: the number of groups. -/
import Derived.Test.YtjdehgadfjopiaaCr
import Derived.Test.YtjdehgadfjopiaaPm
namespace Go.Proofs.Ytjdehgadfjopiaa.CrI
open Go.ChangeShapes Go.WideShapes Go.ChangeAt Go.RowKit
open Bx CredV
open Ni (HoldsN)
open Dk (ret_bool)
open Strs (ret_int)
set_option linter.unusedVariables false

theorem no_cred {u g : Int} {l : List Int} {k : Nat} (hk : k < l.length) (h : ascB l (k + 1) = false) : credB (u, g, l) = false := by
  cases h2 : ascB l l.length
  · simp [credB, h2]
  · have := ascB_mono h2 (show k + 1 ≤ l.length from hk)
    rw [h] at this; cases this
/-- A number is among these. -/
def hasB (l : List Int) (x : Int) : Bool := l.any fun y => decide (y = x)
def NoneTo (l : List Int) (x : Int) (k : Nat) : Prop := ∀ i, i < k → l.getD i 0 ≠ x
theorem none_zero (l : List Int) (x : Int) : NoneTo l x 0 := fun i h => absurd h (Nat.not_lt_zero _)
theorem none_succ {l : List Int} {x : Int} {k : Nat} (h : NoneTo l x k) (hk : l.getD k 0 ≠ x) : NoneTo l x (k + 1) := fun i hi => by
  rcases Nat.lt_or_ge i k with hji | hji
  · exact h i hji
  · rw [show i = k from by omega]; exact hk
theorem getD_get {l : List Int} {i : Nat} (h : i < l.length) : l.getD i 0 = l[i] := by
  rw [List.getD_eq_getElem?_getD, List.getElem?_eq_getElem h]; rfl
/-- The first place of a number, or -1. -/
def idxV (l : List Int) (x : Int) : Int := if hasB l x = true then ((l.findIdx fun y => decide (y = x) : Nat) : Int) else -1
theorem has_at {l : List Int} {x : Int} {k : Nat} (hk : k < l.length) (h : NoneTo l x k) (he : l.getD k 0 = x) : hasB l x = true ∧ idxV l x = (k : Int) := by
  have h1 : hasB l x = true := by
    rw [hasB, List.any_eq_true]
    exact ⟨l[k], List.getElem_mem hk, by rw [← getD_get hk, he]; simp⟩
  refine ⟨h1, ?_⟩
  rw [idxV, if_pos h1]
  congr 1
  rw [List.findIdx_eq hk]
  refine ⟨by rw [← getD_get hk, he]; simp, fun j hj => ?_⟩
  have := h j hj
  rw [getD_get (by omega)] at this
  simpa using this
theorem has_none {l : List Int} {x : Int} (h : NoneTo l x l.length) : hasB l x = false ∧ idxV l x = -1 := by
  have h1 : hasB l x = false := by
    rw [hasB, List.any_eq_false]
    intro y hy
    obtain ⟨i, hi, rfl⟩ := List.mem_iff_getElem.1 hy
    have := h i hi
    rw [getD_get hi] at this
    simpa using this
  exact ⟨h1, by rw [idxV, if_neg (by rw [h1]; simp)]⟩
theorem idx_sign (l : List Int) (x : Int) : decide (0 ≤ idxV l x) = hasB l x := by
  unfold idxV
  cases h : hasB l x
  · rfl
  · rw [if_pos rfl]; exact decide_eq_true (by omega)


set_option maxRecDepth 100000 in
set_option maxHeartbeats 1600000 in
theorem cred_impl (w : World) (u g : Int) (gv : Value) (l : List Int) (hn : l.length ≤ 1073741824) (h : HoldsN w gv l) :
    Calls Try.prog 20 #[.agg #[.int .i64 u, .int .i64 g, gv]] w fun e w' => e = .returned (.bool (credB (u, g, l))) ∧ Below w.heap.size w w' := by
  obtain ⟨a, c, rfl, hc⟩ := h
  have HC := Lib.hid hc
  clear hc
  obtain ⟨N, hN⟩ : ∃ N, N = l.length := ⟨_, rfl⟩
  rw [← hN] at hn ⊢
  have HN := Lib.hid hN
  clear hN
  have HB := Lib.hid ((Below.refl w.heap.size w).alloc (Nat.le_refl _) (.cells #[.int .i64 u, .int .i64 g, .slice a N c] 25))
  go_enter Try.func20, Try.ntmps20
  go_wp2_with fail
  have hx := new w #[.int .i64 u, .int .i64 g, .slice a N c] 25
  generalize w.alloc (.cells #[.int .i64 u, .int .i64 g, .slice a N c] 25) = w0 at HB hx ⊢
  obtain ⟨b0, b1, b2⟩ := Bk.three hx
  clear hx
  have HU := Lib.hid (fun n => Pm.user_impl n w0)
  go_loop [8] (fun iv => ∃ k : Nat, k ≤ N ∧ iv = .int .i64 k ∧ ascB l k = true) (fun iv => N - (intOf iv).toNat)
  case atStart => exact ⟨0, Nat.zero_le _, rfl, rfl⟩
  case round =>
    obtain ⟨k, hk, rfl, hasc⟩ := hrel
    have HASC := Lib.hid hasc
    clear hasc
    by_cases hlt : k < N
    · have hlx : k < l.length := by rw [← HN.out]; exact hlt
      obtain ⟨b, o, rfl, hb, g0⟩ := HC.out k hlx
      rw [← HB.out.cell (p := ⟨b, _, none⟩) hb] at g0
      have HS := Lib.hid (ascB_succ l k)
      have HNO := Lib.hid (fun h : ascB l (k + 1) = false => no_cred (u := u) (g := g) hlx h)
      cases hu : userB (l.getD k 0)
      · have HF := Lib.hid (HNO.out (by rw [HS.out, hu]; simp))
        have HUU := Lib.hid (HU.out (l.getD k 0))
        rw [hu] at HUU
        clear hu
        generalize l.getD k 0 = y at g0 HUU
        go_wp2_with fail
        refine HUU.out.mono ?_
        rintro e wq ⟨rfl, rfl⟩
        go_wp2
        go_ret
        exact ⟨ret_bool HF.out.symm, HB.out⟩
      · by_cases hk0 : k = 0
        · subst hk0
          have HY := Lib.hid (show ascB l (0 + 1) = true by rw [HS.out, hu]; simp [ascB])
          have HUU := Lib.hid (HU.out (l.getD 0 0))
          rw [hu] at HUU
          clear hu
          simp only [Nat.add_zero] at g0
          generalize l.getD 0 0 = y at g0 HUU
          go_wp2_with fail
          refine HUU.out.mono ?_
          rintro e wq ⟨rfl, rfl⟩
          go_wp2
          go_round
          case rel => exact ⟨1, by omega, by go_num, HY.out⟩
          case measure => simp [intOf]; omega
        · obtain ⟨p, rfl⟩ : ∃ p, k = p + 1 := ⟨k - 1, by omega⟩
          obtain ⟨b', o', heq, _, f0⟩ := HC.out p (by omega)
          obtain ⟨e1, e2⟩ : b = b' ∧ o = o' := by simpa using heq
          subst e1
          subst e2
          rw [← HB.out.cell (p := ⟨b, _, none⟩) hb] at f0
          have HUU := Lib.hid (HU.out (l.getD (p + 1) 0))
          rw [hu] at HUU
          by_cases hlt2 : l.getD p 0 < l.getD (p + 1) 0
          · have HY := Lib.hid (show ascB l (p + 1 + 1) = true by rw [HS.out, hu, HASC.out, Nat.add_sub_cancel, decide_eq_true hlt2]; simp)
            have hd : decide (l.getD (p + 1) 0 ≤ l.getD p 0) = false := decide_eq_false (by omega)
            clear hu heq
            generalize l.getD (p + 1) 0 = y at g0 HUU hlt2 hd
            generalize l.getD p 0 = x at f0 hlt2 hd
            go_wp2_with fail
            refine HUU.out.mono ?_
            rintro e wq ⟨rfl, rfl⟩
            go_wp2
            go_round
            case rel => exact ⟨p + 1 + 1, by omega, by go_num, HY.out⟩
            case measure => simp [intOf]; omega
          · have HF := Lib.hid (HNO.out (by rw [HS.out, Nat.add_sub_cancel, decide_eq_false hlt2]; simp))
            have hd : l.getD (p + 1) 0 ≤ l.getD p 0 := by omega
            clear hu heq
            generalize l.getD (p + 1) 0 = y at g0 HUU hlt2 hd
            generalize l.getD p 0 = x at f0 hlt2 hd
            go_wp2_with fail
            refine HUU.out.mono ?_
            rintro e wq ⟨rfl, rfl⟩
            go_wp2
            go_ret
            exact ⟨ret_bool HF.out.symm, HB.out⟩
    · obtain rfl : k = N := by omega
      have HV := Lib.hid (show credB (u, g, l) = (userB u && userB g) by rw [credB]; dsimp only; rw [← HN.out, HASC.out, Bool.true_and])
      have HU1 := Lib.hid (HU.out u)
      have HU2 := Lib.hid (HU.out g)
      cases h1 : userB u
      · rw [h1] at HU1
        rw [h1, Bool.false_and] at HV
        clear h1
        go_wp2_with fail
        refine HU1.out.mono ?_
        rintro e wq ⟨rfl, rfl⟩
        go_wp2
        go_ret
        exact ⟨ret_bool HV.out.symm, HB.out⟩
      · rw [h1] at HU1
        rw [h1, Bool.true_and] at HV
        clear h1
        go_wp2_with fail
        refine HU1.out.mono ?_
        rintro e wq ⟨rfl, rfl⟩
        go_wp2_with fail
        refine HU2.out.mono ?_
        rintro e wq ⟨rfl, rfl⟩
        go_wp2
        go_ret
        exact ⟨ret_bool HV.out.symm, HB.out⟩


set_option maxRecDepth 100000 in
set_option maxHeartbeats 1600000 in
theorem cred_spec (w : World) (u g : Int) (gv : Value) (l : List Int) (hn : l.length ≤ 1073741824) (h : HoldsN w gv l) :
    Calls Try.prog 26 #[.agg #[.int .i64 u, .int .i64 g, gv]] w fun e w' => e = .returned (.bool (credB (u, g, l))) ∧ Below w.heap.size w w' := by
  obtain ⟨a, c, rfl, hc⟩ := h
  have HC := Lib.hid hc
  clear hc
  obtain ⟨N, hN⟩ : ∃ N, N = l.length := ⟨_, rfl⟩
  rw [← hN] at hn ⊢
  have HN := Lib.hid hN
  clear hN
  have HB := Lib.hid ((Below.refl w.heap.size w).alloc (Nat.le_refl _) (.cells #[.int .i64 u, .int .i64 g, .slice a N c] 25))
  go_enter Try.func26, Try.ntmps26
  go_wp2_with fail
  have hx := new w #[.int .i64 u, .int .i64 g, .slice a N c] 25
  generalize w.alloc (.cells #[.int .i64 u, .int .i64 g, .slice a N c] 25) = w0 at HB hx ⊢
  obtain ⟨b0, b1, b2⟩ := Bk.three hx
  clear hx
  have HU := Lib.hid (fun n => Pm.user_spec n w0)
  go_loop [8] (fun iv => ∃ k : Nat, k ≤ N ∧ iv = .int .i64 k ∧ ascB l k = true) (fun iv => N - (intOf iv).toNat)
  case atStart => exact ⟨0, Nat.zero_le _, rfl, rfl⟩
  case round =>
    obtain ⟨k, hk, rfl, hasc⟩ := hrel
    have HASC := Lib.hid hasc
    clear hasc
    by_cases hlt : k < N
    · have hlx : k < l.length := by rw [← HN.out]; exact hlt
      obtain ⟨b, o, rfl, hb, g0⟩ := HC.out k hlx
      rw [← HB.out.cell (p := ⟨b, _, none⟩) hb] at g0
      have HS := Lib.hid (ascB_succ l k)
      have HNO := Lib.hid (fun h : ascB l (k + 1) = false => no_cred (u := u) (g := g) hlx h)
      cases hu : userB (l.getD k 0)
      · have HF := Lib.hid (HNO.out (by rw [HS.out, hu]; simp))
        have HUU := Lib.hid (HU.out (l.getD k 0))
        rw [hu] at HUU
        clear hu
        generalize l.getD k 0 = y at g0 HUU
        go_wp2_with fail
        refine HUU.out.mono ?_
        rintro e wq ⟨rfl, rfl⟩
        go_wp2
        go_ret
        exact ⟨ret_bool HF.out.symm, HB.out⟩
      · by_cases hk0 : k = 0
        · subst hk0
          have HY := Lib.hid (show ascB l (0 + 1) = true by rw [HS.out, hu]; simp [ascB])
          have HUU := Lib.hid (HU.out (l.getD 0 0))
          rw [hu] at HUU
          clear hu
          simp only [Nat.add_zero] at g0
          generalize l.getD 0 0 = y at g0 HUU
          go_wp2_with fail
          refine HUU.out.mono ?_
          rintro e wq ⟨rfl, rfl⟩
          go_wp2
          go_round
          case rel => exact ⟨1, by omega, by go_num, HY.out⟩
          case measure => simp [intOf]; omega
        · obtain ⟨p, rfl⟩ : ∃ p, k = p + 1 := ⟨k - 1, by omega⟩
          obtain ⟨b', o', heq, _, f0⟩ := HC.out p (by omega)
          obtain ⟨e1, e2⟩ : b = b' ∧ o = o' := by simpa using heq
          subst e1
          subst e2
          rw [← HB.out.cell (p := ⟨b, _, none⟩) hb] at f0
          have HUU := Lib.hid (HU.out (l.getD (p + 1) 0))
          rw [hu] at HUU
          by_cases hlt2 : l.getD p 0 < l.getD (p + 1) 0
          · have HY := Lib.hid (show ascB l (p + 1 + 1) = true by rw [HS.out, hu, HASC.out, Nat.add_sub_cancel, decide_eq_true hlt2]; simp)
            have hd : decide (l.getD (p + 1) 0 ≤ l.getD p 0) = false := decide_eq_false (by omega)
            clear hu heq
            generalize l.getD (p + 1) 0 = y at g0 HUU hlt2 hd
            generalize l.getD p 0 = x at f0 hlt2 hd
            go_wp2_with fail
            refine HUU.out.mono ?_
            rintro e wq ⟨rfl, rfl⟩
            go_wp2
            go_round
            case rel => exact ⟨p + 1 + 1, by omega, by go_num, HY.out⟩
            case measure => simp [intOf]; omega
          · have HF := Lib.hid (HNO.out (by rw [HS.out, Nat.add_sub_cancel, decide_eq_false hlt2]; simp))
            have hd : l.getD (p + 1) 0 ≤ l.getD p 0 := by omega
            clear hu heq
            generalize l.getD (p + 1) 0 = y at g0 HUU hlt2 hd
            generalize l.getD p 0 = x at f0 hlt2 hd
            go_wp2_with fail
            refine HUU.out.mono ?_
            rintro e wq ⟨rfl, rfl⟩
            go_wp2
            go_ret
            exact ⟨ret_bool HF.out.symm, HB.out⟩
    · obtain rfl : k = N := by omega
      have HV := Lib.hid (show credB (u, g, l) = (userB u && userB g) by rw [credB]; dsimp only; rw [← HN.out, HASC.out, Bool.true_and])
      have HU1 := Lib.hid (HU.out u)
      have HU2 := Lib.hid (HU.out g)
      cases h1 : userB u
      · rw [h1] at HU1
        rw [h1, Bool.false_and] at HV
        clear h1
        go_wp2_with fail
        refine HU1.out.mono ?_
        rintro e wq ⟨rfl, rfl⟩
        go_wp2
        go_ret
        exact ⟨ret_bool HV.out.symm, HB.out⟩
      · rw [h1] at HU1
        rw [h1, Bool.true_and] at HV
        clear h1
        go_wp2_with fail
        refine HU1.out.mono ?_
        rintro e wq ⟨rfl, rfl⟩
        go_wp2_with fail
        refine HU2.out.mono ?_
        rintro e wq ⟨rfl, rfl⟩
        go_wp2
        go_ret
        exact ⟨ret_bool HV.out.symm, HB.out⟩


set_option maxRecDepth 100000 in
set_option maxHeartbeats 800000 in
theorem has_spec (w : World) (gv : Value) (l : List Int) (x : Int) (hn : l.length ≤ 1073741824) (h : HoldsN w gv l) :
    Calls Try.prog 56 #[gv, .int .i64 x] w fun e w' => e = .returned (.bool (hasB l x)) ∧ w = w' := by
  obtain ⟨a, c, rfl, hc⟩ := h
  have HC := Lib.hid hc
  clear hc
  obtain ⟨N, hN⟩ : ∃ N, N = l.length := ⟨_, rfl⟩
  rw [← hN] at hn ⊢
  have HN := Lib.hid hN
  clear hN
  go_enter Try.func56, Try.ntmps56
  go_wp2_with fail
  go_loop [9] (fun iv => ∃ k : Nat, k ≤ N ∧ iv = .int .i64 k ∧ NoneTo l x k) (fun iv => N - (intOf iv).toNat)
  case atStart => exact ⟨0, Nat.zero_le _, rfl, none_zero l x⟩
  case round =>
    obtain ⟨k, hk, rfl, hno⟩ := hrel
    have HNO := Lib.hid hno
    clear hno
    by_cases hlt : k < N
    · have hlx : k < l.length := by rw [← HN.out]; exact hlt
      obtain ⟨b, o, rfl, hb, g0⟩ := HC.out k hlx
      by_cases he : l.getD k 0 = x
      · have HV := Lib.hid (has_at hlx HNO.out he)
        rw [he] at g0
        clear he
        go_wp2
        go_ret
        exact ⟨ret_bool HV.out.1.symm, rfl⟩
      · have HS := Lib.hid (none_succ HNO.out he)
        have h1 : (l.getD k 0 == x) = false := beq_eq_false_iff_ne.2 he
        have h2 : (x == l.getD k 0) = false := beq_eq_false_iff_ne.2 (Ne.symm he)
        clear he
        generalize l.getD k 0 = y at g0 h1 h2
        go_wp2
        go_round
        case rel => exact ⟨k + 1, by omega, by go_num, HS.out⟩
        case measure => simp [intOf]; omega
    · obtain rfl : k = N := by omega
      have HV := Lib.hid (has_none (l := l) (by rw [← HN.out]; exact HNO.out))
      go_wp2
      go_ret
      exact ⟨ret_bool HV.out.1.symm, rfl⟩


set_option maxRecDepth 100000 in
set_option maxHeartbeats 800000 in
theorem index_any (w : World) (gv : Value) (l : List Int) (x : Int) (hn : l.length ≤ 1073741824) (h : HoldsN w gv l) :
    Calls Try.prog 73 #[gv, .int .i64 x] w fun e w' => e = .returned (.int .i64 (idxV l x)) ∧ w = w' := by
  obtain ⟨a, c, rfl, hc⟩ := h
  have HC := Lib.hid hc
  clear hc
  obtain ⟨N, hN⟩ : ∃ N, N = l.length := ⟨_, rfl⟩
  rw [← hN] at hn ⊢
  have HN := Lib.hid hN
  clear hN
  go_enter Try.func73, Try.ntmps73
  go_wp2_with fail
  go_loop [8] (fun iv => ∃ k : Nat, k ≤ N ∧ iv = .int .i64 k ∧ NoneTo l x k) (fun iv => N - (intOf iv).toNat)
  case atStart => exact ⟨0, Nat.zero_le _, rfl, none_zero l x⟩
  case round =>
    obtain ⟨k, hk, rfl, hno⟩ := hrel
    have HNO := Lib.hid hno
    clear hno
    by_cases hlt : k < N
    · have hlx : k < l.length := by rw [← HN.out]; exact hlt
      obtain ⟨b, o, rfl, hb, g0⟩ := HC.out k hlx
      by_cases he : l.getD k 0 = x
      · have HV := Lib.hid (has_at hlx HNO.out he)
        rw [he] at g0
        clear he
        go_wp2
        go_ret
        exact ⟨ret_int HV.out.2.symm, rfl⟩
      · have HS := Lib.hid (none_succ HNO.out he)
        have h1 : (l.getD k 0 == x) = false := beq_eq_false_iff_ne.2 he
        have h2 : (x == l.getD k 0) = false := beq_eq_false_iff_ne.2 (Ne.symm he)
        clear he
        generalize l.getD k 0 = y at g0 h1 h2
        go_wp2
        go_round
        case rel => exact ⟨k + 1, by omega, by go_num, HS.out⟩
        case measure => simp [intOf]; omega
    · obtain rfl : k = N := by omega
      have HV := Lib.hid (has_none (l := l) (by rw [← HN.out]; exact HNO.out))
      go_wp2
      go_ret
      exact ⟨ret_int HV.out.2.symm, rfl⟩


set_option maxRecDepth 100000 in
theorem contains_any (w : World) (gv : Value) (l : List Int) (x : Int) (hn : l.length ≤ 1073741824) (h : HoldsN w gv l) :
    Calls Try.prog 51 #[gv, .int .i64 x] w fun e w' => e = .returned (.bool (hasB l x)) ∧ w = w' := by
  have HI := Lib.hid (index_any w gv l x hn h)
  have HV := Lib.hid (idx_sign l x)
  obtain ⟨a, c, rfl, _⟩ := h
  generalize idxV l x = y at HI HV
  go_enter Try.func51, Try.ntmps51
  go_wp2_with fail
  refine HI.out.mono ?_
  rintro e wq ⟨rfl, rfl⟩
  go_wp2
  go_ret
  exact ⟨ret_bool HV.out, rfl⟩


set_option maxRecDepth 100000 in
set_option maxHeartbeats 800000 in
theorem in_impl (w : World) (u g : Int) (gv : Value) (l : List Int) (x : Int) (hn : l.length ≤ 1073741824) (h : HoldsN w gv l) :
    Calls Try.prog 21 #[.agg #[.int .i64 u, .int .i64 g, gv], .int .i64 x] w fun e w' => e = .returned (.bool (inB (u, g, l) x)) ∧ Below w.heap.size w w' := by
  have HB := Lib.hid ((Below.refl w.heap.size w).alloc (Nat.le_refl _) (.cells #[.int .i64 u, .int .i64 g, gv] 25))
  have HH := Lib.hid (contains_any _ gv l x hn (Ni.holds_below h HB.out))
  obtain ⟨a, c, rfl, _⟩ := h
  by_cases he : g = x
  · have HV := Lib.hid (show inB (u, g, l) x = true by simp [inB, he])
    subst he
    go_enter Try.func21, Try.ntmps21
    go_wp2
    go_ret
    exact ⟨ret_bool HV.out.symm, HB.out⟩
  · have HV := Lib.hid (show inB (u, g, l) x = hasB l x by simp [inB, he, hasB])
    have h1 : (g == x) = false := beq_eq_false_iff_ne.2 he
    have h2 : (x == g) = false := beq_eq_false_iff_ne.2 (Ne.symm he)
    clear he
    generalize hasB l x = t at HV HH
    go_enter Try.func21, Try.ntmps21
    go_wp2_with fail
    refine HH.out.mono ?_
    rintro e wq ⟨rfl, rfl⟩
    go_wp2
    go_ret
    exact ⟨ret_bool HV.out.symm, HB.out⟩


set_option maxRecDepth 100000 in
set_option maxHeartbeats 800000 in
theorem in_spec (w : World) (u g : Int) (gv : Value) (l : List Int) (x : Int) (hn : l.length ≤ 1073741824) (h : HoldsN w gv l) :
    Calls Try.prog 29 #[.agg #[.int .i64 u, .int .i64 g, gv], .int .i64 x] w fun e w' => e = .returned (.bool (inB (u, g, l) x)) ∧ Below w.heap.size w w' := by
  have HB := Lib.hid ((Below.refl w.heap.size w).alloc (Nat.le_refl _) (.cells #[.int .i64 u, .int .i64 g, gv] 25))
  have HH := Lib.hid (has_spec _ gv l x hn (Ni.holds_below h HB.out))
  obtain ⟨a, c, rfl, _⟩ := h
  by_cases he : g = x
  · have HV := Lib.hid (show inB (u, g, l) x = true by simp [inB, he])
    subst he
    go_enter Try.func29, Try.ntmps29
    go_wp2
    go_ret
    exact ⟨ret_bool HV.out.symm, HB.out⟩
  · have HV := Lib.hid (show inB (u, g, l) x = hasB l x by simp [inB, he, hasB])
    have h1 : (g == x) = false := beq_eq_false_iff_ne.2 he
    have h2 : (x == g) = false := beq_eq_false_iff_ne.2 (Ne.symm he)
    clear he
    generalize hasB l x = t at HV HH
    go_enter Try.func29, Try.ntmps29
    go_wp2_with fail
    refine HH.out.mono ?_
    rintro e wq ⟨rfl, rfl⟩
    go_wp2
    go_ret
    exact ⟨ret_bool HV.out.symm, HB.out⟩

end Go.Proofs.Ytjdehgadfjopiaa.CrI
