/- Contracts and plain facts that a law of this seat leans on. Conditions: as each theorem types them. -/
import Derived.Test.YtmljjdglmlnbaaaApp
import Derived.Deep.RegionHeld3
import Derived.Lib.SlicesS
import Derived.Laws.StructEq
namespace Go.Proofs.Ytmljjdglmlnbaaa.Same
open Go.ChangeShapes Go.WideShapes Go.ChangeAt Go.RowKit
open Wr (Wt wcells d0)
open Dk (D Holds AtS AtW atS atW ret_bool)
set_option linter.unusedVariables false

theorem ext_getD {α : Type} {d : α} {xs ys : List α} (hl : xs.length = ys.length) (h : ∀ j, j < xs.length → xs.getD j d = ys.getD j d) : xs = ys := by
  refine List.ext_getElem hl fun i h1 h2 => ?_
  have := h i h1
  simpa [List.getD, List.getElem?_eq_getElem h1, List.getElem?_eq_getElem h2] using this
theorem below_draws {w : World} (m : Nat) : Below w.heap.size w (w.drewN m) := Joins.below_draws _ w m

set_option maxRecDepth 100000 in
set_option maxHeartbeats 400000 in
theorem equalS_any (w : World) (va vb : Value) (xs ys : List ByteArray) (h1 : xs.length ≤ 1073741824) (h2 : ys.length ≤ 1073741824) (ha : Strs.Holds w va xs) (hb : Strs.Holds w vb ys) :
    Calls Try.prog 24 #[va, vb] w fun e w' => e = .returned (.bool (decide (xs = ys))) ∧ Below w.heap.size w w' := by
  obtain ⟨a, ca, rfl, hA⟩ := atS ha
  obtain ⟨b, cb, rfl, hB⟩ := atS hb
  have HA := Lib.hid hA
  have HB := Lib.hid hB
  clear hA hB ha hb
  by_cases hl : xs.length = ys.length
  · obtain ⟨L, hL⟩ : ∃ L, L = xs.length := ⟨_, rfl⟩
    rw [← hl]
    rw [← hl] at h2
    rw [← hL] at h1 ⊢
    have HL := Lib.hid hL
    have HE := Lib.hid hl
    clear hL hl h2
    go_enter Try.func24, Try.ntmps24
    go_wp2
    go_loopw [13] (fun i wr => ∃ k m : Nat, k ≤ L ∧ i = .int .i64 k ∧ wr = w.drewN m ∧ ∀ j, j < k → xs.getD j ⟨#[]⟩ = ys.getD j ⟨#[]⟩) (fun i _ => L - (intOf i).toNat)
    case atStart => exact ⟨0, 0, Nat.zero_le _, rfl, rfl, fun j hj => absurd hj (Nat.not_lt_zero _)⟩
    case round =>
      obtain ⟨k, m, hk, rfl, rfl, heq⟩ := hrel
      have HQ := Lib.hid heq
      clear heq
      by_cases hlt : k < L
      · obtain ⟨b1, o1, rfl, _, g1⟩ := HA.out k (by rw [← HL.out]; exact hlt)
        obtain ⟨b2, o2, rfl, _, g2⟩ := HB.out k (by rw [← HE.out, ← HL.out]; exact hlt)
        by_cases hxy : xs.getD k ⟨#[]⟩ = ys.getD k ⟨#[]⟩
        · have HN := Lib.hid (show ∀ j, j < k + 1 → xs.getD j ⟨#[]⟩ = ys.getD j ⟨#[]⟩ from fun j hj => (by
            rcases Nat.lt_or_ge j k with hjk | hjk
            · exact HQ.out j hjk
            · rw [show j = k from by omega]; exact hxy))
          rw [← hxy] at g2
          clear hxy
          generalize xs.getD k ⟨#[]⟩ = x at g1 g2
          go_wp2
          go_quiet (fail)
          go_wp2
          go_roundw
          case rel => exact ⟨k + 1, _, by omega, by go_num, by first | rfl | exact World.drewN_drewN .., HN.out⟩
          case measure => simp [intOf]; omega
        · have HN := Lib.hid (show decide (xs = ys) = false from decide_eq_false (fun h => hxy (by rw [h])))
          generalize xs.getD k ⟨#[]⟩ = x at g1 hxy
          generalize ys.getD k ⟨#[]⟩ = y at g2 hxy
          have hbq : (x.toList == y.toList) = false := (Lib.bytes_beq_false_iff x y).2 hxy
          go_wp2
          go_quiet (fail)
          go_wp2
          go_ret
          exact ⟨ret_bool HN.out.symm, by first | exact below_draws _ | (rw [World.drewN_drewN]; exact below_draws _)⟩
      · have HN := Lib.hid (show decide (xs = ys) = true from decide_eq_true (ext_getD HE.out (fun j hj => HQ.out j (by rw [← HL.out] at hj; omega))))
        go_wp2
        go_ret
        exact ⟨ret_bool HN.out.symm, below_draws _⟩
  · have hd : decide (xs = ys) = false := decide_eq_false (fun h => hl (by rw [h]))
    rw [hd]
    generalize xs.length = L at *
    generalize ys.length = M at *
    go_enter Try.func24, Try.ntmps24
    go_wp2
    go_ret
    exact ⟨rfl, Below.refl _ _⟩
set_option maxRecDepth 100000 in
set_option maxHeartbeats 400000 in
theorem texts_any (w : World) (va vb : Value) (xs ys : List ByteArray) (h1 : xs.length ≤ 1073741824) (h2 : ys.length ≤ 1073741824) (ha : Strs.Holds w va xs) (hb : Strs.Holds w vb ys) :
    Calls Try.prog 16 #[va, vb] w fun e w' => e = .returned (.bool (decide (xs = ys))) ∧ Below w.heap.size w w' := by
  obtain ⟨a, ca, rfl, hA⟩ := atS ha
  obtain ⟨b, cb, rfl, hB⟩ := atS hb
  have HA := Lib.hid hA
  have HB := Lib.hid hB
  clear hA hB ha hb
  by_cases hl : xs.length = ys.length
  · obtain ⟨L, hL⟩ : ∃ L, L = xs.length := ⟨_, rfl⟩
    rw [← hl]
    rw [← hl] at h2
    rw [← hL] at h1 ⊢
    have HL := Lib.hid hL
    have HE := Lib.hid hl
    clear hL hl h2
    go_enter Try.func16, Try.ntmps16
    go_wp2
    go_loopw [14] (fun i wr => ∃ k m : Nat, k ≤ L ∧ i = .int .i64 k ∧ wr = w.drewN m ∧ ∀ j, j < k → xs.getD j ⟨#[]⟩ = ys.getD j ⟨#[]⟩) (fun i _ => L - (intOf i).toNat)
    case atStart => exact ⟨0, 0, Nat.zero_le _, rfl, rfl, fun j hj => absurd hj (Nat.not_lt_zero _)⟩
    case round =>
      obtain ⟨k, m, hk, rfl, rfl, heq⟩ := hrel
      have HQ := Lib.hid heq
      clear heq
      by_cases hlt : k < L
      · obtain ⟨b1, o1, rfl, _, g1⟩ := HA.out k (by rw [← HL.out]; exact hlt)
        obtain ⟨b2, o2, rfl, _, g2⟩ := HB.out k (by rw [← HE.out, ← HL.out]; exact hlt)
        by_cases hxy : xs.getD k ⟨#[]⟩ = ys.getD k ⟨#[]⟩
        · have HN := Lib.hid (show ∀ j, j < k + 1 → xs.getD j ⟨#[]⟩ = ys.getD j ⟨#[]⟩ from fun j hj => (by
            rcases Nat.lt_or_ge j k with hjk | hjk
            · exact HQ.out j hjk
            · rw [show j = k from by omega]; exact hxy))
          rw [← hxy] at g2
          clear hxy
          generalize xs.getD k ⟨#[]⟩ = x at g1 g2
          go_wp2
          go_roundw
          case rel => exact ⟨k + 1, m, by omega, by go_num, by first | rfl | exact World.drewN_drewN .., HN.out⟩
          case measure => simp [intOf]; omega
        · have HN := Lib.hid (show decide (xs = ys) = false from decide_eq_false (fun h => hxy (by rw [h])))
          generalize xs.getD k ⟨#[]⟩ = x at g1 hxy
          generalize ys.getD k ⟨#[]⟩ = y at g2 hxy
          have hbq : (x.toList == y.toList) = false := (Lib.bytes_beq_false_iff x y).2 hxy
          go_wp2
          go_ret
          exact ⟨ret_bool HN.out.symm, by first | exact below_draws _ | (rw [World.drewN_drewN]; exact below_draws _)⟩
      · have HN := Lib.hid (show decide (xs = ys) = true from decide_eq_true (ext_getD HE.out (fun j hj => HQ.out j (by rw [← HL.out] at hj; omega))))
        go_wp2
        go_ret
        exact ⟨ret_bool HN.out.symm, below_draws _⟩
  · have hd : decide (xs = ys) = false := decide_eq_false (fun h => hl (by rw [h]))
    rw [hd]
    generalize xs.length = L at *
    generalize ys.length = M at *
    go_enter Try.func16, Try.ntmps16
    go_wp2
    go_ret
    exact ⟨rfl, Below.refl _ _⟩
end Go.Proofs.Ytmljjdglmlnbaaa.Same
