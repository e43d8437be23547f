/- Contracts and plain facts that a law of this seat leans on. Conditions: as each theorem types them. -/
import Derived.Test.YtmljjdglmlnbaaaGreatDoorKit
import Derived.Test.YtmljjdglmlnbaaaGreatDoorRowG
import Derived.Test.YtmljjdglmlnbaaaGreatDoorNums
import Derived.BigQuiet
namespace Go.Proofs.YtmljjdglmlnbaaaGreatDoor.PutNumber
open Go.ChangeShapes Go.WideShapes Go.ChangeAt Go.RowKit
open Nums RowG
set_option linter.unusedVariables false

theorem in_yes (n lo hi : Int) (w : World) (h1 : lo ≤ n) (h2 : n ≤ hi) :
    Calls Tryz.prog 52 #[.int .i64 n, .int .i64 lo, .int .i64 hi] w fun e w' => e = .returned (.bool true) ∧ w = w' := by
  go_enter Tryz.func52, Tryz.ntmps52
  go_wp2
  go_ret
  exact ⟨rfl, rfl⟩
theorem in_no (n lo hi : Int) (w : World) (h : n < lo ∨ hi < n) :
    Calls Tryz.prog 52 #[.int .i64 n, .int .i64 lo, .int .i64 hi] w fun e w' => e = .returned (.bool false) ∧ w = w' := by
  by_cases h1 : n < lo
  · have hd : decide (lo ≤ n) = false := by simp; omega
    clear h
    go_enter Tryz.func52, Tryz.ntmps52
    go_wp2
    go_ret
    exact ⟨rfl, rfl⟩
  · have h2 : decide (n ≤ hi) = false := by simp; omega
    have h3 : lo ≤ n := by omega
    clear h
    go_enter Tryz.func52, Tryz.ntmps52
    go_wp2
    go_ret
    exact ⟨rfl, rfl⟩
theorem ret_str {a b : ByteArray} (h : a = b) : Ending.returned (.string a) = .returned (.string b) := by rw [h]

theorem made (n width : Nat) : (madeCells (Value.int IntKind.u8 0).cells (width * 1)).toList = cellsB (partL n width 0) := by
  rw [partL_zero]
  simp [madeCells, cellsB, Value.cells, Nat.mod_one, List.map_const']
theorem own_set {w : World} {base g n width j q : Nat} (h : w.ownsRow base 5 1 (.slice (some ⟨g, 0, none⟩) width width) width (cellsB (partL n width j))) (hj : j < width) (k : Nat) (hk : k = width - 1 - j) (hq : q = n / 256 ^ j) :
    (w.setCell ⟨g, k, none⟩ (.int .u8 ((q : Int) % 256))).ownsRow base 5 1 (.slice (some ⟨g, 0, none⟩) width width) width (cellsB (partL n width (j + 1))) := by
  subst hk
  subst hq
  have h2 := (h.stored (width - 1 - j) (.int .u8 (((byteN n j).toNat : Nat) : Int))).1
  rw [cellsB_set, partL_set n width j hj, byteN_toNat] at h2
  exact h2
theorem own_cell {w : World} {base g n width j k : Nat} (h : w.ownsRow base 5 1 (.slice (some ⟨g, 0, none⟩) width width) width (cellsB (partL n width j))) (hj : j ≤ width) (hk : k < width) :
    (∃ x, w.cell? ⟨g, k, none⟩ = some x) ∧ w.frozen? ⟨g, k, none⟩ = false := by
  refine ⟨?_, h.frozenAt k⟩
  rw [h.cellAt k (by omega)]
  exact ⟨_, List.getElem?_eq_getElem (by rw [cellsB_length, partL_length _ _ _ hj]; exact hk)⟩

theorem fits_nat (n width : Nat) : fitsB n width = true ↔ 1 ≤ width ∧ width ≤ 6 ∧ n < 256 ^ width := by
  have e : ((n : Int) < 256 ^ width) ↔ n < 256 ^ width := by
    rw [show ((256 : Int) ^ width) = ((256 ^ width : Nat) : Int) from by rw [Int.natCast_pow]; rfl]
    exact Int.ofNat_lt
  simp only [fitsB, Bool.and_eq_true, decide_eq_true_eq, Int.toNat_natCast, e]
  omega
theorem not_fits {n width : Int} (h : n < 0 ∨ width < 1 ∨ 6 < width) : fitsB n width = false := by
  rw [Bool.eq_false_iff]
  intro hh
  simp only [fitsB, Bool.and_eq_true, decide_eq_true_eq] at hh
  omega

end Go.Proofs.YtmljjdglmlnbaaaGreatDoor.PutNumber
