/- Contracts: the program's BlockOwner and the model's. No condition of their own. -/
import Derived.Test.YtafmpllkehbmeaaGreatDoorFsV
import Derived.Test.YtafmpllkehbmeaaGreatDoorAclS
import Derived.Test.YtafmpllkehbmeaaGreatDoorDkAt
namespace Go.Proofs.YtafmpllkehbmeaaGreatDoor.FsO
open Go.ChangeShapes Go.WideShapes Go.ChangeAt Go.RowKit
open FsV (ownerV)
open Strs (ret_int)
set_option linter.unusedVariables false

theorem owner_div {b : Int} (h0 : 0 ≤ b) (h1 : b ≤ 55) : b.tdiv 14 = ownerV b := by
  rw [Int.tdiv_eq_ediv_of_nonneg h0, ownerV, if_pos ⟨h0, h1⟩]
set_option maxRecDepth 100000 in
theorem owner_spec (b : Int) (w : World) : Calls Tryz.prog 211 #[.int .i64 b] w fun e w' => e = .returned (.int .i64 (ownerV b)) ∧ w = w' := by
  have hin := AclS.in_any b 0 55 w
  cases hi : (decide (0 ≤ b) && decide (b ≤ 55))
  · have hn : ¬ (0 ≤ b ∧ b ≤ 55) := by simpa using hi
    rw [hi] at hin
    have HIN := Lib.hid hin
    have HV := Lib.hid (show ownerV b = -1 from by rw [ownerV, if_neg hn])
    clear hin hi hn
    go_enter Tryz.func211, Tryz.ntmps211
    go_wp2_with fail
    refine HIN.out.mono ?_
    rintro e w1 ⟨rfl, rfl⟩
    go_wp2
    go_ret
    exact ⟨ret_int HV.out.symm, rfl⟩
  · have hn : 0 ≤ b ∧ b ≤ 55 := by simpa using hi
    rw [hi] at hin
    have HIN := Lib.hid hin
    have HV := Lib.hid (owner_div hn.1 hn.2)
    have h0 := hn.1
    have h1 := hn.2
    clear hin hi hn
    go_enter Tryz.func211, Tryz.ntmps211
    go_wp2_with fail
    refine HIN.out.mono ?_
    rintro e w1 ⟨rfl, rfl⟩
    go_wp2
    go_ret
    exact ⟨ret_int (by first | exact HV.out | (rw [← HV.out, Int.tdiv_eq_ediv_of_nonneg h0])), rfl⟩
set_option maxRecDepth 100000 in
theorem owner_impl (b : Int) (w : World) : Calls Tryz.prog 28 #[.int .i64 b] w fun e w' => e = .returned (.int .i64 (ownerV b)) ∧ w = w' := by
  by_cases h0 : 0 ≤ b
  · by_cases h1 : b ≤ 55
    · have HV := Lib.hid (owner_div h0 h1)
      go_enter Tryz.func28, Tryz.ntmps28
      go_wp2
      go_ret
      exact ⟨ret_int (by first | exact HV.out | (rw [← HV.out, Int.tdiv_eq_ediv_of_nonneg h0])), rfl⟩
    · have HV := Lib.hid (show ownerV b = -1 from by rw [ownerV, if_neg (by omega)])
      go_enter Tryz.func28, Tryz.ntmps28
      go_wp2
      go_ret
      exact ⟨ret_int HV.out.symm, rfl⟩
  · have HV := Lib.hid (show ownerV b = -1 from by rw [ownerV, if_neg (by omega)])
    go_enter Tryz.func28, Tryz.ntmps28
    go_wp2
    go_ret
    exact ⟨ret_int HV.out.symm, rfl⟩

end Go.Proofs.YtafmpllkehbmeaaGreatDoor.FsO
