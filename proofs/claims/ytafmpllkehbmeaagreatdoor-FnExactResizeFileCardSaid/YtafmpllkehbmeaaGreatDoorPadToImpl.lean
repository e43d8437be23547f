/- Contract: for every string of at most 2^20 bytes and every int, the program's PadTo returns the string with the zero bytes that it wants behind it. Conditions: the string's length; the int is a 64-bit one. -/
import Derived.Test.YtafmpllkehbmeaaGreatDoorPadTo
import Derived.Test.YtafmpllkehbmeaaGreatDoorShelf
namespace Go.Proofs.YtafmpllkehbmeaaGreatDoor.PadTo
open Go.ChangeShapes Go.WideShapes Go.ChangeAt Go.RowKit
open RowG
set_option linter.unusedVariables false

theorem rep_data (c : Nat) : (Lib.repeatL [0] c : List UInt8) = List.replicate c 0 := by
  induction c with
  | zero => rfl
  | succ c ih => simp [Lib.repeatL, ih, List.replicate_succ]
theorem pad_eq (s : ByteArray) (c : Nat) : s ++ (⟨(Lib.repeatL (ByteArray.mk #[0]).data.toList c).toArray⟩ : ByteArray) = ⟨(zend s c).toArray⟩ := by
  apply ByteArray.ext
  apply Array.toList_inj.1
  rw [ByteArray.data_append, Array.toList_append]
  have : (ByteArray.mk #[0]).data.toList = [0] := rfl
  rw [this, rep_data]
  simp [zend]
theorem repsize (c : Nat) (h : c ≤ 100000) : (⟨(Lib.repeatL (ByteArray.mk #[0]).data.toList c).toArray⟩ : ByteArray).size ≤ 100000 := by
  have : (ByteArray.mk #[0]).data.toList = [0] := rfl
  rw [this, rep_data]
  simpa [ByteArray.size] using h

set_option maxRecDepth 100000 in
set_option maxHeartbeats 400000 in
theorem impl_any (s : ByteArray) (n : Int) (w : World) (hs : s.size ≤ 1048576) (hlo : -9223372036854775808 ≤ n) :
    Calls Tryz.prog 21 #[.string s, .int .i64 n] w fun e w' => e = .returned (.string (padB s n)) ∧ Below w.heap.size w w' := by
  have HLO := Lib.hid hlo
  clear hlo
  by_cases hn : 100000 < n
  · rw [padB_big s n hn]
    go_enter Tryz.func21, Tryz.ntmps21
    go_wp2
    go_ret
    exact ⟨rfl, Below.refl _ _⟩
  · by_cases hle : n ≤ s.size
    · rw [padB_id s n hn hle]
      go_enter Tryz.func21, Tryz.ntmps21
      go_wp2
      go_ret
      exact ⟨rfl, Below.refl _ _⟩
    · obtain ⟨c, hc⟩ : ∃ c : Nat, n = s.size + c := ⟨(n - s.size).toNat, by omega⟩
      have HP := Lib.hid (padB_at s n c hn (by omega))
      have HQ := Lib.hid (pad_eq s c)
      have hcs : c ≤ 100000 := by omega
      have HR := repsize c hcs
      subst hc
      have hone : (ByteArray.mk #[0]).size * c ≤ 140737488355328 := by
        have : (ByteArray.mk #[0]).size = 1 := rfl
        rw [this]; omega
      have hc0 : 0 < c := by omega
      have HO := Lib.hid hone
      clear hone
      go_enter Tryz.func21, Tryz.ntmps21
      go_wp2_with fail
      rw [show ((s.size : Int) + (c : Int) - (s.size : Int)) = c from by omega]
      refine (Tryz.strings_Repeat (ByteArray.mk #[0]) c w (by omega) HO.out).mono ?_
      rintro e w1 ⟨rfl, hb1⟩
      go_wp2
      go_ret
      exact ⟨ret_str (by rw [HP.out, ← HQ.out]), hb1⟩
end Go.Proofs.YtafmpllkehbmeaaGreatDoor.PadTo
