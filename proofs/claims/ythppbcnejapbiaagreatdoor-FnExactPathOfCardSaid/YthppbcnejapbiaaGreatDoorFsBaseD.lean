/- Helper texts joined, one behind another (a claim has at most 60 files): what each proves, its own head says: YthppbcnejapbiaaGreatDoorCpF, YthppbcnejapbiaaGreatDoorClN, YthppbcnejapbiaaGreatDoorCpI, YthppbcnejapbiaaGreatDoorCpG, YthppbcnejapbiaaGreatDoorFsC, YthppbcnejapbiaaGreatDoorFsD, YthppbcnejapbiaaGreatDoorCoR, YthppbcnejapbiaaGreatDoorPadToImpl, YthppbcnejapbiaaGreatDoorCoI, YthppbcnejapbiaaGreatDoorCoFr. -/
import Derived.Test.YthppbcnejapbiaaGreatDoorFsBaseC
import Derived.Deep.RegionLaw
import Derived.Deep.RegionHeld3
import Derived.Test.YthppbcnejapbiaaGreatDoorShelf
import Derived.Test.YthppbcnejapbiaaGreatDoorFsBaseB

-- YthppbcnejapbiaaGreatDoorCpF
/- Facts on copying a file system, inode by inode. Conditions: as each theorem types them. -/
namespace Go.Proofs.YthppbcnejapbiaaGreatDoor.CpF
open Go.ChangeShapes Go.WideShapes Go.ChangeAt Go.RowKit
open Foot Bx
open InoV (I)
open FsV (F)
open FoB
set_option linter.unusedVariables false

end Go.Proofs.YthppbcnejapbiaaGreatDoor.CpF

-- YthppbcnejapbiaaGreatDoorClN
/- Contracts: the library's Clone of a slice of ints, of AclEntries, of Inodes (whose own slices it shares); the program's copyInode; appending such slices to an empty one. Conditions: the lengths. -/
namespace Go.Proofs.YthppbcnejapbiaaGreatDoor.ClN
open Go.ChangeShapes Go.WideShapes Go.ChangeAt Go.RowKit
open Foot Bx
open InoV (I)
open App (SrcRow wpList_append_src)
set_option linter.unusedVariables false

end Go.Proofs.YthppbcnejapbiaaGreatDoor.ClN

-- YthppbcnejapbiaaGreatDoorCpI
/- Contract: the program's copyInode gives the same inode, its slices in rows of the call's own. Conditions: the lengths. -/
namespace Go.Proofs.YthppbcnejapbiaaGreatDoor.CpI
open Go.ChangeShapes Go.WideShapes Go.ChangeAt Go.RowKit
open Foot Bx
open InoV (I)
open ClN
set_option linter.unusedVariables false

end Go.Proofs.YthppbcnejapbiaaGreatDoor.CpI

-- YthppbcnejapbiaaGreatDoorCpG
/- Contract: the program's copyFS gives the same file system, all its rows the call's own. Conditions: the cost. -/
namespace Go.Proofs.YthppbcnejapbiaaGreatDoor.CpG
open Go.ChangeShapes Go.WideShapes Go.ChangeAt Go.RowKit
open Foot Bx
open InoV (I)
open FsV (F)
open FoB CpF
open Lib (hid)
set_option linter.unusedVariables false

end Go.Proofs.YthppbcnejapbiaaGreatDoor.CpG

-- YthppbcnejapbiaaGreatDoorFsC
/- Contracts and plain facts that a law of this seat leans on. Conditions: as each theorem types them. -/
namespace Go.Proofs.YthppbcnejapbiaaGreatDoor.FsC
open Go.ChangeShapes Go.WideShapes Go.ChangeAt Go.RowKit
open Foot Bx
open InoV (I usedV hasB)
open FsV (F cnt first pick useI useB usersB okF)
open Dk (ret_bool)
open Strs (ret_int)
open MpB (Is)
set_option linter.unusedVariables false

set_option maxRecDepth 100000 in
theorem user_impl (u : Int) (w : World) : Calls Tryz.prog 181 #[.int .i64 u] w fun e w' => e = .returned (.bool (usersB u)) ∧ w = w' := by
  by_cases h0 : 0 ≤ u
  · by_cases h1 : u ≤ 3
    · have HV := Lib.hid (show usersB u = true by rw [usersB, decide_eq_true h0, decide_eq_true h1]; rfl)
      have q0 : decide (0 ≤ u) = true := decide_eq_true h0
      have q1 : decide (u < 4) = true := decide_eq_true (by omega)
      clear h0 h1
      go_enter Tryz.func181, Tryz.ntmps181
      go_wp2
      go_ret
      exact ⟨ret_bool HV.out.symm, rfl⟩
    · have HV := Lib.hid (show usersB u = false by rw [usersB, decide_eq_false h1, Bool.and_false])
      have q0 : decide (0 ≤ u) = true := decide_eq_true h0
      have q1 : decide (u < 4) = false := decide_eq_false (by omega)
      clear h0 h1
      go_enter Tryz.func181, Tryz.ntmps181
      go_wp2
      go_ret
      exact ⟨ret_bool HV.out.symm, rfl⟩
  · have HV := Lib.hid (show usersB u = false by rw [usersB, decide_eq_false h0]; rfl)
    have q0 : decide (0 ≤ u) = false := decide_eq_false h0
    clear h0
    go_enter Tryz.func181, Tryz.ntmps181
    go_wp2
    go_ret
    exact ⟨ret_bool HV.out.symm, rfl⟩

/-- Which inodes of the first i are in use. -/
def usI (l : List I) (i : Nat) (x : Int) : Bool := decide (0 ≤ x) && decide (x < (i : Int)) && !decide ((l.getD x.toNat InoV.zero).kind = 0)
/-- A pool's value. -/
abbrev poolV (a m : Nat) (q : Int) (b : Nat) : Value := .agg #[.int .i64 a, .int .i64 m, .int .i64 q, .map (some b)]

def pairV (x : Int × Int) : Value := .tuple #[.int .i64 x.1, .int .i64 x.2]
end Go.Proofs.YthppbcnejapbiaaGreatDoor.FsC

-- YthppbcnejapbiaaGreatDoorFsD
/- Contracts and plain facts that a law of this seat leans on. Conditions: as each theorem types them. -/
namespace Go.Proofs.YthppbcnejapbiaaGreatDoor.FsD
open Go.ChangeShapes Go.WideShapes Go.ChangeAt Go.RowKit
open Foot Bx
open InoV (I usedV hasB)
open FsV (F cnt first pick useI useB usersB okF)
open Dk (ret_bool)
open MpB (Is)
open FsC (poolV usI)
set_option linter.unusedVariables false

end Go.Proofs.YthppbcnejapbiaaGreatDoor.FsD

-- YthppbcnejapbiaaGreatDoorCoR
/- Contract: the program's renew allocates another block for each chosen one of a window of a row of ints. Conditions: as the theorem types them. -/
namespace Go.Proofs.YthppbcnejapbiaaGreatDoor.CoR
open Go.ChangeShapes Go.WideShapes Go.ChangeAt Go.RowKit
open Foot Bx
open FsY FsZ FoB
open FsV (pick)
open FsC (poolV pairV)
open MpB (Is)
set_option linter.unusedVariables false

theorem ret_int {a b : Int} (h : a = b) : Ending.returned (.int .i64 a) = .returned (.int .i64 b) := by rw [h]
/-- The row while it goes on. -/
def mid (l0 : List Int) (o : Nat) (pre : List Int) : List Int := l0.take o ++ pre ++ l0.drop (o + pre.length)
theorem mid_zero (l0 : List Int) (o : Nat) : mid l0 o [] = l0 := by simp [mid]
theorem mid_len {l0 pre : List Int} {o : Nat} (h : o + pre.length ≤ l0.length) : (mid l0 o pre).length = l0.length := by
  simp only [mid, List.length_append, List.length_take, List.length_drop]; omega
theorem mid_at {l0 pre : List Int} {o : Nat} (h : o + pre.length < l0.length) : (mid l0 o pre)[o + pre.length]? = some (l0.getD (o + pre.length) 0) := by
  rw [mid, List.getElem?_append_right (by rw [List.length_append, List.length_take]; omega), List.length_append, List.length_take, List.getElem?_drop, show o + pre.length + (o + pre.length - (min o l0.length + pre.length)) = o + pre.length from by omega, List.getElem?_eq_getElem h, getD_at h]
theorem mid_set {l0 pre : List Int} {o : Nat} (x : Int) (h : o + pre.length < l0.length) : (mid l0 o pre).set (o + pre.length) x = mid l0 o (pre ++ [x]) := by
  have h1 : (l0.take o ++ pre).length = o + pre.length := by rw [List.length_append, List.length_take]; omega
  rw [mid, mid, List.set_append_right _ _ (by omega), h1, Nat.sub_self, List.drop_eq_getElem_cons h, List.set_cons_zero, List.length_append]
  simp [List.append_assoc]; rfl
theorem mid_skip {l0 pre : List Int} {o : Nat} (h : o + pre.length < l0.length) : mid l0 o pre = mid l0 o (pre ++ [l0.getD (o + pre.length) 0]) := by
  rw [← mid_set _ h]
  refine (List.ext_getElem? fun j => ?_)
  rw [List.getElem?_set]
  split
  · rename_i e
    subst e
    rw [mid_at h, if_pos (by rw [mid_len (by omega)]; exact h)]
  · rfl

end Go.Proofs.YthppbcnejapbiaaGreatDoor.CoR

-- YthppbcnejapbiaaGreatDoorPadToImpl
/- Contract: for every string of at most 2^20 bytes and every int, the program's PadTo returns the string with the zero bytes that it wants behind it. Conditions: the string's length; the int is a 64-bit one. -/
namespace Go.Proofs.YthppbcnejapbiaaGreatDoor.PadTo
open Go.ChangeShapes Go.WideShapes Go.ChangeAt Go.RowKit
open RowG
set_option linter.unusedVariables false

theorem rep_data (c : Nat) : (Lib.repeatL [0] c : List UInt8) = List.replicate c 0 := by
  induction c with
  | zero => rfl
  | succ c ih => simp [Lib.repeatL, ih, List.replicate_succ]
theorem pad_eq (s : ByteArray) (c : Nat) : s ++ (⟨(Lib.repeatL (ByteArray.mk #[0]).data.toList c).toArray⟩ : ByteArray) = ⟨(zend s c).toArray⟩ := by
  apply ByteArray.ext
  apply Array.toList_inj.1
  rw [ByteArray.data_append, Array.toList_append]
  have : (ByteArray.mk #[0]).data.toList = [0] := rfl
  rw [this, rep_data]
  simp [zend]
theorem repsize (c : Nat) (h : c ≤ 100000) : (⟨(Lib.repeatL (ByteArray.mk #[0]).data.toList c).toArray⟩ : ByteArray).size ≤ 100000 := by
  have : (ByteArray.mk #[0]).data.toList = [0] := rfl
  rw [this, rep_data]
  simpa [ByteArray.size] using h

set_option maxRecDepth 100000 in
set_option maxHeartbeats 400000 in
theorem impl_any (s : ByteArray) (n : Int) (w : World) (hs : s.size ≤ 1048576) (hlo : -9223372036854775808 ≤ n) :
    Calls Tryz.prog 124 #[.string s, .int .i64 n] w fun e w' => e = .returned (.string (padB s n)) ∧ Below w.heap.size w w' := by
  have HLO := Lib.hid hlo
  clear hlo
  by_cases hn : 100000 < n
  · rw [padB_big s n hn]
    go_enter Tryz.func124, Tryz.ntmps124
    go_wp2
    go_ret
    exact ⟨rfl, Below.refl _ _⟩
  · by_cases hle : n ≤ s.size
    · rw [padB_id s n hn hle]
      go_enter Tryz.func124, Tryz.ntmps124
      go_wp2
      go_ret
      exact ⟨rfl, Below.refl _ _⟩
    · obtain ⟨c, hc⟩ : ∃ c : Nat, n = s.size + c := ⟨(n - s.size).toNat, by omega⟩
      have HP := Lib.hid (padB_at s n c hn (by omega))
      have HQ := Lib.hid (pad_eq s c)
      have hcs : c ≤ 100000 := by omega
      have HR := repsize c hcs
      subst hc
      have hone : (ByteArray.mk #[0]).size * c ≤ 140737488355328 := by
        have : (ByteArray.mk #[0]).size = 1 := rfl
        rw [this]; omega
      have hc0 : 0 < c := by omega
      have HO := Lib.hid hone
      clear hone
      go_enter Tryz.func124, Tryz.ntmps124
      go_wp2_with fail
      rw [show ((s.size : Int) + (c : Int) - (s.size : Int)) = c from by omega]
      refine (Tryz.strings_Repeat (ByteArray.mk #[0]) c w (by omega) HO.out).mono ?_
      rintro e w1 ⟨rfl, hb1⟩
      go_wp2
      go_ret
      exact ⟨ret_str (by rw [HP.out, ← HQ.out]), hb1⟩
end Go.Proofs.YthppbcnejapbiaaGreatDoor.PadTo

-- YthppbcnejapbiaaGreatDoorCoI
/- Contract: the program's withInode gives the file system with another inode and another content. Conditions: a valid file system, the inode's number; the inode's slices and the content are the caller's own. -/
namespace Go.Proofs.YthppbcnejapbiaaGreatDoor.CoI
open Go.ChangeShapes Go.WideShapes Go.ChangeAt Go.RowKit
open Foot Bx
open InoV (I usedV)
open FsV (F okF e0 z32)
open FsY FsZ FoB CoN
open RowG (cellsB cellsB_length)
set_option linter.unusedVariables false

section
variable {w W W' : World} {lo : Nat} {n : I} {a0 a1 a2 : Option Addr} {d0 d1 d2 : Nat} {f : F} {q : Value} {gi ci gd cd : Nat} {S : List Nat}
end

end Go.Proofs.YthppbcnejapbiaaGreatDoor.CoI

-- YthppbcnejapbiaaGreatDoorCoFr
/- Contracts and plain facts that a law of this seat leans on. Conditions: as each theorem types them. -/
namespace Go.Proofs.YthppbcnejapbiaaGreatDoor.CoFr
open Go.ChangeShapes Go.WideShapes Go.ChangeAt Go.RowKit
open Foot Bx
open InoV (I usedV needV)
open FsV (F okF e0 z32 usersB)
open FsY FsZ FoB CoN
open RowG (cellsB cellsB_length)
set_option linter.unusedVariables false

theorem good_of {f : F} {i : Int} (h : hasObjB f i = true) : ∃ k : Nat, i = k ∧ GoodF f k := by
  unfold hasObjB at h
  simp only [Bool.and_eq_true, decide_eq_true_eq] at h
  obtain ⟨⟨⟨h0, h19⟩, hok⟩, _⟩ := h
  exact ⟨i.toNat, by omega, hok, by omega⟩

end Go.Proofs.YthppbcnejapbiaaGreatDoor.CoFr
