/- A part. -/
import Derived.Test.YthppbcnejapbiaaGreatDoorSplitAnyLaw
import Derived.Test.YthppbcnejapbiaaGreatDoorPutNumber
import Derived.Lib.Strings
namespace Go.Proofs.YthppbcnejapbiaaGreatDoor.CutAll
open Go.ChangeShapes Go.WideShapes Go.ChangeAt Go.RowKit
open SplitAny (own_nil st_below strInfo)
open PutNumber (in_yes in_no)
set_option linter.unusedVariables false
def cut (s : ByteArray) (n k : Nat) : List ByteArray := (List.range k).map fun i => s.extract (i * n) (min (i * n + n) s.size)
theorem cut_length (s : ByteArray) (n k : Nat) : (cut s n k).length = k := by simp [cut]
theorem cut_succ (s : ByteArray) (n k : Nat) : cut s n (k + 1) = cut s n k ++ [s.extract (k * n) (min (k * n + n) s.size)] := by simp [cut, List.range_succ]
def cutAll (s : ByteArray) (n : Int) : List ByteArray := if 1 <= n /\ n <= 1000 then cut s n.toNat ((s.size + n.toNat - 1) / n.toNat) else []
theorem cnt_eq {z n k : Nat} (hn : 0 < n) (h1 : z <= k * n) (h2 : k = 0 \/ ∃ j, k = j + 1 /\ j * n < z) : (z + n - 1) / n = k := by
 apply Nat.div_eq_of_lt_le
 ·rcases h2 with rfl | ⟨j, rfl, h2⟩
  ·simp
  ·rw [Nat.succ_mul]; omega
 ·rw [Nat.succ_mul]; omega
theorem cutAll_eq {s : ByteArray} {n k : Nat} (h1 : 1 <= n) (h2 : n <= 1000) (h3 : s.size <= k * n) (h4 : k = 0 \/ ∃ j, k = j + 1 /\ j * n < s.size) : cutAll s (n : Int) = cut s n k := by
 rw [cutAll, if_pos (by omega), Int.toNat_natCast, cnt_eq (by omega) h3 h4]
theorem cutAll_no {s : ByteArray} {n : Int} (h : n < 1 \/ 1000 < n) : cutAll s n = [] := by
 rw [cutAll, if_neg (by omega)]
def St (s : ByteArray) (n : Nat) (w : World) (k : Nat) (v : Value) (wr : World) : Prop :=
 wr.ownsRow w.heap.size 9 1 v k ((cut s n k).map Value.string) /\ Below w.heap.size w wr
theorem st_next {s : ByteArray} {n : Nat} {w : World} {k : Nat} {v v' : Value} {wr w1 : World} {o : Obj} {x : ByteArray} (h : St s n w k v wr) (hx : x = s.extract (k * n) (min (k * n + n) s.size))
  (hown1 : w1.ownsRow w.heap.size 9 1 v' (k + 1) ((cut s n k).map Value.string ++ [.string x])) (hg : (wr.alloc o).grownBy w1 v.ownBlock) : St s n w (k + 1) v' w1 := by
 subst hx
 refine ⟨?_, (st_below h.1 h.2 h.2.size (Nat.le_refl _) hg).1⟩
 rw [cut_succ]
 simpa using hown1
set_option maxRecDepth 100000 in
set_option maxHeartbeats 400000 in
theorem impl_yes (s : ByteArray) (n : Nat) (w : World) (hs : s.size <= 1048576) (h1 : 1 <= n) (h2 : n <= 1000) :
  Calls Tryz.prog 97 #[.string s, .int .i64 n] w fun e w' => ∃ v, e = .returned v /\ w'.ownsRow w.heap.size 9 1 v (cutAll s n).length ((cutAll s n).map Value.string) /\ Below w.heap.size w w' := by
 obtain ⟨i0, hi, hz0, hz1, hz2⟩ := info_parts strInfo
 go_enter Tryz.func97, Tryz.ntmps97
 go_wp2
 go_loopw [5, 6] (fun v a wr => ∃ k m : Nat, m = k * n /\ a = .int .i64 m /\ St s n w k v wr /\ (k = 0 \/ ∃ j, k = j + 1 /\ j * n < s.size) /\ m <= s.size + 1000 /\ k <= m) (fun _ a _ => s.size + 1000 - (intOf a).toNat)
 case atStart => exact ⟨0, 0, by omega, rfl, ⟨own_nil _ _ _, Below.refl _ _⟩, .inl rfl, by omega, by omega⟩
 case round =>
  obtain ⟨k, m, hm, rfl, hst, hk, hms, hkm⟩ := hrel
  have HST := Lib.hid hst
  have HK := Lib.hid hk
  have HM := Lib.hid hm
  have hsz := hst.2.size
  clear hst hk hm
  by_cases hlt : m < s.size
  ·by_cases hmin : m + n <= s.size
   ·go_wp2_with (first | (at_builtin; refine wpList_append_own _ rfl _ _ 24 rfl w.heap.size 9 i0 (.string ⟨#[]⟩) 1 16 Tryz.underlying24 hi hz0 hz1 hz2 rfl (by decide) _ _ _ rfl (HST.out.1.alloc _) ⟨wr.heap.size, 0, none⟩ 1 1 [.string (s.extract m (m + n))] rfl rfl ?c1 ?c2 ?c3 ?c4 ?c5 ?_))
    case c1 => exact cell_one_new _ _ _
    case c2 => simp [Value.oneCell']
    case c3 => unfold maxLen; omega
    case c4 => omega
    case c5 => simp; omega
    intro v' w1 hown1 hg1 _
    have HST1 := Lib.hid (st_next HST.out (by rw [<- HM.out, Nat.min_eq_left hmin]) hown1 hg1)
    clear hown1 hg1
    go_wp2
    go_roundw
    case rel => exact ⟨k + 1, m + n, by rw [Nat.succ_mul, <- HM.out], by go_num, HST1.out, .inr ⟨k, rfl, by rw [<- HM.out]; exact hlt⟩, by omega, by omega⟩
    case measure => simp [intOf]; omega
   ·go_wp2_with (first | (at_builtin; refine wpList_append_own _ rfl _ _ 24 rfl w.heap.size 9 i0 (.string ⟨#[]⟩) 1 16 Tryz.underlying24 hi hz0 hz1 hz2 rfl (by decide) _ _ _ rfl (HST.out.1.alloc _) ⟨wr.heap.size, 0, none⟩ 1 1 [.string (s.extract m s.size)] rfl rfl ?c1 ?c2 ?c3 ?c4 ?c5 ?_))
    case c1 => exact cell_one_new _ _ _
    case c2 => simp [Value.oneCell']
    case c3 => unfold maxLen; omega
    case c4 => omega
    case c5 => simp; omega
    intro v' w1 hown1 hg1 _
    have HST1 := Lib.hid (st_next HST.out (by rw [<- HM.out, Nat.min_eq_right (by omega)]) hown1 hg1)
    clear hown1 hg1
    go_wp2
    go_roundw
    case rel => exact ⟨k + 1, m + n, by rw [Nat.succ_mul, <- HM.out], by go_num, HST1.out, .inr ⟨k, rfl, by rw [<- HM.out]; exact hlt⟩, by omega, by omega⟩
    case measure => simp [intOf]; omega
  ·have HE := Lib.hid (cutAll_eq (s := s) h1 h2 (by rw [<- HM.out]; omega) HK.out)
   go_wp2
   go_ret
   refine ⟨_, rfl, ?_, HST.out.2⟩
   rw [HE.out, cut_length]
   exact HST.out.1
theorem impl_any (s : ByteArray) (n : Int) (w : World) (hs : s.size <= 1048576) :
  Calls Tryz.prog 97 #[.string s, .int .i64 n] w fun e w' => ∃ v, e = .returned v /\ w'.ownsRow w.heap.size 9 1 v (cutAll s n).length ((cutAll s n).map Value.string) /\ Below w.heap.size w w' := by
 by_cases h : n < 1 \/ 1000 < n
 ·rw [cutAll_no h]
  by_cases h1 : n < 1
  ·have hd : decide (n < 1) = true := by simp; omega
   clear h
   go_enter Tryz.func97, Tryz.ntmps97
   go_wp2_with fail
   go_ret
   exact ⟨_, rfl, own_nil _ _ _, Below.refl _ _⟩
  ·have h2 : 1000 < n := by omega
   have h3 : 1 <= n := by omega
   clear h h1
   go_enter Tryz.func97, Tryz.ntmps97
   go_wp2_with fail
   go_ret
   exact ⟨_, rfl, own_nil _ _ _, Below.refl _ _⟩
 ·obtain ⟨m, rfl⟩ := Int.eq_ofNat_of_zero_le (show 0 <= n by omega)
  exact impl_yes s m w hs (by omega) (by omega)
end Go.Proofs.YthppbcnejapbiaaGreatDoor.CutAll
