/- Helper texts joined, one behind another (a claim has at most 60 files): what each proves, its own head says: YthppbcnejapbiaaGreatDoorEnC, YthppbcnejapbiaaGreatDoorEnN, YthppbcnejapbiaaGreatDoorEnV, YthppbcnejapbiaaGreatDoorEnO, YthppbcnejapbiaaGreatDoorEnP, YthppbcnejapbiaaGreatDoorEnI, YthppbcnejapbiaaGreatDoorEnD, YthppbcnejapbiaaGreatDoorEnF. -/
import Derived.Test.YthppbcnejapbiaaGreatDoorKit
import Derived.Test.YthppbcnejapbiaaGreatDoorShelf
import Derived.Laws.RangeAny
import Derived.Deep.RegionLaw
import Derived.WalkMore
import Derived.Deep.Cut
import Derived.BigQuiet
import Derived.Deep.QuietTactic
import Derived.Deep.RegionHeld3
import Derived.Test.YthppbcnejapbiaaGreatDoorIsName
import Derived.Test.YthppbcnejapbiaaGreatDoorAdG
import Derived.Test.YthppbcnejapbiaaGreatDoorGetNumber
import Derived.Lib.SlTrimSet
import Derived.Test.YthppbcnejapbiaaGreatDoorPutNumber
import Derived.Test.YthppbcnejapbiaaGreatDoorAdK
import Derived.Test.YthppbcnejapbiaaGreatDoorAdA
import Derived.Test.YthppbcnejapbiaaGreatDoorAdF
import Derived.RangeFuncNested
import Derived.RangeFuncBound
import Derived.RangeFuncCalls
import Derived.RangeFuncLeaves
import Derived.RangeFuncBox
import Derived.Shelf.Abstract
import Derived.Shelf.RegionOpen
import Derived.WalkKit
import Derived.OwnWalkIn
import Derived.TacticsInMore
import Derived.LoopNIn
import Derived.LoopIn
import Derived.Test.YthppbcnejapbiaaGreatDoorCutAll
import Derived.Test.YthppbcnejapbiaaGreatDoorAdJ

-- YthppbcnejapbiaaGreatDoorEnC
/- A part. -/
namespace Go.Proofs.YthppbcnejapbiaaGreatDoor.EnC
set_option maxHeartbeats 1600000
set_option maxRecDepth 100000
open Go.ChangeShapes Go.WideShapes Go.ChangeAt Go.RowKit
set_option linter.unusedVariables false
def sl : ByteArray := ⟨#[0, 47]⟩
def nulB (c : UInt8) : Bool := c == 0 || c == 47
theorem ret_int {a b : Int} (h : a = b) : Ending.returned (.int .i64 a) = .returned (.int .i64 b) := by rw [h]
theorem idx (s : ByteArray) (j : Nat) (h : j < s.size) (q : Int) (hq : q = (j : Int)) (W : World) : (Instr.index 9 (.string s) (.int .i64 q)).run Tryz.prog W = .ok (.int .u8 (s[j].toNat : Int)) W := by
 subst hq
 simp [Instr.index, go_sem, h]
theorem rune_hi (r : Int) (h : 128 <= r) (w : World) :
  Calls Tryz.prog 222 #[.string sl, .int .i32 r] w fun e w' => e = .returned (.int .i64 (-1)) /\ Below w.heap.size w w' := by
 have q0 : decide (r < 128) = false := decide_eq_false (by omega)
 have q00 : decide (0 <= r) = true := decide_eq_true (by omega)
 have HQ := Lib.hid h
 by_cases h1 : r = 65533
 ·subst h1
  go_enter Tryz.func222, Tryz.ntmps222
  unfold sl
  go_wp2
  go_loopw [] (fun w' => ∃ pos : Nat, w' = w.iter ⟨#[0, 47]⟩ pos /\ pos <= 2) (fun w' => 2 - w'.iterPos w.heap.size)
  case atStart => exact ⟨0, rfl, Nat.zero_le _⟩
  case round =>
   obtain ⟨pos, rfl, hpos⟩ := hrel
   by_cases hp : pos < 2
   ·have hnx : ∀ ty, (Instr.next (.pointer (some ⟨w.heap.size, 0, none⟩)) true ty).run Tryz.prog (w.iter ⟨#[0, 47]⟩ pos) = _ := fun ty => run_next_any w ⟨#[0, 47]⟩ pos ty hp
    obtain rfl | rfl : pos = 0 \/ pos = 1 := by omega
    ·rw [show Utf8.decode ⟨#[0, 47]⟩ 0 = (0, 1) from rfl] at hnx
     go_wp2
     go_roundw
     case rel => exact ⟨1, rfl, by omega⟩
     case measure => simp
    ·rw [show Utf8.decode ⟨#[0, 47]⟩ 1 = (47, 1) from rfl] at hnx
     go_wp2
     go_roundw
     case rel => exact ⟨2, rfl, by omega⟩
     case measure => simp
   ·have hnx : ∀ ty, (Instr.next (.pointer (some ⟨w.heap.size, 0, none⟩)) true ty).run Tryz.prog (w.iter ⟨#[0, 47]⟩ pos) = _ := fun ty => run_next_end w ⟨#[0, 47]⟩ pos ty hp
    go_wp2
    go_ret
    exact ⟨rfl, (Below.refl _ _).alloc (Nat.le_refl _) _⟩
 ·have q1 : (r == 65533) = false := by simpa using h1
  cases hv : Lib.validRune r
  ·go_enter Tryz.func222, Tryz.ntmps222
   go_wp2_with (go_at_call 245; refine (Tryz.utf8_ValidRune _ _).mono ?_; rintro e w' ⟨rfl, hw⟩; have hw2 := hw.symm; clear hw; subst hw2; rw [hv])
   go_ret
   exact ⟨rfl, Below.refl _ _⟩
  ·have hval : Utf8.valid r = true := by
    unfold Lib.validRune at hv
    unfold Utf8.valid
    simp only [decide_eq_true_eq] at hv
    simp
    omega
   obtain ⟨e1, e2, e3⟩ := encode_facts r hval h
   obtain ⟨R, hR⟩ : ∃ R, Utf8.encode r = R := ⟨_, rfl⟩
   rw [hR] at e1 e2 e3
   have hx := e3 (by omega)
   obtain ⟨x, hxe⟩ : ∃ x : UInt8, R[R.size - 1]'(by omega) = x := ⟨_, rfl⟩
   rw [hxe] at hx
   have hidx : ∀ W : World, (Instr.index 9 (.string R) (.int .i64 ((R.size : Int) - 1))).run Tryz.prog W = .ok (.int .u8 x.toNat) W := fun W => by
    rw [idx R (R.size - 1) (by omega) _ (by omega) W, hxe]
   clear e3
   have hx7 : (47 != (x.toNat : Int)) = true := by simp; omega
   have hxs : ((x.toNat : Int)).toNat.toUInt8 = x := by simp
   have hib := fun W => Tryz.strings_IndexByte ⟨#[]⟩ (x.toNat : Int) W
   rw [hxs, show Lib.indexByte (⟨#[]⟩ : ByteArray).data.toList x = -1 from rfl] at hib
   have HIB := Lib.hid hib
   clear hib hxs hxe
   obtain ⟨n, hn⟩ : ∃ n, R.size = n := ⟨_, rfl⟩
   rw [hn] at e1 e2 hidx
   have hcv : ∀ W : World, (convert 21 9 (.int .i32 r)).run Tryz.prog W = .ok (.string R) W := fun W => by rw [run_convert_int_string W _ _ _ _ (by rfl) Tryz.underlying9, hR]
   have hsl : ∀ W : World, (Instr.slice 9 (.string ⟨#[0, 47]⟩) (some (.int .i64 2)) none none).run Tryz.prog W = .ok (.string ⟨#[]⟩) W := fun W => by kernel_rfl
   by_cases h3 : n = 2
   ·subst h3
    rw [show ((2 : Nat) : Int) - 1 = 1 from rfl] at hidx
    go_enter Tryz.func222, Tryz.ntmps222
    unfold sl
    go_wp2_with (go_at_call 245; refine (Tryz.utf8_ValidRune _ _).mono ?_; rintro e w' ⟨rfl, hw⟩; have hw2 := hw.symm; clear hw; subst hw2; rw [hv])
    go_step3
    go_wp2
    go_loopw [9] (fun iv wr => iv = .int .i64 1 /\ wr = w) (fun _ _ => 0)
    case atStart => exact ⟨by first | rfl | (simp; omega), rfl⟩
    case round =>
     obtain ⟨rfl, rfl⟩ := hrel
     have hw22 : IntKind.i64.wrap 2 = 2 := by decide
     have hs1 : ∀ W : World, (Instr.index 9 (.string ⟨#[0, 47]⟩) (.int .i64 1)).run Tryz.prog W = .ok (.int .u8 47) W := fun W => by kernel_rfl
     go_upto_region 6 with (fail)
     go_step3
     go_wp2
     go_region_held3 (fun _ => True) (trivial) (fail)
     all_goals
      go_upto_region 7 with (fail)
      go_region_law (go_simp; go_at_call 244; (with_reducible refine (HIB.out _).mono ?_); rintro e w' ⟨rfl, hw⟩; have hw2 := hw.symm; clear hw; subst hw2)
      all_goals
       go_wp2
       rw [Exit.noGoto_ret]
       go_wp2
       (try rw [Exit.noGoto_ret])
       go_ret
       exact ⟨rfl, (Below.refl _ _).drew.drew⟩
   ·go_enter Tryz.func222, Tryz.ntmps222
    unfold sl
    go_wp2_with (go_at_call 245; refine (Tryz.utf8_ValidRune _ _).mono ?_; rintro e w' ⟨rfl, hw⟩; have hw2 := hw.symm; clear hw; subst hw2; rw [hv])
    go_step3
    go_wp2
    go_loopw [9] (fun iv wr => iv = .int .i64 ((n : Int) - 1) /\ wr = w) (fun _ _ => 0)
    case atStart => exact ⟨by first | rfl | (simp; omega), rfl⟩
    case round =>
     obtain ⟨rfl, rfl⟩ := hrel
     have hq : decide ((n : Int) - 1 < 2) = false := decide_eq_false (by omega)
     go_wp2
     rw [Exit.noGoto_ret]
     go_ret
     exact ⟨rfl, Below.refl _ _⟩
theorem get_at2 (s : ByteArray) (j : Nat) (h : j < s.size) : (s.get! j) = s[j]'h := by
 simp [ByteArray.get!, getElem!_pos, h]
 rfl
theorem dec_cont (s : ByteArray) (pos : Nat) (h : pos < s.size) (hh : 128 <= (s[pos]'h).toNat) : ∀ j, pos < j -> j < pos + (Utf8.decode s pos).2 -> ∃ hj : j < s.size, 128 <= (s[j]'hj).toNat := by
 have hn : ¬ (s[pos]'h).toNat < 128 := by omega
 have key : ∀ k, (decide (pos + k < s.size) && (s.get! (pos + k)).toNat / 64 == 2) = true -> ∃ hj : pos + k < s.size, 128 <= (s[pos + k]'hj).toNat := fun k hk => by
  simp only [Bool.and_eq_true, decide_eq_true_eq, beq_iff_eq] at hk
  refine ⟨hk.1, ?_⟩
  rw [<- get_at2 s _ hk.1]
  omega
 intro j h1 h2
 obtain ⟨k, rfl⟩ : ∃ k, j = pos + k := ⟨j - pos, by omega⟩
 have e0 : s.get! (pos + 0) = s[pos]'h := get_at2 s pos h
 simp only [Utf8.decode, e0, hn, if_false] at h2
 split at h2
 ·rename_i c1
  split at h2
  ·have : k = 1 := by omega
   subst this
   exact key 1 (by simp only [Bool.and_eq_true] at c1 ⊢; exact c1.2)
  ·exfalso; omega
 ·split at h2
  ·rename_i c1
   split at h2
   ·have : k = 1 \/ k = 2 := by omega
    simp only [Bool.and_eq_true] at c1 key
    rcases this with rfl | rfl
    ·exact key 1 c1.1.2
    ·exact key 2 c1.2
   ·exfalso; omega
  ·split at h2
   ·rename_i c1
    split at h2
    ·have : k = 1 \/ k = 2 \/ k = 3 := by omega
     simp only [Bool.and_eq_true] at c1 key
     rcases this with rfl | rfl | rfl
     ·exact key 1 c1.1.1.2
     ·exact key 2 c1.1.2
     ·exact key 3 c1.2
    ·exfalso; omega
   ·exfalso; omega
theorem has_sl (x : UInt8) : sl.data.toList.contains x = nulB x := by
 unfold sl nulB
 simp [List.contains, List.elem]
 cases h : x == 0 <;> cases h2 : x == 47 <;> simp
theorem hi_sl {x : UInt8} (h : 128 <= x.toNat) : sl.data.toList.contains x = false := by
 rw [has_sl, nulB]
 have h0 : x ≠ 0 := fun e => by subst e; simp at h
 have h1 : x ≠ 47 := fun e => by subst e; simp at h
 simp [h0, h1]
theorem any_of : ∀ l : List UInt8, decide (0 <= Lib.indexAny l sl.data.toList) = l.any nulB
 | [] => rfl
 | b :: l => by
  have ih := any_of l
  have hg := Lib.indexAny_ge sl.data.toList l
  rw [List.any_cons, Lib.indexAny, <- ih, <- has_sl]
  cases h : sl.data.toList.contains b
  ·by_cases h2 : Lib.indexAny l sl.data.toList = -1
   ·simp [h2]
   ·have h3 : (Lib.indexAny l sl.data.toList == -1) = false := by simpa using h2
    simp only [h3, Bool.false_or, Bool.false_eq_true, if_false]
    exact decide_eq_decide.2 (by omega)
  ·simp
theorem no_more {s : ByteArray} {pos : Nat} (h : pos < s.size) (hn : Lib.NoAny s.data.toList sl.data.toList pos) (hh : 128 <= (s[pos]'h).toNat) : Lib.NoAny s.data.toList sl.data.toList (pos + (Utf8.decode s pos).2) := fun j b hj hb => by
 by_cases h1 : j < pos
 ·exact hn j b h1 hb
 ·by_cases h2 : j = pos
  ·subst h2
   rw [show s.data.toList[j]? = some s[j] from Lib.data_getElem? s j h] at hb
   cases hb
   exact hi_sl hh
  ·obtain ⟨hj2, hb2⟩ := dec_cont s pos h hh j (by omega) hj
   rw [show s.data.toList[j]? = some s[j] from Lib.data_getElem? s j hj2] at hb
   cases hb
   exact hi_sl hb2
theorem wid_in {s : ByteArray} {pos : Nat} (h : pos < s.size) (hh : 128 <= (s[pos]'h).toNat) : pos + (Utf8.decode s pos).2 <= s.size := by
 have h1 := (decode_high s pos h hh).2
 by_cases c : (Utf8.decode s pos).2 = 1
 ·omega
 ·obtain ⟨hj, _⟩ := dec_cont s pos h hh (pos + (Utf8.decode s pos).2 - 1) (by omega) (by omega)
  omega
def IterAt (W : World) (b : Nat) (s : ByteArray) (pos : Nat) : Prop := W.heap[b]? = some (.stringIter s pos)
theorem next_gen {W : World} {b : Nat} {s : ByteArray} {pos : Nat} (hW : IterAt W b s pos) (h : pos < s.size) {B : Nat} (hB : B <= b) (hl : B <= W.heap.size) : ∃ W1, (∀ ty, (Instr.next (.pointer (some ⟨b, 0, none⟩)) true ty).run Tryz.prog W = .ok (.tuple #[.bool true, .int .i64 pos, .int .i32 (Utf8.decode s pos).1]) W1) /\ IterAt W1 b s (pos + (Utf8.decode s pos).2) /\ Below B W W1 := by
 have hb : b < W.heap.size := (Array.getElem?_eq_some_iff.1 hW).1
 refine ⟨{ W with heap := W.heap.setIfInBounds b (.stringIter s (pos + (Utf8.decode s pos).2)) }, fun ty => ?_, ?_, ?_⟩
 ·unfold IterAt at hW
  simp only [Instr.next, getObj, setObj, Sem.run_bind, Sem.run, hW, Result.andThen, h, if_true]
  simp [goInt]
 ·unfold IterAt
  simp [hb]
 ·exact ⟨rfl, rfl, rfl, by simp, fun k hk => by simp only [Array.getElem?_setIfInBounds]; rw [if_neg (by omega)]⟩
theorem next_done {W : World} {b : Nat} {s : ByteArray} {pos : Nat} (hW : IterAt W b s pos) (h : ¬ pos < s.size) (ty : TypeId) : (Instr.next (.pointer (some ⟨b, 0, none⟩)) true ty).run Tryz.prog W = .ok (.tuple #[.bool false]) W := by
 unfold IterAt at hW
 simp [Instr.next, getObj, Sem.run, hW, h]
theorem iter_below {W W' : World} {b : Nat} {s : ByteArray} {pos : Nat} (h : IterAt W b s pos) (hb : Below W.heap.size W W') : IterAt W' b s pos := by
 have hl : b < W.heap.size := (Array.getElem?_eq_some_iff.1 h).1
 exact (hb.block b hl).trans h
theorem index_any (s : ByteArray) (hs : s.size <= 1048576) (w : World) :
  Calls Tryz.prog 198 #[.string s, .string sl] w fun e w' => e = .returned (.int .i64 (Lib.indexAny s.data.toList sl.data.toList)) /\ Below w.heap.size w w' := by
 by_cases h8 : 8 < s.size
 ·refine (Tryz.strings_IndexAny_long (fun w => by kernel_rfl) s sl w (by decide) h8 (by omega) (by decide) (fun j b hb => ?_)).mono ?_
  ·have hj : j < 2 := (List.getElem?_eq_some_iff.1 hb).1
   obtain rfl | rfl : j = 0 \/ j = 1 := by omega
   ·cases hb; decide
   ·cases hb; decide
  ·rintro e w' ⟨rfl, rfl⟩
   exact ⟨rfl, ((Below.refl w.heap.size w).alloc (Nat.le_refl _) _).alloc (by simp) _⟩
 ·have h8z : decide ((8 : Int) < (s.size : Int)) = false := decide_eq_false (by omega)
  have hemp : (⟨#[0, 47]⟩ : ByteArray).toList.isEmpty = false := by rw [Lib.toList_data]; rfl
  have HSL := Lib.hid (show sl.data.toList = [0, 47] from rfl)
  obtain ⟨L, hL⟩ : ∃ L, L = sl.data.toList := ⟨_, rfl⟩
  have HHI := Lib.hid (fun r h W => rune_hi r h W)
  have HLO := Lib.hid (fun (r : Int) (h0 : 0 <= r) (h1 : r < 128) W => Tryz.strings_IndexRune_ascii sl r W h0 h1)
  unfold sl at HHI HLO
  go_enter Tryz.func198, Tryz.ntmps198
  unfold sl
  go_wp2_with (go_at_call 223; refine (Tryz.strings_shouldUseASCIISet _ _).mono ?_; rintro e w' ⟨rfl, hw⟩; have hw2 := hw.symm; clear hw; subst hw2; rw [h8z])
  go_loopw [] (fun wr => ∃ pos : Nat, IterAt wr w.heap.size s pos /\ pos <= s.size /\ Lib.NoAny s.data.toList sl.data.toList pos /\ Below w.heap.size w wr) (fun wr => s.size - wr.iterPos w.heap.size)
  case atStart => exact ⟨0, w.iter_heap s 0, Nat.zero_le _, Lib.NoAny.zero _ _, (Below.refl _ _).alloc (Nat.le_refl _) _⟩
  case round =>
   obtain ⟨pos, hit, hpos, hno, hbel⟩ := hrel
   have HM := Lib.hid (show wr.iterPos w.heap.size = pos from by unfold World.iterPos; rw [hit])
   have HNO := Lib.hid hno
   have HBE := Lib.hid hbel
   by_cases hp : pos < s.size
   ·obtain ⟨W1, hnx, hit1, hb1⟩ := next_gen hit hp (Nat.le_refl w.heap.size) hbel.size
    have HIT := Lib.hid hit1
    have HB1 := Lib.hid (hbel.trans hb1)
    have hsz1 := hb1.size
    have hszw := hbel.size
    clear hit hit1 hb1 hno hbel
    by_cases ha : (s[pos]'hp).toNat < 128
    ·rw [decode_ascii s pos hp ha] at hnx HIT
     obtain ⟨x, hx⟩ : ∃ x : UInt8, s[pos]'hp = x := ⟨_, rfl⟩
     have hxl : s.data.toList[pos]? = some x := by rw [<- hx]; exact Lib.data_getElem? s pos hp
     rw [hx] at hnx ha
     have hcon := Lib.contains_iff_indexByte sl.data.toList x
     have hback : ((x.toNat : Int)).toNat.toUInt8 = x := by simp
     have HCA := Lib.hid (HLO.out (x.toNat : Int) (by omega) (by omega) W1)
     rw [hback] at HCA
     have HXL := Lib.hid hxl
     dsimp only at hnx HIT
     cases hin : sl.data.toList.contains x
     ·rw [hin] at hcon
      have hlt : ¬ ((0 : Int) <= Lib.indexByte [0, 47] x) := of_decide_eq_false hcon.symm
      have HIN := Lib.hid hin
      clear hcon hxl hx hback hin
      go_wp2_with fail
      refine HCA.out.mono ?_
      rintro e w' ⟨rfl, hw⟩
      have hw2 := hw.symm
      clear hw
      subst hw2
      generalize Lib.indexByte [0, 47] x = ib at hlt ⊢
      go_wp2
      go_roundw
      case rel => exact ⟨pos + 1, HIT.out, by omega, HNO.out.succ HXL.out HIN.out, HB1.out⟩
      case measure => rw [HM.out, show W1.iterPos w.heap.size = pos + 1 from by unfold World.iterPos; rw [HIT.out]]; omega
     ·rw [hin] at hcon
      have hge : (0 : Int) <= Lib.indexByte [0, 47] x := of_decide_eq_true hcon.symm
      have HIN := Lib.hid hin
      clear hcon hxl hx hback hin
      go_wp2_with fail
      refine HCA.out.mono ?_
      rintro e w' ⟨rfl, hw⟩
      have hw2 := hw.symm
      clear hw
      subst hw2
      generalize Lib.indexByte [0, 47] x = ib at hge ⊢
      go_wp2
      go_ret
      exact ⟨ret_int (Lib.indexAny_hit HNO.out HXL.out HIN.out).symm, HB1.out⟩
    ·have hi : 128 <= (s[pos]'hp).toNat := by omega
     have hd := decode_high s pos hp hi
     have HNX := Lib.hid (no_more hp HNO.out hi)
     have HWI := Lib.hid (wid_in hp hi)
     have HW1 := Lib.hid hd.2
     have HCA := Lib.hid (HHI.out ((Utf8.decode s pos).1 : Int) (by omega) W1)
     clear hd hi ha
     generalize (Utf8.decode s pos).1 = rr at hnx HCA
     generalize (Utf8.decode s pos).2 = wd at HIT HNX HWI HW1
     go_wp2_with fail
     refine HCA.out.mono ?_
     rintro e w' ⟨rfl, hb⟩
     have HI2 := Lib.hid (iter_below HIT.out hb)
     have HB2 := Lib.hid (HB1.out.trans (hb.mono HB1.out.size))
     clear hb
     go_wp2
     go_roundw
     case rel => exact ⟨pos + wd, HI2.out, HWI.out, HNX.out, HB2.out⟩
     case measure => rw [HM.out, show w'.iterPos w.heap.size = pos + wd from by unfold World.iterPos; rw [HI2.out]]; have := HW1.out; omega
   ·have hnx : ∀ ty, (Instr.next (.pointer (some ⟨w.heap.size, 0, none⟩)) true ty).run Tryz.prog wr = _ := fun ty => next_done hit hp ty
    clear hit hno hbel
    go_wp2
    go_ret
    exact ⟨ret_int (by rw [Lib.indexAny_none]; exact fun j b hj hb => HNO.out j b (by simp at hj; omega) hb), HBE.out⟩
theorem contains_any (s : ByteArray) (hs : s.size <= 1048576) (w : World) :
  Calls Tryz.prog 157 #[.string s, .string ⟨#[0, 47]⟩] w fun e w' => e = .returned (.bool (s.data.toList.any nulB)) /\ Below w.heap.size w w' := by
 have HIA := Lib.hid (fun W => index_any s hs W)
 unfold sl at HIA
 have HAN := Lib.hid (any_of s.data.toList)
 unfold sl at HAN
 go_enter Tryz.func157, Tryz.ntmps157
 go_wp2_with fail
 refine (HIA.out _).mono ?_
 rintro e w' ⟨rfl, hb⟩
 have HB := Lib.hid hb
 clear hb
 generalize Lib.indexAny s.data.toList [0, 47] = q at HAN ⊢
 go_wp2
 go_ret
 exact ⟨by rw [<- HAN.out]; rfl, HB.out⟩
end Go.Proofs.YthppbcnejapbiaaGreatDoor.EnC

-- YthppbcnejapbiaaGreatDoorEnN
/- A part. -/
namespace Go.Proofs.YthppbcnejapbiaaGreatDoor.EnN
set_option maxHeartbeats 1600000
set_option maxRecDepth 100000
open Go.ChangeShapes Go.WideShapes Go.ChangeAt Go.RowKit
open EnC (nulB)
set_option linter.unusedVariables false
theorem ret_bool {a b : Bool} (h : a = b) : Ending.returned (.bool a) = .returned (.bool b) := by rw [h]
def dot1 (s : ByteArray) : Bool := s.toList == [46]
def dot2 (s : ByteArray) : Bool := s.toList == [46, 46]
def nameB (s : ByteArray) : Bool := decide (1 <= s.size) && decide (s.size <= 12) && !s.data.toList.any nulB && !dot1 s && !dot2 s
theorem name_impl (s : ByteArray) (hs : s.size <= 1048576) (w : World) :
  Calls Tryz.prog 111 #[.string s] w fun e w' => e = .returned (.bool (nameB s)) /\ Below w.heap.size w w' := by
 have HC := Lib.hid (fun W => EnC.contains_any s hs W)
 by_cases h0 : s.size = 0
 ·have HV := Lib.hid (show nameB s = false from by unfold nameB; rw [decide_eq_false (by omega)]; rfl)
  have e1 := IsName.emp_true s h0
  have e2 : s.toList = [] := List.isEmpty_iff.1 e1
  clear h0
  go_enter Tryz.func111, Tryz.ntmps111
  go_wp2
  go_ret
  exact ⟨ret_bool HV.out.symm, Below.refl _ _⟩
 ·have e1 := IsName.emp_false s h0
  have e2 : (!s.toList.isEmpty) = true := by rw [e1]; rfl
  by_cases h12 : s.size <= 12
  ·have q12 : decide ((12 : Int) < (s.size : Int)) = false := decide_eq_false (by omega)
   cases ha : s.data.toList.any nulB
   ·have HV := Lib.hid (show nameB s = (!dot1 s && !dot2 s) from by unfold nameB; rw [decide_eq_true (by omega), decide_eq_true h12, ha]; rfl)
    rw [ha] at HC
    clear ha h0 h12
    unfold dot1 dot2 at HV
    go_enter Tryz.func111, Tryz.ntmps111
    go_wp2_with fail
    refine (HC.out _).mono ?_
    rintro e w1 ⟨rfl, hb⟩
    have HB := Lib.hid hb
    clear hb
    by_cases h1 : s.toList = [46]
    ·have HV2 := Lib.hid (show nameB s = false from by rw [HV.out, h1]; rfl)
     clear HV
     go_wp2
     go_ret
     exact ⟨ret_bool HV2.out.symm, HB.out⟩
    ·have q1 : (s.toList == [46]) = false := by simpa using h1
     cases h2 : (s.toList == [46, 46])
     ·rw [q1, h2] at HV
      go_wp2
      go_ret
      exact ⟨ret_bool HV.out.symm, HB.out⟩
     ·rw [q1, h2] at HV
      go_wp2
      go_ret
      exact ⟨ret_bool HV.out.symm, HB.out⟩
   ·have HV := Lib.hid (show nameB s = false from by unfold nameB; rw [ha]; simp)
    rw [ha] at HC
    clear ha h0 h12
    go_enter Tryz.func111, Tryz.ntmps111
    go_wp2_with fail
    refine (HC.out _).mono ?_
    rintro e w1 ⟨rfl, hb⟩
    have HB := Lib.hid hb
    clear hb
    go_wp2
    go_ret
    exact ⟨ret_bool HV.out.symm, HB.out⟩
  ·have q12 : decide ((12 : Int) < (s.size : Int)) = true := decide_eq_true (by omega)
   have HV := Lib.hid (show nameB s = false from by unfold nameB; rw [decide_eq_false h12]; simp)
   clear h0 h12
   go_enter Tryz.func111, Tryz.ntmps111
   go_wp2
   go_ret
   exact ⟨ret_bool HV.out.symm, Below.refl _ _⟩
def upto (s : ByteArray) (k : Nat) : Prop := (s.data.toList.take k).any nulB = false
theorem upto_succ (s : ByteArray) (k : Nat) (h : k < s.size) (hu : upto s k) (hd : nulB s[k] = false) : upto s (k + 1) := by
 unfold upto at *
 rw [List.take_succ_eq_append_getElem (by simpa using h), List.any_append, hu]
 have : s.data.toList[k]'(by simpa using h) = s[k] := rfl
 simp [this, hd]
theorem any_at (s : ByteArray) (k : Nat) (h : k < s.size) (hd : nulB s[k] = true) : s.data.toList.any nulB = true := by
 rw [List.any_eq_true]
 have : s.data.toList[k]'(by simpa using h) = s[k] := rfl
 exact ⟨s[k], by rw [<- this]; exact List.getElem_mem _, hd⟩
theorem upto_end (s : ByteArray) (k : Nat) (h : s.size <= k) (hu : upto s k) : s.data.toList.any nulB = false := by
 unfold upto at hu
 rwa [List.take_of_length_le (by simpa using h)] at hu
theorem in_spec (n a b : Int) (w : World) : Calls Tryz.prog 103 #[.int .i64 n, .int .i64 a, .int .i64 b] w fun e w' => e = .returned (.bool (decide (a <= n) && decide (n <= b))) /\ w = w' := by
 by_cases h1 : a <= n
 ·have q1 : decide (a <= n) = true := decide_eq_true h1
  go_enter Tryz.func103, Tryz.ntmps103
  go_wp2
  go_ret
  exact ⟨ret_bool (by simp [h1]), rfl⟩
 ·have q1 : decide (a <= n) = false := decide_eq_false h1
  go_enter Tryz.func103, Tryz.ntmps103
  go_wp2
  go_ret
  exact ⟨ret_bool (by simp), rfl⟩
theorem name_spec (s : ByteArray) (hs : s.size <= 1048576) (w : World) :
  Calls Tryz.prog 104 #[.string s] w fun e w' => e = .returned (.bool (nameB s)) /\ w = w' := by
 have HI := Lib.hid (fun W => in_spec s.size 1 12 W)
 by_cases hz : 1 <= s.size /\ s.size <= 12
 ·rw [decide_eq_true (show (1 : Int) <= (s.size : Int) by omega), decide_eq_true (show (s.size : Int) <= 12 by omega)] at HI
  by_cases h1 : s.toList = [46]
  ·have HV := Lib.hid (show nameB s = false from by unfold nameB dot1; rw [h1]; simp)
   go_enter Tryz.func104, Tryz.ntmps104
   go_wp2_with fail
   refine (HI.out _).mono ?_
   rintro e w1 ⟨rfl, rfl⟩
   rw [show (true && true) = true from rfl]
   go_wp2
   go_ret
   exact ⟨ret_bool HV.out.symm, rfl⟩
  ·have q1 : (s.toList == [46]) = false := by simpa using h1
   by_cases h2 : s.toList = [46, 46]
   ·have HV := Lib.hid (show nameB s = false from by unfold nameB dot2; rw [h2]; simp)
    go_enter Tryz.func104, Tryz.ntmps104
    go_wp2_with fail
    refine (HI.out _).mono ?_
    rintro e w1 ⟨rfl, rfl⟩
    rw [show (true && true) = true from rfl]
    go_wp2
    go_ret
    exact ⟨ret_bool HV.out.symm, rfl⟩
   ·have q2 : (s.toList == [46, 46]) = false := by simpa using h2
    have HV := Lib.hid (show nameB s = !s.data.toList.any nulB from by unfold nameB dot1 dot2; rw [q1, q2, decide_eq_true hz.1, decide_eq_true hz.2]; simp)
    go_enter Tryz.func104, Tryz.ntmps104
    go_wp2_with fail
    refine (HI.out _).mono ?_
    rintro e w1 ⟨rfl, rfl⟩
    rw [show (true && true) = true from rfl]
    go_wp2
    clear h1 h2 q1 q2
    go_loop [3] (fun i => ∃ k : Nat, k <= s.size /\ i = .int .i64 k /\ upto s k) (fun i => s.size - (intOf i).toNat)
    case atStart => exact ⟨0, Nat.zero_le _, rfl, rfl⟩
    case round =>
     obtain ⟨k, hk, rfl, hu⟩ := hrel
     have HU := Lib.hid hu
     clear hu
     by_cases hlt : k < s.size
     ·by_cases h1 : (s[k].toNat : Int) = 0
      ·have HN := Lib.hid (any_at s k hlt (by simp [nulB]; left; exact UInt8.toNat_inj.1 (by simpa using h1)))
       go_wp2
       go_ret
       exact ⟨ret_bool (by rw [HV.out, HN.out]; rfl), rfl⟩
      ·by_cases h2 : (s[k].toNat : Int) = 47
       ·have HN := Lib.hid (any_at s k hlt (by simp [nulB]; right; exact UInt8.toNat_inj.1 (by simp; omega)))
        go_wp2
        go_ret
        exact ⟨ret_bool (by rw [HV.out, HN.out]; rfl), rfl⟩
       ·have HN := Lib.hid (upto_succ s k hlt HU.out (by
         unfold nulB
         have e1 : s[k] ≠ 0 := fun e => h1 (by rw [e]; rfl)
         have e2 : s[k] ≠ 47 := fun e => h2 (by rw [e]; rfl)
         simp [e1, e2]))
        have q0 : ((s[k].toNat : Int) == 0) = false := by simpa using h1
        have q47 : ((s[k].toNat : Int) == 47) = false := by simpa using h2
        have n0 : ¬ s[k].toNat = 0 := by omega
        have n47 : ¬ s[k].toNat = 47 := by omega
        go_wp2
        go_round
        case rel => exact ⟨k + 1, by omega, by go_num, HN.out⟩
        case measure => simp [intOf]; omega
     ·have HN := Lib.hid (upto_end s k (by omega) HU.out)
      go_wp2
      go_ret
      exact ⟨ret_bool (by rw [HV.out, HN.out]; rfl), rfl⟩
 ·have HV := Lib.hid (show nameB s = false from by
   unfold nameB
   by_cases h1 : 1 <= s.size
   ·rw [decide_eq_false (show ¬ s.size <= 12 by omega)]; simp
   ·rw [decide_eq_false h1]; rfl)
  have hn : (decide ((1 : Int) <= (s.size : Int)) && decide ((s.size : Int) <= 12)) = false := by
   rw [Bool.and_eq_false_iff]
   by_cases h1 : 1 <= s.size
   ·exact .inr (decide_eq_false (by omega))
   ·exact .inl (decide_eq_false (by omega))
  rw [hn] at HI
  clear hn
  go_enter Tryz.func104, Tryz.ntmps104
  go_wp2_with fail
  refine (HI.out _).mono ?_
  rintro e w1 ⟨rfl, rfl⟩
  go_wp2
  go_ret
  exact ⟨ret_bool HV.out.symm, rfl⟩
end Go.Proofs.YthppbcnejapbiaaGreatDoor.EnN

-- YthppbcnejapbiaaGreatDoorEnV
/- A part. -/
namespace Go.Proofs.YthppbcnejapbiaaGreatDoor.EnV
open Nums (putB lowL byteN getL)
open PadTo (padB)
open EnN (nameB)
open EnC (nulB)
open FsV FsY
set_option linter.unusedVariables false
def recB (nm : ByteArray) (i : Int) : ByteArray := padB (putB (i + 1) 2 ++ putB nm.size 1 ++ nm) 16
theorem name_facts {s : ByteArray} (h : nameB s = true) : 1 <= s.size /\ s.size <= 12 /\ ∀ c ∈ s.data.toList, c ≠ 0 := by
 unfold nameB at h
 simp only [Bool.and_eq_true, decide_eq_true_eq, Bool.not_eq_true'] at h
 obtain ⟨⟨⟨⟨h1, h2⟩, h3⟩, _⟩, _⟩ := h
 refine ⟨h1, h2, fun c hc e => ?_⟩
 rw [List.any_eq_false] at h3
 exact h3 c hc (by rw [e]; rfl)
theorem ba_len (s : ByteArray) : s.data.toList.length = s.size := by simp
theorem rec_data {nm : ByteArray} {i : Int} (hn : nm.size <= 12) (h0 : 0 <= i) (h1 : i <= 1000) : (recB nm i).data.toList = byteN (i + 1).toNat 1 :: byteN (i + 1).toNat 0 :: byteN nm.size 0 :: (nm.data.toList ++ List.replicate (13 - nm.size) 0) := by
 obtain ⟨k, rfl⟩ : ∃ k : Nat, i = k := ⟨i.toNat, by omega⟩
 have e1 : putB ((k : Int) + 1) 2 = ⟨(lowL (k + 1) 2).toArray⟩ := by
  have := Nums.putB_yes (k + 1) 2 (by simp [Nums.fitsB]; omega)
  exact this
 have e2 : putB (nm.size : Int) 1 = ⟨(lowL nm.size 1).toArray⟩ := Nums.putB_yes nm.size 1 (by simp [Nums.fitsB]; omega)
 have hsz : (putB ((k : Int) + 1) 2 ++ putB (nm.size : Int) 1 ++ nm).size = 3 + nm.size := by
  rw [e1, e2, ByteArray.size_append, ByteArray.size_append]
  show (lowL (k + 1) 2).toArray.size + (lowL nm.size 1).toArray.size + nm.size = _
  simp [Nums.lowL_length]
 unfold recB
 rw [PadTo.padB_at _ _ (13 - nm.size) (by decide) (by rw [hsz]; show _ = (16 : Int).toNat - _; omega)]
 show PadTo.zend _ _ = _
 unfold PadTo.zend
 rw [e1, e2, ByteArray.data_append, ByteArray.data_append, Array.toList_append, Array.toList_append]
 show lowL (k + 1) 2 ++ lowL nm.size 1 ++ nm.data.toList ++ _ = _
 have e3 : ((k : Int) + 1).toNat = k + 1 := by omega
 rw [e3]
 simp [lowL]
theorem rec_size {nm : ByteArray} {i : Int} (hn : nm.size <= 12) (h0 : 0 <= i) (h1 : i <= 1000) : (recB nm i).size = 16 := by
 rw [<- ba_len, rec_data hn h0 h1]
 simp; omega
def numI (r : ByteArray) : Nat := getL (GetNumber.seg r 0 2)
def lenI (r : ByteArray) : Nat := (r.data.toList.getD 2 0).toNat
def entB (r : ByteArray) : Option (ByteArray × Int) :=
 if (1 <= numI r /\ numI r <= 20) /\ lenI r <= 12 then
  if nameB (r.extract 3 (3 + lenI r)) = true /\ recB (r.extract 3 (3 + lenI r)) ((numI r : Int) - 1) = r then some (r.extract 3 (3 + lenI r), (numI r : Int) - 1) else none
 else none
def trimN (r : ByteArray) : ByteArray := ⟨(Lib.trimRightB (r.data.toList.drop 3) 0).toArray⟩
def entP (r : ByteArray) : Option (ByteArray × Int) :=
 if nameB (trimN r) = true /\ (1 <= numI r /\ numI r <= 20) /\ recB (trimN r) ((numI r : Int) - 1) = r then some (trimN r, (numI r : Int) - 1) else none
theorem trim_rep (l : List UInt8) (m : Nat) (h : l ≠ [] -> ∀ c ∈ l, c ≠ 0) : Lib.trimRightB (l ++ List.replicate m 0) 0 = l := by
 rw [<- Lib.trimRightS_one, Lib.trimRightS_take _ _ l.length (by simp) (fun j b hj hb => ?_) (fun b hb hb2 => ?_)]
 ·simp
 ·rw [List.getElem?_append_right hj, List.getElem?_replicate] at hb
  split at hb
  ·cases hb; rfl
  ·cases hb
 ·rw [List.getElem?_append_left (by omega)] at hb2
  have hm := List.mem_of_getElem? hb2
  have := h (by intro e; rw [e] at hm; cases hm) b hm
  rw [Lib.contains_one]
  simpa using this
theorem ext_data (r : ByteArray) (a b : Nat) : (r.extract a b).data.toList = (r.data.toList.take b).drop a := by
 rw [ByteArray.data_extract, Array.toList_extract, List.extract_eq_drop_take', List.drop_take]
theorem len_of_rec {nm : ByteArray} {i : Int} {r : ByteArray} (hn : nm.size <= 12) (h0 : 0 <= i) (h1 : i <= 1000) (h : recB nm i = r) : lenI r = nm.size /\ r.extract 3 (3 + lenI r) = nm := by
 have hd := rec_data hn h0 h1
 rw [h] at hd
 have hl : lenI r = nm.size := by
  unfold lenI
  rw [hd]
  show (byteN nm.size 0).toNat = _
  rw [Nums.byteN_toNat]
  simp; omega
 refine ⟨hl, ?_⟩
 apply ByteArray.ext
 apply Array.toList_inj.1
 rw [ext_data, hl, hd, show 3 + nm.size = nm.size + 1 + 1 + 1 from by omega, List.take_succ_cons, List.take_succ_cons, List.take_succ_cons, List.drop_succ_cons, List.drop_succ_cons, List.drop_succ_cons, List.drop_zero, List.take_append_of_le_length (by rw [ba_len]; exact Nat.le_refl _), List.take_of_length_le (by rw [ba_len]; exact Nat.le_refl _)]
theorem ent_eq (r : ByteArray) : entB r = entP r := by
 unfold entB entP
 by_cases hi : 1 <= numI r /\ numI r <= 20
 ·by_cases hp : nameB (trimN r) = true /\ recB (trimN r) ((numI r : Int) - 1) = r
  ·have hf := name_facts hp.1
   obtain ⟨e1, e2⟩ := len_of_rec hf.2.1 (by omega) (by omega) hp.2
   rw [if_pos ⟨hi, by omega⟩, e2, if_pos hp, if_pos ⟨hp.1, hi, hp.2⟩]
  ·rw [if_neg (show ¬ (nameB (trimN r) = true /\ (1 <= numI r /\ numI r <= 20) /\ recB (trimN r) ((numI r : Int) - 1) = r) from fun h => hp ⟨h.1, h.2.2⟩)]
   by_cases hl : lenI r <= 12
   ·rw [if_pos ⟨hi, hl⟩, if_neg]
    rintro ⟨h1, h2⟩
    have hf := name_facts h1
    have hd := rec_data hf.2.1 (by omega) (by omega) (i := (numI r : Int) - 1) (nm := r.extract 3 (3 + lenI r))
    rw [h2] at hd
    have ht : trimN r = r.extract 3 (3 + lenI r) := by
     apply ByteArray.ext
     apply Array.toList_inj.1
     unfold trimN
     show Lib.trimRightB _ _ = _
     conv => lhs; rw [hd]
     show Lib.trimRightB ((r.extract 3 (3 + lenI r)).data.toList ++ _) 0 = _
     exact trim_rep _ _ (fun _ => hf.2.2)
    exact hp ⟨by rw [ht]; exact h1, by rw [ht]; exact h2⟩
   ·rw [if_neg (fun h => hl h.2)]
 ·rw [if_neg (fun h => hi h.1), if_neg (fun h => hi h.2.1)]
def entsL (c : List UInt8) (k : Nat) : List (ByteArray × Int) := (List.range k).filterMap fun j => entB ⟨((c.drop (16 * j)).take 16).toArray⟩
theorem ents_succ (c : List UInt8) (k : Nat) : entsL c (k + 1) = entsL c k ++ (match entB ⟨((c.drop (16 * k)).take 16).toArray⟩ with | some e => [e] | none => []) := by
 unfold entsL
 rw [List.range_succ, List.filterMap_append]
 congr 1
 simp only [List.filterMap_cons, List.filterMap_nil]
 cases entB ⟨((c.drop (16 * k)).take 16).toArray⟩ <;> rfl
def entsV (f : F) (i : Nat) : List (ByteArray × Int) := entsL (content f.data (ino f i).blocks) ((ino f i).size.toNat / 16)
end Go.Proofs.YthppbcnejapbiaaGreatDoor.EnV

-- YthppbcnejapbiaaGreatDoorEnO
/- A part. -/
namespace Go.Proofs.YthppbcnejapbiaaGreatDoor.EnO
set_option maxHeartbeats 1600000
set_option maxRecDepth 100000
open Go.ChangeShapes Go.WideShapes Go.ChangeAt Go.RowKit
open Foot Bx
open Nums (putB)
open PadTo (padB ret_str)
open EnV
set_option linter.unusedVariables false
theorem put_le (n : Int) (k : Nat) : (putB n k).size <= k := by
 unfold putB
 split
 ·show (Nums.lowL _ _).toArray.size <= _
  simp [Nums.lowL_length]
 ·exact Nat.zero_le _
theorem num_impl (i : Int) (w : World) : Calls Tryz.prog 112 #[.int .i64 i] w fun e w' => e = .returned (.bool (decide (0 <= i) && decide (i < 20))) /\ w = w' := by
 by_cases h1 : 0 <= i
 ·have q1 : decide (0 <= i) = true := decide_eq_true h1
  go_enter Tryz.func112, Tryz.ntmps112
  go_wp2
  go_ret
  exact ⟨EnN.ret_bool (by simp [h1]), rfl⟩
 ·have q1 : decide (0 <= i) = false := decide_eq_false h1
  go_enter Tryz.func112, Tryz.ntmps112
  go_wp2
  go_ret
  exact ⟨EnN.ret_bool (by simp), rfl⟩
theorem rec_impl (s : ByteArray) (i : Int) (w : World) (hs : s.size <= 12) (h0 : 0 <= i) (h1 : i <= 1000) :
  Calls Tryz.prog 66 #[.agg #[.string s, .int .i64 i]] w fun e w' => e = .returned (.string (recB s i)) /\ Below w.heap.size w w' := by
 have HB0 := (Below.refl w.heap.size w).alloc (Nat.le_refl _) (.cells #[.string s, .int .i64 i] 75)
 have HX0 := new w #[.string s, .int .i64 i] 75
 have hP := put_le (i + 1) 2
 have hQ := put_le s.size 1
 have HP := Lib.hid (fun W => PutNumber.impl_any (i + 1) 2 W (by omega) (by omega))
 have HQ := Lib.hid (fun W => PutNumber.impl_any s.size 1 W (by omega) (by omega))
 obtain ⟨P, hPe⟩ : ∃ P, P = putB (i + 1) 2 := ⟨_, rfl⟩
 obtain ⟨Q, hQe⟩ : ∃ Q, Q = putB s.size 1 := ⟨_, rfl⟩
 rw [show ((2 : Nat) : Int) = 2 from rfl, <- hPe] at hP
 rw [show ((1 : Nat) : Int) = 1 from rfl, <- hQe] at hQ
 rw [<- hPe] at HP
 rw [<- hQe] at HQ
 have hz1 : (9223372036854775807 < P.size + Q.size) = False := eq_false (by omega)
 have hz2 : (9223372036854775807 < (P ++ Q).size + s.size) = False := eq_false (by rw [ByteArray.size_append]; omega)
 have hz3 : (9223372036854775807 < P.size + Q.size + s.size) = False := eq_false (by omega)
 have HD := Lib.hid (fun W => PadTo.impl_any (P ++ Q ++ s) 16 W (by rw [ByteArray.size_append, ByteArray.size_append]; omega) (by decide))
 have HV := Lib.hid (show padB (P ++ Q ++ s) 16 = recB s i from by rw [hPe, hQe]; rfl)
 clear hPe hQe
 have hw1 : IntKind.i64.wrap (i + 1) = i + 1 := IntWalk.i64_in _ (by omega)
 go_enter Tryz.func66, Tryz.ntmps66
 go_wp2
 generalize w.alloc (.cells #[.string s, .int .i64 i] 75) = w0 at *
 obtain ⟨c0, c1⟩ := Bk.two HX0
 have HX := Lib.hid (show Bk w0.drew w.heap.size #[.string s, .int .i64 i] 75 from HX0)
 have HB := Lib.hid (HB0.drew)
 clear HX0 HB0
 go_region_held3 (fun w' => w'.cell? ⟨w.heap.size, 0, none⟩ = some (.string s) /\ w'.cell? ⟨w.heap.size, 1, none⟩ = some (.int .i64 i)) (first | with_reducible exact Bk.two HX.out | with_reducible exact ⟨c0, c1⟩ | go_keep)
  (first
   | (go_at_call 125; (first | ((with_reducible refine (HP.out _).mono ?_); rintro e w5 ⟨rfl, hb⟩; replace HX := Lib.hid (Bk.all HX.out hb); replace HB := Lib.hid (HB.out.trans (hb.mono HB.out.size)); clear hb) | ((with_reducible refine (HQ.out _).mono ?_); rintro e w5 ⟨rfl, hb⟩; replace HX := Lib.hid (Bk.all HX.out hb); replace HB := Lib.hid (HB.out.trans (hb.mono HB.out.size)); clear hb)))
   | (go_at_call 124; (with_reducible refine (HD.out _).mono ?_); rintro e w5 ⟨rfl, hb⟩; replace HX := Lib.hid (Bk.all HX.out hb); replace HB := Lib.hid (HB.out.trans (hb.mono HB.out.size)); clear hb))
 all_goals
  go_wp2
  go_ret
  exact ⟨ret_str HV.out, HB.out⟩
theorem rec_spec (s : ByteArray) (i : Int) (w : World) (hs : s.size <= 12) (h0 : 0 <= i) (h1 : i <= 1000) :
  Calls Tryz.prog 105 #[.agg #[.string s, .int .i64 i]] w fun e w' => e = .returned (.string (recB s i)) /\ Below w.heap.size w w' := by
 have HB0 := (Below.refl w.heap.size w).alloc (Nat.le_refl _) (.cells #[.string s, .int .i64 i] 75)
 have HX0 := new w #[.string s, .int .i64 i] 75
 have hP := put_le (i + 1) 2
 have hQ := put_le s.size 1
 have HP := Lib.hid (fun W => PutNumber.spec_any (i + 1) 2 W (by omega) (by omega))
 have HQ := Lib.hid (fun W => PutNumber.spec_any s.size 1 W (by omega) (by omega))
 obtain ⟨P, hPe⟩ : ∃ P, P = putB (i + 1) 2 := ⟨_, rfl⟩
 obtain ⟨Q, hQe⟩ : ∃ Q, Q = putB s.size 1 := ⟨_, rfl⟩
 rw [show ((2 : Nat) : Int) = 2 from rfl, <- hPe] at hP
 rw [show ((1 : Nat) : Int) = 1 from rfl, <- hQe] at hQ
 rw [<- hPe] at HP
 rw [<- hQe] at HQ
 have hz1 : (9223372036854775807 < P.size + Q.size) = False := eq_false (by omega)
 have hz2 : (9223372036854775807 < (P ++ Q).size + s.size) = False := eq_false (by rw [ByteArray.size_append]; omega)
 have hz3 : (9223372036854775807 < P.size + Q.size + s.size) = False := eq_false (by omega)
 have HD := Lib.hid (fun W => PadTo.spec_any (P ++ Q ++ s) 16 W (by rw [ByteArray.size_append, ByteArray.size_append]; omega))
 have HV := Lib.hid (show padB (P ++ Q ++ s) 16 = recB s i from by rw [hPe, hQe]; rfl)
 clear hPe hQe
 have hw1 : IntKind.i64.wrap (i + 1) = i + 1 := IntWalk.i64_in _ (by omega)
 go_enter Tryz.func105, Tryz.ntmps105
 go_wp2
 generalize w.alloc (.cells #[.string s, .int .i64 i] 75) = w0 at *
 obtain ⟨c0, c1⟩ := Bk.two HX0
 have HX := Lib.hid (show Bk w0.drew w.heap.size #[.string s, .int .i64 i] 75 from HX0)
 have HB := Lib.hid (HB0.drew)
 clear HX0 HB0
 go_region_held3 (fun w' => w'.cell? ⟨w.heap.size, 0, none⟩ = some (.string s) /\ w'.cell? ⟨w.heap.size, 1, none⟩ = some (.int .i64 i)) (first | with_reducible exact Bk.two HX.out | with_reducible exact ⟨c0, c1⟩ | go_keep)
  (first
   | (go_at_call 150; (first | ((with_reducible refine (HP.out _).mono ?_); rintro e w5 ⟨rfl, hb⟩; replace HX := Lib.hid (Bk.all HX.out hb); replace HB := Lib.hid (HB.out.trans (hb.mono HB.out.size)); clear hb) | ((with_reducible refine (HQ.out _).mono ?_); rintro e w5 ⟨rfl, hb⟩; replace HX := Lib.hid (Bk.all HX.out hb); replace HB := Lib.hid (HB.out.trans (hb.mono HB.out.size)); clear hb)))
   | (go_at_call 149; (with_reducible refine (HD.out _).mono ?_); rintro e w5 ⟨rfl, hb⟩; replace HX := Lib.hid (Bk.all HX.out hb); replace HB := Lib.hid (HB.out.trans (hb.mono HB.out.size)); clear hb))
 all_goals
  go_wp2
  go_ret
  exact ⟨ret_str HV.out, HB.out⟩
end Go.Proofs.YthppbcnejapbiaaGreatDoor.EnO

-- YthppbcnejapbiaaGreatDoorEnP
/- A part. -/
namespace Go.Proofs.YthppbcnejapbiaaGreatDoor.EnP
open Go.ChangeShapes Go.WideShapes Go.ChangeAt Go.RowKit
open Foot Bx
open EnV EnN EnO
set_option linter.unusedVariables false
def entR : Option (ByteArray × Int) -> Value
 | some e => .tuple #[.agg #[.string e.1, .int .i64 e.2], .bool true]
 | none => .tuple #[.agg #[.string ⟨#[]⟩, .int .i64 0], .bool false]
theorem str_ne {a b : ByteArray} (h : a ≠ b) : (a.toList == b.toList) = false := by
 rw [Lib.toList_data, Lib.toList_data]
 exact beq_eq_false_iff_ne.2 fun he => h (ByteArray.ext (Array.toList_inj.1 he))
theorem ext_tail (r : ByteArray) : (r.extract 3 r.size).data.toList = r.data.toList.drop 3 := by
 rw [ext_data, List.take_of_length_le (by simp)]
set_option maxRecDepth 100000 in
set_option maxHeartbeats 1600000 in
theorem entry_impl (r : ByteArray) (w : World) (hr : r.size = 16) :
  Calls Tryz.prog 98 #[.string r] w fun e w' => e = .returned (entR (entB r)) /\ Below w.heap.size w w' := by
 rw [ent_eq]
 have HG := Lib.hid (fun W => GetNumber.impl_any r 0 2 W (by omega) (by decide) (by decide))
 rw [show GetNumber.gotV r 0 2 = .returned (.tuple #[.int .i64 (numI r), .bool true]) from GetNumber.got_yes r 0 2 (by decide) (by decide) (by omega)] at HG
 have HT := Lib.hid (fun W => Tryz.strings_TrimRight_one (r.extract 3 r.size) 0 (by decide) W (by rw [ByteArray.size_extract]; omega))
 rw [ext_tail] at HT
 have hTl : (trimN r).size <= 1048576 := by
  unfold trimN
  show (Lib.trimRightB _ _).toArray.size <= _
  rw [List.size_toArray]
  unfold Lib.trimRightB
  rw [List.length_reverse]
  refine Nat.le_trans (List.dropWhile_sublist _).length_le ?_
  rw [List.length_reverse, List.length_drop, ba_len, hr]
  omega
 have HTN := Lib.hid (show (⟨(Lib.trimRightB (r.data.toList.drop 3) 0).toArray⟩ : ByteArray) = trimN r from rfl)
 rw [HTN.out] at HT
 have HNM := Lib.hid (fun W => name_impl (trimN r) hTl W)
 obtain ⟨nI, hnI⟩ : ∃ n, n = numI r := ⟨_, rfl⟩
 have hn6 : nI < 65536 := by rw [hnI]; exact Nat.lt_of_lt_of_le (Nums.getL_lt _) (by unfold GetNumber.seg; rw [show (256 : Nat) ^ _ = 256 ^ 2 from by rw [List.length_take, List.length_drop, ba_len, hr]; rfl]; decide)
 rw [<- hnI] at HG
 have HV := Lib.hid (show entP r = if nameB (trimN r) = true /\ (1 <= nI /\ nI <= 20) /\ recB (trimN r) ((nI : Int) - 1) = r then some (trimN r, (nI : Int) - 1) else none from by rw [hnI]; rfl)
 have HNF := Lib.hid (fun h => name_facts (s := trimN r) h)
 have hw1 : IntKind.i64.wrap ((nI : Int) - 1) = (nI : Int) - 1 := IntWalk.i64_in _ (by omega)
 have h3 : (3 : Int) <= (r.size : Int) := by omega
 generalize trimN r = T at *
 clear hnI HTN hr
 have HB0 := Lib.hid ((Below.refl w.heap.size w).alloc (Nat.le_refl _) (.cells #[.string ⟨#[]⟩, .int .i64 0] 75))
 have HR0 := Lib.hid (new w #[.string ⟨#[]⟩, .int .i64 0] 75)
 cases hnm : nameB T
 ·have HE := Lib.hid (show entP r = none from by rw [HV.out, if_neg (fun h => by rw [hnm] at h; cases h.1)])
  rw [hnm] at HNM
  clear hnm
  go_enter Tryz.func98, Tryz.ntmps98
  go_wp2_with fail
  refine (HG.out _).mono ?_
  rintro e w1 ⟨rfl, rfl⟩
  go_wp2_with fail
  refine (HT.out _).mono ?_
  rintro e w1 ⟨rfl, hw⟩
  have hw2 := hw.symm
  clear hw
  subst hw2
  go_wp2_with fail
  have HX1 := Lib.hid (new (w.alloc (.cells #[.string ⟨#[]⟩, .int .i64 0] 75)) #[.string T, .int .i64 ((nI : Int) - 1)] 75)
  have HR1 := Lib.hid (HR0.out.alloc (.cells #[.string T, .int .i64 ((nI : Int) - 1)] 75))
  have HB1 := Lib.hid (HB0.out.alloc HB0.out.size (.cells #[.string T, .int .i64 ((nI : Int) - 1)] 75))
  have hsz : (w.alloc (.cells #[.string ⟨#[]⟩, .int .i64 0] 75)).heap.size = w.heap.size + 1 := by simp
  rw [hsz] at HX1
  clear hsz
  generalize (w.alloc (.cells #[.string ⟨#[]⟩, .int .i64 0] 75)).alloc (.cells #[.string T, .int .i64 ((nI : Int) - 1)] 75) = w1 at *
  refine (HNM.out _).mono ?_
  rintro e w2 ⟨rfl, hb⟩
  have HX2 := Lib.hid (HX1.out.all hb)
  have HR2 := Lib.hid (HR1.out.all hb)
  have HB2 := Lib.hid (HB1.out.trans (hb.mono HB1.out.size))
  clear hb
  obtain ⟨r0, r1⟩ := Bk.two HR2.out
  obtain ⟨x0, x1⟩ := Bk.two HX2.out
  have f0 := HR2.out.free 0
  have f1 := HR2.out.free 1
  go_wp2
  have hF : Bk ((w2.setCell ⟨w.heap.size, 0, none⟩ (.string ⟨#[]⟩)).setCell ⟨w.heap.size, 1, none⟩ (.int .i64 0)) w.heap.size #[.string ⟨#[]⟩, .int .i64 0] 75 := ((HR2.out).set 0 (.string ⟨#[]⟩)).set 1 (.int .i64 0)
  have hB : Below w.heap.size w ((w2.setCell ⟨w.heap.size, 0, none⟩ (.string ⟨#[]⟩)).setCell ⟨w.heap.size, 1, none⟩ (.int .i64 0)) := HB2.out.trans ((FoB.chg1 (FoB.chg_set w2 ⟨w.heap.size, 0, none⟩ (.string ⟨#[]⟩)) 1 (.int .i64 0)).below HB2.out.size (fun k hk => by rw [List.mem_singleton] at hk; exact Nat.le_of_eq hk.symm))
  generalize (w2.setCell ⟨w.heap.size, 0, none⟩ (.string ⟨#[]⟩)).setCell ⟨w.heap.size, 1, none⟩ (.int .i64 0) = w9 at hF hB ⊢
  obtain ⟨e0, e1⟩ := Bk.two hF
  refine bodyPost_ret (v := .tuple #[.agg #[.string ⟨#[]⟩, .int .i64 0], .bool false]) (by simp [results, Tryz.results98, go_sem, e0, e1]) rfl ?_
  exact ⟨by rw [HE.out]; rfl, hB⟩
 ·rw [hnm] at HNM
  have hnf := HNF.out hnm
  have HNU := Lib.hid (fun W => num_impl ((nI : Int) - 1) W)
  by_cases hi : 1 <= nI /\ nI <= 20
  ·rw [decide_eq_true (show (0 : Int) <= (nI : Int) - 1 by omega), decide_eq_true (show (nI : Int) - 1 < 20 by omega)] at HNU
   have HRC := Lib.hid (fun W => rec_impl T ((nI : Int) - 1) W hnf.2.1 (by omega) (by omega))
   by_cases hrec : recB T ((nI : Int) - 1) = r
   ·have HE := Lib.hid (show entP r = some (T, (nI : Int) - 1) from by rw [HV.out, if_pos ⟨hnm, hi, hrec⟩])
    rw [hrec] at HRC
    clear hnm hi hrec hnf
    go_enter Tryz.func98, Tryz.ntmps98
    go_wp2_with fail
    refine (HG.out _).mono ?_
    rintro e w1 ⟨rfl, rfl⟩
    go_wp2_with fail
    refine (HT.out _).mono ?_
    rintro e w1 ⟨rfl, hw⟩
    have hw2 := hw.symm
    clear hw
    subst hw2
    go_wp2_with fail
    have HX1 := Lib.hid (new (w.alloc (.cells #[.string ⟨#[]⟩, .int .i64 0] 75)) #[.string T, .int .i64 ((nI : Int) - 1)] 75)
    have HR1 := Lib.hid (HR0.out.alloc (.cells #[.string T, .int .i64 ((nI : Int) - 1)] 75))
    have HB1 := Lib.hid (HB0.out.alloc HB0.out.size (.cells #[.string T, .int .i64 ((nI : Int) - 1)] 75))
    have hsz : (w.alloc (.cells #[.string ⟨#[]⟩, .int .i64 0] 75)).heap.size = w.heap.size + 1 := by simp
    rw [hsz] at HX1
    clear hsz
    generalize (w.alloc (.cells #[.string ⟨#[]⟩, .int .i64 0] 75)).alloc (.cells #[.string T, .int .i64 ((nI : Int) - 1)] 75) = w1 at *
    refine (HNM.out _).mono ?_
    rintro e w2 ⟨rfl, hb⟩
    have HX2 := Lib.hid (HX1.out.all hb)
    have HR2 := Lib.hid (HR1.out.all hb)
    have HB2 := Lib.hid (HB1.out.trans (hb.mono HB1.out.size))
    clear hb
    rw [show (true && true) = true from rfl] at HNU
    obtain ⟨x0, x1⟩ := Bk.two HX2.out
    go_wp2_with fail
    refine (HNU.out _).mono ?_
    rintro e w3 ⟨rfl, rfl⟩
    go_wp2_with fail
    refine (HRC.out _).mono ?_
    rintro e w3 ⟨rfl, hb⟩
    have HX3 := Lib.hid (HX2.out.all hb)
    have HR3 := Lib.hid (HR2.out.all hb)
    have HB3 := Lib.hid (HB2.out.trans (hb.mono HB2.out.size))
    clear hb x0 x1
    obtain ⟨r0, r1⟩ := Bk.two HR3.out
    obtain ⟨x0, x1⟩ := Bk.two HX3.out
    have f0 := HR3.out.free 0
    have f1 := HR3.out.free 1
    go_wp2
    have hF : Bk ((w3.setCell ⟨w.heap.size, 0, none⟩ (.string T)).setCell ⟨w.heap.size, 1, none⟩ (.int .i64 ((nI : Int) - 1))) w.heap.size #[.string T, .int .i64 ((nI : Int) - 1)] 75 := ((HR3.out).set 0 (.string T)).set 1 (.int .i64 ((nI : Int) - 1))
    have hB : Below w.heap.size w ((w3.setCell ⟨w.heap.size, 0, none⟩ (.string T)).setCell ⟨w.heap.size, 1, none⟩ (.int .i64 ((nI : Int) - 1))) := HB3.out.trans ((FoB.chg1 (FoB.chg_set w3 ⟨w.heap.size, 0, none⟩ (.string T)) 1 (.int .i64 ((nI : Int) - 1))).below HB3.out.size (fun k hk => by rw [List.mem_singleton] at hk; exact Nat.le_of_eq hk.symm))
    generalize (w3.setCell ⟨w.heap.size, 0, none⟩ (.string T)).setCell ⟨w.heap.size, 1, none⟩ (.int .i64 ((nI : Int) - 1)) = w9 at hF hB ⊢
    obtain ⟨e0, e1⟩ := Bk.two hF
    refine bodyPost_ret (v := .tuple #[.agg #[.string T, .int .i64 ((nI : Int) - 1)], .bool true]) (by simp [results, Tryz.results98, go_sem, e0, e1]) rfl ?_
    exact ⟨by rw [HE.out]; rfl, hB⟩
   ·have HE := Lib.hid (show entP r = none from by rw [HV.out, if_neg (fun h => hrec h.2.2)])
    have q1 := str_ne hrec
    have q2 : (recB T ((nI : Int) - 1)).toList ≠ r.toList := by simpa using q1
    clear hnm hi hrec hnf
    go_enter Tryz.func98, Tryz.ntmps98
    go_wp2_with fail
    refine (HG.out _).mono ?_
    rintro e w1 ⟨rfl, rfl⟩
    go_wp2_with fail
    refine (HT.out _).mono ?_
    rintro e w1 ⟨rfl, hw⟩
    have hw2 := hw.symm
    clear hw
    subst hw2
    go_wp2_with fail
    have HX1 := Lib.hid (new (w.alloc (.cells #[.string ⟨#[]⟩, .int .i64 0] 75)) #[.string T, .int .i64 ((nI : Int) - 1)] 75)
    have HR1 := Lib.hid (HR0.out.alloc (.cells #[.string T, .int .i64 ((nI : Int) - 1)] 75))
    have HB1 := Lib.hid (HB0.out.alloc HB0.out.size (.cells #[.string T, .int .i64 ((nI : Int) - 1)] 75))
    have hsz : (w.alloc (.cells #[.string ⟨#[]⟩, .int .i64 0] 75)).heap.size = w.heap.size + 1 := by simp
    rw [hsz] at HX1
    clear hsz
    generalize (w.alloc (.cells #[.string ⟨#[]⟩, .int .i64 0] 75)).alloc (.cells #[.string T, .int .i64 ((nI : Int) - 1)] 75) = w1 at *
    refine (HNM.out _).mono ?_
    rintro e w2 ⟨rfl, hb⟩
    have HX2 := Lib.hid (HX1.out.all hb)
    have HR2 := Lib.hid (HR1.out.all hb)
    have HB2 := Lib.hid (HB1.out.trans (hb.mono HB1.out.size))
    clear hb
    rw [show (true && true) = true from rfl] at HNU
    obtain ⟨x0, x1⟩ := Bk.two HX2.out
    go_wp2_with fail
    refine (HNU.out _).mono ?_
    rintro e w3 ⟨rfl, rfl⟩
    go_wp2_with fail
    refine (HRC.out _).mono ?_
    rintro e w3 ⟨rfl, hb⟩
    have HX3 := Lib.hid (HX2.out.all hb)
    have HR3 := Lib.hid (HR2.out.all hb)
    have HB3 := Lib.hid (HB2.out.trans (hb.mono HB2.out.size))
    clear hb x0 x1
    obtain ⟨r0, r1⟩ := Bk.two HR3.out
    obtain ⟨x0, x1⟩ := Bk.two HX3.out
    have f0 := HR3.out.free 0
    have f1 := HR3.out.free 1
    go_wp2
    have hF : Bk ((w3.setCell ⟨w.heap.size, 0, none⟩ (.string ⟨#[]⟩)).setCell ⟨w.heap.size, 1, none⟩ (.int .i64 0)) w.heap.size #[.string ⟨#[]⟩, .int .i64 0] 75 := ((HR3.out).set 0 (.string ⟨#[]⟩)).set 1 (.int .i64 0)
    have hB : Below w.heap.size w ((w3.setCell ⟨w.heap.size, 0, none⟩ (.string ⟨#[]⟩)).setCell ⟨w.heap.size, 1, none⟩ (.int .i64 0)) := HB3.out.trans ((FoB.chg1 (FoB.chg_set w3 ⟨w.heap.size, 0, none⟩ (.string ⟨#[]⟩)) 1 (.int .i64 0)).below HB3.out.size (fun k hk => by rw [List.mem_singleton] at hk; exact Nat.le_of_eq hk.symm))
    generalize (w3.setCell ⟨w.heap.size, 0, none⟩ (.string ⟨#[]⟩)).setCell ⟨w.heap.size, 1, none⟩ (.int .i64 0) = w9 at hF hB ⊢
    obtain ⟨e0, e1⟩ := Bk.two hF
    refine bodyPost_ret (v := .tuple #[.agg #[.string ⟨#[]⟩, .int .i64 0], .bool false]) (by simp [results, Tryz.results98, go_sem, e0, e1]) rfl ?_
    exact ⟨by rw [HE.out]; rfl, hB⟩
  ·have HE := Lib.hid (show entP r = none from by rw [HV.out, if_neg (fun h => hi h.2.1)])
   have hn : (decide ((0 : Int) <= (nI : Int) - 1) && decide ((nI : Int) - 1 < 20)) = false := by
    rw [Bool.and_eq_false_iff]
    by_cases h1 : 1 <= nI
    ·exact .inr (decide_eq_false (by omega))
    ·exact .inl (decide_eq_false (by omega))
   rw [hn] at HNU
   clear hnm hi hnf hn
   go_enter Tryz.func98, Tryz.ntmps98
   go_wp2_with fail
   refine (HG.out _).mono ?_
   rintro e w1 ⟨rfl, rfl⟩
   go_wp2_with fail
   refine (HT.out _).mono ?_
   rintro e w1 ⟨rfl, hw⟩
   have hw2 := hw.symm
   clear hw
   subst hw2
   go_wp2_with fail
   have HX1 := Lib.hid (new (w.alloc (.cells #[.string ⟨#[]⟩, .int .i64 0] 75)) #[.string T, .int .i64 ((nI : Int) - 1)] 75)
   have HR1 := Lib.hid (HR0.out.alloc (.cells #[.string T, .int .i64 ((nI : Int) - 1)] 75))
   have HB1 := Lib.hid (HB0.out.alloc HB0.out.size (.cells #[.string T, .int .i64 ((nI : Int) - 1)] 75))
   have hsz : (w.alloc (.cells #[.string ⟨#[]⟩, .int .i64 0] 75)).heap.size = w.heap.size + 1 := by simp
   rw [hsz] at HX1
   clear hsz
   generalize (w.alloc (.cells #[.string ⟨#[]⟩, .int .i64 0] 75)).alloc (.cells #[.string T, .int .i64 ((nI : Int) - 1)] 75) = w1 at *
   refine (HNM.out _).mono ?_
   rintro e w2 ⟨rfl, hb⟩
   have HX2 := Lib.hid (HX1.out.all hb)
   have HR2 := Lib.hid (HR1.out.all hb)
   have HB2 := Lib.hid (HB1.out.trans (hb.mono HB1.out.size))
   clear hb
   obtain ⟨x0, x1⟩ := Bk.two HX2.out
   go_wp2_with fail
   refine (HNU.out _).mono ?_
   rintro e w3 ⟨rfl, rfl⟩
   clear x0 x1
   obtain ⟨r0, r1⟩ := Bk.two HR2.out
   obtain ⟨x0, x1⟩ := Bk.two HX2.out
   have f0 := HR2.out.free 0
   have f1 := HR2.out.free 1
   go_wp2
   have hF : Bk ((w2.setCell ⟨w.heap.size, 0, none⟩ (.string ⟨#[]⟩)).setCell ⟨w.heap.size, 1, none⟩ (.int .i64 0)) w.heap.size #[.string ⟨#[]⟩, .int .i64 0] 75 := ((HR2.out).set 0 (.string ⟨#[]⟩)).set 1 (.int .i64 0)
   have hB : Below w.heap.size w ((w2.setCell ⟨w.heap.size, 0, none⟩ (.string ⟨#[]⟩)).setCell ⟨w.heap.size, 1, none⟩ (.int .i64 0)) := HB2.out.trans ((FoB.chg1 (FoB.chg_set w2 ⟨w.heap.size, 0, none⟩ (.string ⟨#[]⟩)) 1 (.int .i64 0)).below HB2.out.size (fun k hk => by rw [List.mem_singleton] at hk; exact Nat.le_of_eq hk.symm))
   generalize (w2.setCell ⟨w.heap.size, 0, none⟩ (.string ⟨#[]⟩)).setCell ⟨w.heap.size, 1, none⟩ (.int .i64 0) = w9 at hF hB ⊢
   obtain ⟨e0, e1⟩ := Bk.two hF
   refine bodyPost_ret (v := .tuple #[.agg #[.string ⟨#[]⟩, .int .i64 0], .bool false]) (by simp [results, Tryz.results98, go_sem, e0, e1]) rfl ?_
   exact ⟨by rw [HE.out]; rfl, hB⟩
end Go.Proofs.YthppbcnejapbiaaGreatDoor.EnP

-- YthppbcnejapbiaaGreatDoorEnI
/- A part. -/
namespace Go.Proofs.YthppbcnejapbiaaGreatDoor.EnI
open Go.ChangeShapes Go.WideShapes Go.ChangeAt Go.RowKit Go.Shelf
open Foot Bx
open InoV (I usedV needV)
open FsV (F okF e0 z32)
open FsY FsZ FoB CoN
open RowG (cellsB cellsB_length)
open EnV EnP
set_option linter.unusedVariables false
attribute [local go_sem] Oper.semAt_some
def Kp (n₀ : Nat) (bb : World -> List Nat) (W W' : World) : Prop :=
 Below n₀ W W' /\ (∀ k, k < W.heap.size -> k ∉ bb W -> (∃ cs t r, W.heap[k]? = some (.cells cs t r)) -> W'.heap[k]? = W.heap[k]?) /\ ∀ k ∈ bb W', k ∈ bb W \/ W.heap.size <= k
theorem kp_t {n₀ : Nat} {bb : World -> List Nat} {A B C : World} (h : Kp n₀ bb A B) (k : Kp n₀ bb B C) : Kp n₀ bb A C := by
 obtain ⟨h1, h2, h3⟩ := h
 obtain ⟨k1, k2, k3⟩ := k
 refine ⟨h1.trans k1, fun x hx hn hc => ?_, fun x hx => ?_⟩
 ·have e := h2 x hx hn hc
  rw [<- e]
  refine k2 x (Nat.lt_of_lt_of_le hx h1.size) (fun hh => ?_) (by rw [e]; exact hc)
  rcases h3 x hh with h | h
  ·exact hn h
  ·omega
 ·rcases k3 x hx with h | h
  ·exact h3 x h
  ·exact .inr (Nat.le_trans h1.size h)
theorem kp_b {n₀ B : Nat} {bb : World -> List Nat} (hn : n₀ <= B) (hbb : ∀ (W : World) (l : Nat) (o o' : Obj), W.heap[l]? = some o -> o.isCells = false -> bb (W.putObj l o') = bb W) (W : World) (l : Nat) (o o' : Obj) (hl : B <= l) (h : W.heap[l]? = some o) (hc : o.isCells = false) (hw : o.isWalk = false) : Kp n₀ bb W (W.putObj l o') := by
 refine ⟨(Below.refl n₀ W).grown (grownBy_putObj' W l o') (by have := (Array.getElem?_eq_some_iff.1 h).1; omega) (fun k e => by cases e; omega), fun k hk hn ⟨cs, t, r, e⟩ => ?_, fun k hk => ?_⟩
 ·refine (grownBy_putObj' W l o').block k hk (fun e2 => ?_)
  cases e2
  rw [h] at e
  cases e
  cases hc
 ·rw [hbb W l o o' h hc] at hk
  exact .inl hk
theorem kp_row {n₀ : Nat} {bb : World -> List Nat} {W W' : World} {base size n : Nat} {e : TypeId} {v : Value} {xs : List Value} (h : W.ownsRow base e size v n xs) (hk : Kp n₀ bb W W') (hn : ∀ k ∈ fpR v, k ∉ bb W) : W'.ownsRow base e size v n xs := by
 refine ⟨h.1, ?_⟩
 rcases h.2 with hv | ⟨g, cap, cur, rfl, hb, hg, h1, h2, h3, h4⟩
 ·exact .inl hv
 ·refine .inr ⟨g, cap, cur, rfl, hb, ?_, h1, h2, h3, h4⟩
  rw [hk.2.1 g (Array.getElem?_eq_some_iff.1 hg).1 (hn g (by simp [fpR, Value.ownBlock])) ⟨_, _, _, hg⟩]
  exact hg
theorem in_impl (w : World) (T : Int) (Q M D : Nat) (qa : Option Addr) (qc : Nat) (ia : Option Addr) (ic : Nat) (da : Option Addr) (dc : Nat) (i : Int) :
  Calls Tryz.prog 50 #[.agg #[.int .i64 T, .slice qa Q qc, .slice ia M ic, .slice da D dc], .int .i64 i] w fun e w' => e = .returned (.func (.func 95) #[] #[.pointer (some ⟨w.heap.size, 0, none⟩), .pointer (some ⟨w.heap.size + 1, 0, none⟩)]) /\ w' = (w.alloc (.cells #[.int .i64 T, .slice qa Q qc, .slice ia M ic, .slice da D dc] 33)).alloc (.cells #[.int .i64 i] 3) := by
 go_enter Tryz.func50, Tryz.ntmps50
 go_wp2
 go_ret
 exact ⟨by simp, rfl⟩
theorem cut_rec {c : List UInt8} {K j : Nat} (hj : j < K) (hc : 16 * K <= c.length) : (CutAll.cut ⟨(c.take (16 * K)).toArray⟩ 16 K)[j]? = some ⟨((c.drop (16 * j)).take 16).toArray⟩ := by
 unfold CutAll.cut
 rw [List.getElem?_map, List.getElem?_range hj]
 show some _ = some _
 congr 1
 apply ByteArray.ext
 apply Array.toList_inj.1
 have hs : (⟨(c.take (16 * K)).toArray⟩ : ByteArray).size = 16 * K := by
  show (c.take (16 * K)).toArray.size = _
  rw [List.size_toArray, List.length_take]; omega
 rw [ext_data, hs, show min (j * 16 + 16) (16 * K) = 16 * j + 16 from by omega]
 show ((c.take (16 * K)).take (16 * j + 16)).drop (j * 16) = (c.drop (16 * j)).take 16
 rw [List.take_take, show min (16 * j + 16) (16 * K) = 16 * j + 16 from by omega, List.drop_take, show 16 * j + 16 - j * 16 = 16 from by omega, Nat.mul_comm]
theorem cut_all {c : List UInt8} {K : Nat} (hc : 16 * K <= c.length) : CutAll.cutAll ⟨(c.take (16 * K)).toArray⟩ 16 = CutAll.cut ⟨(c.take (16 * K)).toArray⟩ 16 K := by
 have hs : (⟨(c.take (16 * K)).toArray⟩ : ByteArray).size = 16 * K := by
  show (c.take (16 * K)).toArray.size = _
  rw [List.size_toArray, List.length_take]; omega
 have := CutAll.cutAll_eq (s := ⟨(c.take (16 * K)).toArray⟩) (n := 16) (k := K) (by decide) (by decide) (by rw [hs]; omega) (by
  cases K with
  | zero => exact .inl rfl
  | succ k => exact .inr ⟨k, rfl, by rw [hs]; omega⟩)
 exact this
def ev (e : ByteArray × Int) : Array Value := #[.agg #[.string e.1, .int .i64 e.2]]
theorem abides_below {β : Type} {J : β -> World -> Prop} {B : Nat} (h : AbidesFrom B J) {s : β} {W W' : World} (hj : J s W) (hb : Below W.heap.size W W') : J s W' :=
 h s W W' none hj ⟨hb.os, hb.tape, hb.output, hb.size, fun k hk _ => hb.block k hk⟩ (fun r e => by cases e)
set_option maxRecDepth 100000 in
set_option maxHeartbeats 6400000 in
theorem ents_in (n : Nat) (hn : 1 <= n) (l n₀ fb db N : Nat) (bb : World -> List Nat) (w0 W : World) (f : F) (k K : Nat) (T : Int) (Q M D : Nat) (qa : Option Addr) (qc : Nat) (ia : Option Addr) (ic : Nat) (da : Option Addr) (dc : Nat)
  (hN : K <= N) (hg : GoodF f k) (hK : K = (ino f k).size.toNat / 16) (hf : FsF.Holds w0 (.agg #[.int .i64 T, .slice qa Q qc, .slice ia M ic, .slice da D dc]) f) (hn₀ : n₀ = w0.heap.size) (hW : Below n₀ w0 W)
  (hfb : Bk W fb #[.int .i64 T, .slice qa Q qc, .slice ia M ic, .slice da D dc] 33) (hdb : Bk W db #[.int .i64 k] 3)
  (J Jx : List (ByteArray × Int) -> World -> Prop) (hJ : ∀ s W W', J s W -> Below W.heap.size W W' -> J s W')
  (hbb : ∀ W1 W2, W.heap.size <= W1.heap.size -> Below W1.heap.size W1 W2 -> bb W2 = bb W1) (hbl : ∀ x ∈ bb W, x < W.heap.size)
  (hY : ∀ pre x W1, J pre W1 -> pre.length < N -> YieldAt Fence.wide (n - 1) Tryz.prog l (ev x) W1 fun e W' =>
   (e = .returned (.bool true) /\ J (pre ++ [x]) W' /\ Kp n₀ bb W1 W') \/ (e = .returned (.bool false) /\ Jx (pre ++ [x]) W'))
  (h0 : J [] W) :
  CallsIn Fence.wide n Tryz.prog 95 #[.func (.yield l) #[] #[], .pointer (some ⟨fb, 0, none⟩), .pointer (some ⟨db, 0, none⟩)] W fun e W' => (∃ v, e = .returned v) /\
   ((∃ ys, ys = entsV f k /\ J ys W') \/ (∃ pre, (∃ j x, j < K /\ entB ⟨(((content f.data (ino f k).blocks).drop (16 * j)).take 16).toArray⟩ = some x /\ pre = entsL (content f.data (ino f k).blocks) j ++ [x]) /\ Jx pre W')) := by
 subst hn₀
 have HFS := Lib.hid hf
 have HG := Lib.hid hg
 have HY := Lib.hid hY
 have HJ := Lib.hid hJ
 have HBB := Lib.hid hbb
 have HBL := Lib.hid hbl
 have hsz := hg.size
 obtain ⟨zn, hzn⟩ : ∃ zn : Nat, (ino f k).size = zn := ⟨(ino f k).size.toNat, by omega⟩
 have hM20 : f.inodes.length = 20 := (FsV.parts_of (FsV.ok_parts hg.ok).2.1).2.1
 obtain ⟨r0, r1, r2, e0', g0, g1, g2⟩ := hf
 simp only [Value.agg.injEq, Array.mk.injEq, List.cons.injEq, and_true] at e0'
 obtain ⟨_, rfl, rfl, rfl⟩ := e0'
 clear g0 g2
 obtain ⟨a9, c9, e9, l9, hat⟩ := g1
 rw [Value.slice.injEq] at e9
 obtain ⟨rfl, e8, rfl⟩ := e9
 rw [hM20] at e8
 subst e8
 obtain ⟨b, o, rfl, hb, r0, r1, r2, hCl, hP⟩ := hat k (by rw [hM20]; exact hg.lt)
 rw [show f.inodes.getD k IF.z0 = ino f k from rfl] at hCl
 obtain ⟨d0, d1, d2, d3, d4, d5, d6, d7, d8, d9⟩ := hCl.below hb hW
 rw [hzn] at d5
 have hk20 := hg.lt
 have hk0 : (0 : Int) <= k := by omega
 have hk1 : (k : Int) < 20 := by omega
 have x2 := (Bk.c4 hfb).2.2.1
 have y0 : W.cell? ⟨db, 0, none⟩ = some (.int .i64 k) := by rw [hdb.cell]; rfl
 obtain ⟨x0, x1, _, x3⟩ := Bk.c4 hfb
 have HCT := Lib.hid (CoC.content_impl W _ f k hk20 HG.out.ok (FsF.holds_below HFS.out hW))
 have hKz : K = zn / 16 := by rw [hK]; omega
 have em : (zn : Int).tmod 16 = ((zn % 16 : Nat) : Int) := by rw [Int.tmod_eq_emod_of_nonneg (by omega)]; omega
 have es : (zn : Int) - ((zn % 16 : Nat) : Int) = ((16 * K : Nat) : Int) := by omega
 have hne : zn - zn % 16 = 16 * K := by omega
 have hwr : IntKind.i64.wrap (((16 * K : Nat) : Int)) = ((16 * K : Nat) : Int) := IntWalk.i64_in _ (by omega)
 have hL0 : (0 : Int) <= ((16 * K : Nat) : Int) := by omega
 have hL1 : ((16 * K : Nat) : Int) <= 256 := by omega
 obtain ⟨C, hC⟩ : ∃ C, C = content f.data (ino f k).blocks := ⟨_, rfl⟩
 have hCl : C.length = 256 := by rw [hC]; exact content_len hg.dsz hg.dlen hg.inr hsz.2.2.2
 rw [<- hC] at HCT ⊢
 have HCE := Lib.hid hC
 have HW := Lib.hid hW
 have HKE := Lib.hid hK
 have HCL := Lib.hid hCl
 have hK16 : K <= 16 := by omega
 have hWs := hW.size
 clear hC hW hK hKz hCl hsz hzn hfb hdb hat l9 hg hP hY hJ hbb hbl
 refine callsIn_of_wp Tryz.func95 rfl trivial ?_ rfl
 simp only [Tryz.ntmps95, List.size_toArray, List.length_cons, List.length_nil, Nat.reduceAdd, Nat.reduceSub, Array.replicate_succ, Array.replicate_zero, List.push_toArray, List.append_toArray, List.nil_append, List.cons_append]
 gi_wp2_with fail
 refine ⟨trivial, (callsIn_wide.2 HCT.out).mono ?_⟩
 rintro e w2 ⟨rfl, hbk, hb⟩
 have hcv := back_run (a := 0) (n := 16 * K) (cap := 256) hbk (by rw [HCL.out]; omega)
 rw [List.drop_zero] at hcv
 have HB2 := Lib.hid hb
 have HCU := Lib.hid (CutAll.impl_any ⟨(C.take (16 * K)).toArray⟩ 16 w2 (by show (C.take (16 * K)).toArray.size <= _; rw [List.size_toArray, List.length_take]; omega))
 rw [cut_all (by rw [HCL.out]; omega), CutAll.cut_length] at HCU
 have HRC := Lib.hid (fun j (hj : j < K) => cut_rec (c := C) hj (by rw [HCL.out]; omega))
 clear hb hbk x0 x1 x2 x3 y0 d0 d1 d2 d3 d4 d5 d6 d7 d8 d9
 generalize (⟨(C.take (16 * K)).toArray⟩ : ByteArray) = S at hcv HCU HRC
 gi_wp2_with fail
 refine ⟨trivial, (callsIn_wide.2 HCU.out).mono ?_⟩
 rintro e w3 ⟨rv, rfl, hrow, hb⟩
 clear hcv HCU
 obtain ⟨a5, c5, rfl⟩ := Dk.slice_of hrow
 have HB3 := Lib.hid (HB2.out.trans (hb.mono HB2.out.size))
 have hJ3 := HJ.out _ _ _ h0 HB3.out
 have hr0 : ∀ x ∈ fpR (.slice a5 K c5), x ∉ bb w3 := fun x hx hh => by
  rw [HBB.out W w3 (Nat.le_refl _) HB3.out] at hh
  have h1 := HBL.out x hh
  have h2 := (row_lies hrow x hx).1
  have h3 := HB2.out.size
  omega
 have HROW := Lib.hid hrow
 have HR0 := Lib.hid hr0
 have HJ3 := Lib.hid hJ3
 have hw0 : Below w0.heap.size w0 w3 := HW.out.trans (HB3.out.mono hWs)
 have HW0 := Lib.hid hw0
 clear hrow hb hr0 hJ3 hw0 h0
 gi_wp2
 gi_loopw [28] (fun iv wr => ∃ j : Nat, j <= K /\ iv = .int .i64 j /\ J (entsL C j) wr /\ wr.ownsRow w2.heap.size 9 1 (.slice a5 K c5) K ((CutAll.cut S 16 K).map Value.string) /\ (∀ x ∈ fpR (.slice a5 K c5), x ∉ bb wr) /\ Below w0.heap.size w0 wr /\ W.heap.size <= wr.heap.size) (fun iv _ => K - (intOf iv).toNat)
 case atStart => exact ⟨0, Nat.zero_le _, rfl, HJ3.out, HROW.out, HR0.out, HW0.out, HB3.out.size⟩
 case round =>
  obtain ⟨j, hj, rfl, hJs, hrw, hnb, hbel, hszr⟩ := hrel
  have HJS := Lib.hid hJs
  have HRW := Lib.hid hrw
  have HNB := Lib.hid hnb
  have HBEL := Lib.hid hbel
  have hsr := hbel.size
  clear hJs hrw hnb hbel HJ3 HROW HR0 HW0
  by_cases hlt : j < K
  ·obtain ⟨g5, rfl⟩ : ∃ g, a5 = some ⟨g, 0, none⟩ := by
    rcases HRW.out.2 with ⟨hv, h0⟩ | ⟨g, cap, cur, hv, _⟩
    ·omega
    ·rw [Value.slice.injEq] at hv; exact ⟨g, hv.1⟩
   obtain ⟨r, hr⟩ : ∃ r : ByteArray, r = ⟨((C.drop (16 * j)).take 16).toArray⟩ := ⟨_, rfl⟩
   have hrs : r.size = 16 := by
    rw [hr]
    show ((C.drop (16 * j)).take 16).toArray.size = 16
    rw [List.size_toArray, List.length_take, List.length_drop, HCL.out]; omega
   have cgj : wr.cell? ⟨g5, j, none⟩ = some (.string r) := by
    rw [HRW.out.cellAt j (by simpa using hlt), List.getElem?_map, HRC.out j hlt, hr]; rfl
   have hES := ents_succ C j
   rw [<- hr] at hES
   have HES := Lib.hid hES
   have HEN := Lib.hid (entry_impl r wr hrs)
   have HRE := Lib.hid hr
   have hpl : (entsL C j).length < N := by
    have h1 : (entsL C j).length <= j := by
     unfold entsL
     have := List.length_filterMap_le (fun j => entB ⟨((C.drop (16 * j)).take 16).toArray⟩) (List.range j)
     rwa [List.length_range] at this
    omega
   have HPL := Lib.hid hpl
   clear hr hES hrs hpl
   cases hent : entB r with
   | none =>
    rw [hent] at HEN HES
    unfold entR at HEN
    gi_wp2_with fail
    refine ⟨trivial, (callsIn_wide.2 HEN.out).mono ?_⟩
    rintro e w4 ⟨rfl, hb⟩
    have hbx := hb.trans ((Below.refl wr.heap.size w4).alloc hb.size (.cells #[.string ⟨#[]⟩, .int .i64 0] 75))
    have HJ4 := Lib.hid (HJ.out _ _ _ HJS.out hbx)
    have HR4 := Lib.hid (row_below HRW.out hbx)
    have HN4 := Lib.hid (show ∀ x ∈ fpR (.slice (some ⟨g5, 0, none⟩) K c5), x ∉ bb (w4.alloc (.cells #[.string ⟨#[]⟩, .int .i64 0] 75)) from by rw [HBB.out wr _ hszr hbx]; exact HNB.out)
    have HB4 := Lib.hid (HBEL.out.trans (hbx.mono hsr))
    have HS4 := Lib.hid (Nat.le_trans hszr hbx.size)
    clear hb hbx cgj hent
    gi_wp2
    refine ⟨(fun f hf => by cases hf), ?_⟩
    gi_wp2
    go_roundw
    case rel => exact ⟨j + 1, by omega, by go_num, by rw [HES.out, List.append_nil]; exact HJ4.out, HR4.out, HN4.out, HB4.out, HS4.out⟩
    case measure => simp [intOf]; omega
   | some x =>
    rw [hent] at HEN HES
    unfold entR at HEN
    gi_wp2_with fail
    refine ⟨trivial, (callsIn_wide.2 HEN.out).mono ?_⟩
    rintro e w4 ⟨rfl, hb⟩
    have hbx := hb.trans ((Below.refl wr.heap.size w4).alloc hb.size (.cells #[.string x.1, .int .i64 x.2] 75))
    have HJ4 := Lib.hid (HJ.out _ _ _ HJS.out hbx)
    have HR4 := Lib.hid (row_below HRW.out hbx)
    have HN4 := Lib.hid (show ∀ x_1 ∈ fpR (.slice (some ⟨g5, 0, none⟩) K c5), x_1 ∉ bb (w4.alloc (.cells #[.string x.1, .int .i64 x.2] 75)) from by rw [HBB.out wr _ hszr hbx]; exact HNB.out)
    have HB4 := Lib.hid (HBEL.out.trans (hbx.mono hsr))
    have HS4 := Lib.hid (Nat.le_trans hszr hbx.size)
    obtain ⟨fn, tmps, assign, body, hy, hR⟩ := HY.out _ x _ HJ4.out HPL.out
    unfold ev at hy
    have HEX := Lib.hid hent
    clear hb hbx cgj hent
    gi_wp2
    refine hR.mono ?_
    rintro e W3 (⟨rfl, hJ3, hk3⟩ | ⟨rfl, hJx3⟩)
    ·have HJ5 := Lib.hid hJ3
     have HR5 := Lib.hid (kp_row HR4.out hk3 HN4.out)
     have HN5 := Lib.hid (show ∀ y ∈ fpR (.slice (some ⟨g5, 0, none⟩) K c5), y ∉ bb W3 from fun y hy2 hh => by
      rcases hk3.2.2 y hh with h | h
      ·exact HN4.out y hy2 h
      ·have := (row_lies HR4.out y hy2).2; omega)
     have HB5 := Lib.hid (HB4.out.trans hk3.1)
     have HS5 := Lib.hid (Nat.le_trans HS4.out hk3.1.size)
     clear hJ3 hk3
     gi_wp2
     go_roundw
     case rel => exact ⟨j + 1, by omega, by go_num, by rw [HES.out]; exact HJ5.out, HR5.out, HN5.out, HB5.out, HS5.out⟩
     case measure => simp [intOf]; omega
    ·have HX := Lib.hid hJx3
     clear hJx3
     gi_wp2
     refine bodyPost_ret (results_none rfl _ _ _) rfl ?_
     exact ⟨⟨_, rfl⟩, .inr ⟨_, ⟨j, x, hlt, by rw [<- HRE.out]; exact HEX.out, rfl⟩, HX.out⟩⟩
  ·obtain rfl : K = j := by omega
   gi_wp2
   go_end0
   exact ⟨⟨_, rfl⟩, .inl ⟨_, by unfold entsV; rw [<- HCE.out, <- HKE.out], HJS.out⟩⟩
def Stops (f : F) (k K : Nat) (pre : List (ByteArray × Int)) : Prop := ∃ j x, j < K /\ entB ⟨(((content f.data (ino f k).blocks).drop (16 * j)).take 16).toArray⟩ = some x /\ pre = entsL (content f.data (ino f k).blocks) j ++ [x]
theorem ents_stops (n : Nat) (hn : 1 <= n) (n₀ fb db N : Nat) (bb : World -> List Nat) (w0 w : World) (f : F) (k K : Nat) (T : Int) (Q M D : Nat) (qa : Option Addr) (qc : Nat) (ia : Option Addr) (ic : Nat) (da : Option Addr) (dc : Nat)
  (hN : K <= N) (hg : GoodF f k) (hK : K = (ino f k).size.toNat / 16) (hf : FsF.Holds w0 (.agg #[.int .i64 T, .slice qa Q qc, .slice ia M ic, .slice da D dc]) f) (hn₀ : n₀ = w0.heap.size) (hW : Below n₀ w0 w)
  (hfb : Bk w fb #[.int .i64 T, .slice qa Q qc, .slice ia M ic, .slice da D dc] 33) (hdb : Bk w db #[.int .i64 k] 3)
  (hbb : ∀ W1 W2, w.heap.size <= W1.heap.size -> Below W1.heap.size W1 W2 -> bb W2 = bb W1) (hbl : ∀ x ∈ bb w, x < w.heap.size) :
  SeqStopsK Fence.wide n Tryz.prog 95 #[.pointer (some ⟨fb, 0, none⟩), .pointer (some ⟨db, 0, none⟩)] ev (Kp n₀ bb) (fun ys => ys = entsV f k) (Stops f k K) N w := fun l J Jx W hwW hJ hJx hY h0 => by
 have e := hbb w W (Nat.le_refl _) hwW
 have := ents_in n hn l n₀ fb db N bb w0 W f k K T Q M D qa qc ia ic da dc hN hg hK hf hn₀ (hW.trans (hwW.mono (by rw [hn₀]; exact hW.size))) (hfb.all hwW) (hdb.all hwW) J Jx (fun s A B hs hb => abides_below hJ hs hb) (fun A B hA hb => hbb A B (Nat.le_trans hwW.size hA) hb) (fun x hx => by rw [e] at hx; exact Nat.lt_of_lt_of_le (hbl x hx) hwW.size) hY h0
 exact this
end Go.Proofs.YthppbcnejapbiaaGreatDoor.EnI

-- YthppbcnejapbiaaGreatDoorEnD
/- A part. -/
namespace Go.Proofs.YthppbcnejapbiaaGreatDoor.EnD
set_option maxHeartbeats 1600000
set_option maxRecDepth 100000
open Go.ChangeShapes Go.WideShapes Go.ChangeAt Go.RowKit
open Foot Bx
open InoV (I)
open FsV (F okF e0 z32)
open FsY FsZ CoC CoN SpR
open Dk (ret_bool)
set_option linter.unusedVariables false
theorem ret_i {a b : Int} (h : a = b) : Ending.returned (.int .i64 a) = .returned (.int .i64 b) := by rw [h]
def dirC (f : F) (i : Int) : Int := if hasObjB f i = true then (if (ino f i.toNat).kind = 2 then 0 else 5) else 1
theorem dirC_ok {f : F} {i : Int} (h : dirC f i = 0) : hasObjB f i = true /\ (ino f i.toNat).kind = 2 := by
 unfold dirC at h
 split at h
 ·split at h
  ·exact ⟨by assumption, by assumption⟩
  ·cases h
 ·cases h
theorem dirC_no {f : F} {i : Int} (h : hasObjB f i = false) : dirC f i = 1 := by unfold dirC; rw [h]; rfl
theorem dirC_other {f : F} {i : Int} (h : hasObjB f i = true) (hk : (ino f i.toNat).kind ≠ 2) : dirC f i = 5 := by unfold dirC; rw [if_pos h, if_neg hk]
theorem dirC_dir {f : F} {i : Int} (h : hasObjB f i = true) (hk : (ino f i.toNat).kind = 2) : dirC f i = 0 := by unfold dirC; rw [if_pos h, if_pos hk]
theorem dir_impl (w : World) (v : Value) (f : F) (i : Int) (hc : FsF.cost f <= 1073741824) (hl : FsF.Lim f) (hv : InOk.Vars w) (h : FsF.Holds w v f) :
  Calls Tryz.prog 49 #[v, .int .i64 i] w fun e w' => e = .returned (.int .i64 (dirC f i)) /\ Below w.heap.size w w' := by
 have HFS := Lib.hid h
 have HCC := Lib.hid hc
 have HLM := Lib.hid hl
 have HV := Lib.hid hv
 obtain ⟨r0, r1, r2, rfl, g0, g1, g2⟩ := h
 have HI1 := Lib.hid g1
 obtain ⟨qa, qc, rfl⟩ := QF.form g0
 obtain ⟨ia, ic, rfl⟩ := IF.form g1
 obtain ⟨da, dc, rfl⟩ := SF.form g2
 clear g0 g1 g2 hc hl hv
 obtain ⟨T, hT⟩ : ∃ T, T = f.tick := ⟨_, rfl⟩
 obtain ⟨Q, hQ⟩ : ∃ Q, Q = f.quotas.length := ⟨_, rfl⟩
 obtain ⟨M, hM⟩ : ∃ M, M = f.inodes.length := ⟨_, rfl⟩
 obtain ⟨D, hD⟩ : ∃ D, D = f.data.length := ⟨_, rfl⟩
 rw [<- hT, <- hQ, <- hM, <- hD] at HFS ⊢
 rw [<- hM] at HI1
 have HM := Lib.hid hM
 clear hT hQ hM hD
 have HB0 := Lib.hid ((Below.refl w.heap.size w).alloc (Nat.le_refl _) (.cells #[.int .i64 T, .slice qa Q qc, .slice ia M ic, .slice da D dc] 33))
 have HX0 := Lib.hid (new w #[.int .i64 T, .slice qa Q qc, .slice ia M ic, .slice da D dc] 33)
 obtain ⟨C, hC⟩ : ∃ C, C = hasObjB f i := ⟨_, rfl⟩
 have HIS := Lib.hid (fun W v (hw : InOk.Vars W) (hF : FsF.Holds W v f) => show Calls Tryz.prog 80 #[v, .int .i64 i] W fun e w' => e = .returned (.bool C) /\ Below W.heap.size W w' from by rw [hC]; exact has_impl W v f i HCC.out HLM.out hw hF)
 have HCE := Lib.hid hC
 cases C
 ·have HF := Lib.hid (dirC_no HCE.out.symm)
  clear hC
  go_enter Tryz.func49, Tryz.ntmps49
  go_wp2_with fail
  refine (HIS.out _ _ (HV.out.all HB0.out) (FsF.holds_below HFS.out HB0.out)).mono ?_
  rintro e w1 ⟨rfl, hb⟩
  have HB1 := Lib.hid (HB0.out.trans (hb.mono HB0.out.size))
  clear hb
  go_wp2
  go_ret
  exact ⟨ret_i HF.out.symm, HB1.out⟩
 ·have hob := HCE.out.symm
  unfold hasObjB at hob
  simp only [Bool.and_eq_true, decide_eq_true_eq] at hob
  obtain ⟨⟨⟨h0, h19⟩, hok⟩, _⟩ := hob
  obtain ⟨k, rfl⟩ : ∃ k : Nat, i = k := ⟨i.toNat, by omega⟩
  have hk : k < 20 := by omega
  have hM20 : M = 20 := by rw [HM.out]; exact (FsV.parts_of (FsV.ok_parts hok).2.1).2.1
  clear hC h0 h19 hok
  have q0 : (0 : Int) <= k := by omega
  have q1 : (k : Int) < 20 := by omega
  subst hM20
  obtain ⟨a9, c9, e9, l9, hat⟩ := HI1.out
  rw [Value.slice.injEq] at e9
  obtain ⟨rfl, e8, rfl⟩ := e9
  clear e8 l9
  obtain ⟨b, o, rfl, hb, r0, r1, r2, hCl, hP⟩ := hat k (by rw [<- HM.out]; exact hk)
  have hc0 := hCl.1
  rw [show f.inodes.getD k IF.z0 = ino f k from rfl] at hc0
  have HHB := Lib.hid hb
  clear hat hCl hP hb
  obtain ⟨K, hK⟩ : ∃ K, K = (ino f k).kind := ⟨_, rfl⟩
  rw [<- hK] at hc0
  have HK := Lib.hid hK
  clear hK
  have HC0 := Lib.hid hc0
  clear hc0
  go_enter Tryz.func49, Tryz.ntmps49
  go_wp2_with fail
  refine (HIS.out _ _ (HV.out.all HB0.out) (FsF.holds_below HFS.out HB0.out)).mono ?_
  rintro e w1 ⟨rfl, hb⟩
  have HB1 := Lib.hid (HB0.out.trans (hb.mono HB0.out.size))
  have HX1 := Lib.hid (HX0.out.all hb)
  clear hb
  obtain ⟨x0, x1, x2, x3⟩ := Bk.c4 HX1.out
  have c0 := HB1.out.cell (p := ⟨b, o + k * 10, none⟩) HHB.out
  rw [HC0.out] at c0
  by_cases hz : K = 2
  ·have HF := Lib.hid (dirC_dir HCE.out.symm (by rw [Int.toNat_natCast, <- HK.out]; exact hz))
   subst hz
   go_wp2
   go_ret
   exact ⟨ret_i HF.out.symm, HB1.out⟩
  ·have HF := Lib.hid (dirC_other HCE.out.symm (by rw [Int.toNat_natCast, <- HK.out]; exact hz))
   have z1 : (K != 2) = true := by simpa using hz
   have z2 : (K == 2) = false := by simpa using hz
   clear hz
   go_wp2
   go_ret
   exact ⟨ret_i HF.out.symm, HB1.out⟩
theorem dir_spec (w : World) (v : Value) (f : F) (i : Int) (hc : FsF.cost f <= 1073741824) (hl : FsF.Lim f) (h : FsF.Holds w v f) :
  Calls Tryz.prog 44 #[v, .int .i64 i] w fun e w' => e = .returned (.int .i64 (dirC f i)) /\ Below w.heap.size w w' := by
 have HFS := Lib.hid h
 have HCC := Lib.hid hc
 have HLM := Lib.hid hl
 obtain ⟨r0, r1, r2, rfl, g0, g1, g2⟩ := h
 have HI1 := Lib.hid g1
 obtain ⟨qa, qc, rfl⟩ := QF.form g0
 obtain ⟨ia, ic, rfl⟩ := IF.form g1
 obtain ⟨da, dc, rfl⟩ := SF.form g2
 clear g0 g1 g2 hc hl
 obtain ⟨T, hT⟩ : ∃ T, T = f.tick := ⟨_, rfl⟩
 obtain ⟨Q, hQ⟩ : ∃ Q, Q = f.quotas.length := ⟨_, rfl⟩
 obtain ⟨M, hM⟩ : ∃ M, M = f.inodes.length := ⟨_, rfl⟩
 obtain ⟨D, hD⟩ : ∃ D, D = f.data.length := ⟨_, rfl⟩
 rw [<- hT, <- hQ, <- hM, <- hD] at HFS ⊢
 rw [<- hM] at HI1
 have HM := Lib.hid hM
 clear hT hQ hM hD
 have HB0 := Lib.hid ((Below.refl w.heap.size w).alloc (Nat.le_refl _) (.cells #[.int .i64 T, .slice qa Q qc, .slice ia M ic, .slice da D dc] 33))
 have HX0 := Lib.hid (new w #[.int .i64 T, .slice qa Q qc, .slice ia M ic, .slice da D dc] 33)
 obtain ⟨C, hC⟩ : ∃ C, C = hasObjB f i := ⟨_, rfl⟩
 have HIS := Lib.hid (fun W v (hF : FsF.Holds W v f) => show Calls Tryz.prog 77 #[v, .int .i64 i] W fun e w' => e = .returned (.bool C) /\ Below W.heap.size W w' from by rw [hC]; exact use_spec W v f i HCC.out HLM.out hF)
 have HCE := Lib.hid hC
 cases C
 ·have HF := Lib.hid (dirC_no HCE.out.symm)
  clear hC
  go_enter Tryz.func44, Tryz.ntmps44
  go_wp2_with fail
  refine (HIS.out _ _ (FsF.holds_below HFS.out HB0.out)).mono ?_
  rintro e w1 ⟨rfl, hb⟩
  have HB1 := Lib.hid (HB0.out.trans (hb.mono HB0.out.size))
  clear hb
  go_wp2
  go_ret
  exact ⟨ret_i HF.out.symm, HB1.out⟩
 ·have hob := HCE.out.symm
  unfold hasObjB at hob
  simp only [Bool.and_eq_true, decide_eq_true_eq] at hob
  obtain ⟨⟨⟨h0, h19⟩, hok⟩, _⟩ := hob
  obtain ⟨k, rfl⟩ : ∃ k : Nat, i = k := ⟨i.toNat, by omega⟩
  have hk : k < 20 := by omega
  have hM20 : M = 20 := by rw [HM.out]; exact (FsV.parts_of (FsV.ok_parts hok).2.1).2.1
  clear hC h0 h19 hok
  have q0 : (0 : Int) <= k := by omega
  have q1 : (k : Int) < 20 := by omega
  subst hM20
  obtain ⟨a9, c9, e9, l9, hat⟩ := HI1.out
  rw [Value.slice.injEq] at e9
  obtain ⟨rfl, e8, rfl⟩ := e9
  clear e8 l9
  obtain ⟨b, o, rfl, hb, r0, r1, r2, hCl, hP⟩ := hat k (by rw [<- HM.out]; exact hk)
  have hc0 := hCl.1
  rw [show f.inodes.getD k IF.z0 = ino f k from rfl] at hc0
  have HHB := Lib.hid hb
  clear hat hCl hP hb
  obtain ⟨K, hK⟩ : ∃ K, K = (ino f k).kind := ⟨_, rfl⟩
  rw [<- hK] at hc0
  have HK := Lib.hid hK
  clear hK
  have HC0 := Lib.hid hc0
  clear hc0
  go_enter Tryz.func44, Tryz.ntmps44
  go_wp2_with fail
  refine (HIS.out _ _ (FsF.holds_below HFS.out HB0.out)).mono ?_
  rintro e w1 ⟨rfl, hb⟩
  have HB1 := Lib.hid (HB0.out.trans (hb.mono HB0.out.size))
  have HX1 := Lib.hid (HX0.out.all hb)
  clear hb
  obtain ⟨x0, x1, x2, x3⟩ := Bk.c4 HX1.out
  have c0 := HB1.out.cell (p := ⟨b, o + k * 10, none⟩) HHB.out
  rw [HC0.out] at c0
  by_cases hz : K = 2
  ·have HF := Lib.hid (dirC_dir HCE.out.symm (by rw [Int.toNat_natCast, <- HK.out]; exact hz))
   subst hz
   go_wp2
   go_ret
   exact ⟨ret_i HF.out.symm, HB1.out⟩
  ·have HF := Lib.hid (dirC_other HCE.out.symm (by rw [Int.toNat_natCast, <- HK.out]; exact hz))
   have z1 : (K != 2) = true := by simpa using hz
   have z2 : (K == 2) = false := by simpa using hz
   clear hz
   go_wp2
   go_ret
   exact ⟨ret_i HF.out.symm, HB1.out⟩
end Go.Proofs.YthppbcnejapbiaaGreatDoor.EnD

-- YthppbcnejapbiaaGreatDoorEnF
/- A part. -/
namespace Go.Proofs.YthppbcnejapbiaaGreatDoor.EnF
open Go.ChangeShapes Go.WideShapes Go.ChangeAt Go.RowKit Go.Shelf
open Foot Bx
open InoV (I usedV needV)
open FsV (F okF e0 z32)
open FsY FsZ FoB CoN CoFr
open EnV EnP EnI EnD
set_option linter.unusedVariables false
attribute [local go_sem] Oper.semAt_some
def findL (l : List (ByteArray × Int)) (s : ByteArray) : Option (ByteArray × Int) := l.find? (fun e => decide (e.1 = s))
def findV (f : F) (i : Int) (s : ByteArray) : Option Int := if dirC f i = 0 then (findL (entsV f i.toNat) s).map (·.2) else none
theorem find_none {l : List (ByteArray × Int)} {s : ByteArray} (h : ∀ e ∈ l, e.1 ≠ s) : findL l s = none := List.find?_eq_none.2 (fun e he => by simpa using h e he)
theorem find_hit {ini : List (ByteArray × Int)} {x : ByteArray × Int} {s : ByteArray} (h : ∀ e ∈ ini, e.1 ≠ s) (hx : x.1 = s) (r : List (ByteArray × Int)) : findL ((ini ++ [x]) ++ r) s = some x := by
 have h0 : ini.find? (fun e => decide (e.1 = s)) = none := find_none h
 unfold findL
 rw [List.append_assoc, List.find?_append, h0]
 simp [hx]
theorem ents_split {c : List UInt8} {K j : Nat} {x : ByteArray × Int} (h : j < K) (hx : entB ⟨((c.drop (16 * j)).take 16).toArray⟩ = some x) : ∃ r, entsL c K = (entsL c j ++ [x]) ++ r := by
 induction K with
 | zero => omega
 | succ K ih =>
  by_cases hj : j = K
  ·subst hj; exact ⟨[], by rw [ents_succ, hx, List.append_nil]⟩
  ·obtain ⟨r, hr⟩ := ih (by omega)
   exact ⟨_, by rw [ents_succ, hr, List.append_assoc]⟩
theorem stop_find {f : F} {k K : Nat} {ini : List (ByteArray × Int)} {x : ByteArray × Int} {s : ByteArray} (hK : K = (ino f k).size.toNat / 16) (h : Stops f k K (ini ++ [x])) (h1 : ∀ e ∈ ini, e.1 ≠ s) (hx : x.1 = s) : findL (entsV f k) s = some x := by
 obtain ⟨j, y, hj, hy, he⟩ := h
 obtain ⟨rfl, e2⟩ := List.append_inj' he rfl
 cases e2
 obtain ⟨r, hr⟩ := ents_split hj hy
 unfold entsV
 rw [<- hK, hr]
 exact find_hit h1 hx r
theorem kp_refl {n₀ : Nat} (W : World) : Kp n₀ (fun _ => []) W W := ⟨Below.refl _ _, fun _ _ _ _ => rfl, fun _ h => .inl h⟩
theorem kp_alloc {n₀ : Nat} {W : World} (h : n₀ <= W.heap.size) (o : Obj) : Kp n₀ (fun _ => []) W (W.alloc o) := ⟨(Below.refl _ W).alloc h o, fun k hk _ _ => Below.heap_alloc W o k hk, fun _ h => .inl h⟩
theorem ret_two {a b : Int} {c d : Bool} (h : a = b) (h2 : c = d) : Ending.returned (.tuple #[.int .i64 a, .bool c]) = .returned (.tuple #[.int .i64 b, .bool d]) := by rw [h, h2]
set_option maxRecDepth 100000 in
set_option maxHeartbeats 6400000 in
theorem find_impl (w : World) (v : Value) (f : F) (i : Int) (s : ByteArray) (hc : FsF.cost f <= 1073741824) (hl : FsF.Lim f) (hv : InOk.Vars w) (h : FsF.Holds w v f) :
  Calls Tryz.prog 15 #[v, .int .i64 i, .string s] w fun e w' => e = .returned (.tuple #[.int .i64 ((findV f i s).getD 0), .bool (findV f i s).isSome]) /\ Below w.heap.size w w' := by
 have HFS := Lib.hid h
 have HCC := Lib.hid hc
 have HLM := Lib.hid hl
 have HV := Lib.hid hv
 obtain ⟨r0, r1, r2, rfl, g0, g1, g2⟩ := h
 obtain ⟨qa, qc, rfl⟩ := QF.form g0
 obtain ⟨ia, ic, rfl⟩ := IF.form g1
 obtain ⟨da, dc, rfl⟩ := SF.form g2
 clear g0 g1 g2 hc hl hv
 obtain ⟨T, hT⟩ : ∃ T, T = f.tick := ⟨_, rfl⟩
 obtain ⟨Q, hQ⟩ : ∃ Q, Q = f.quotas.length := ⟨_, rfl⟩
 obtain ⟨M, hM⟩ : ∃ M, M = f.inodes.length := ⟨_, rfl⟩
 obtain ⟨D, hD⟩ : ∃ D, D = f.data.length := ⟨_, rfl⟩
 rw [<- hT, <- hQ, <- hM, <- hD] at HFS ⊢
 clear hT hQ hM hD
 obtain ⟨w3, hw3⟩ : ∃ w3, (((w.alloc (.cells #[.int .i64 T, .slice qa Q qc, .slice ia M ic, .slice da D dc] 33)).alloc (.cells #[.string s] 9)).alloc (.cells #[.int .i64 0] 3)).alloc (.cells #[.bool false] 4) = w3 := ⟨_, rfl⟩
 have hB3 : Below w.heap.size w w3 := by rw [<- hw3]; exact ((((Below.refl _ w).alloc (Nat.le_refl _) _).alloc (by simp) _).alloc (by simp; omega) _).alloc (by simp; omega) _
 have hs3 : w3.heap.size = w.heap.size + 4 := by rw [<- hw3]; simp
 have bF : Bk w3 w.heap.size #[.int .i64 T, .slice qa Q qc, .slice ia M ic, .slice da D dc] 33 := by rw [<- hw3]; exact (((new w _ _).alloc _).alloc _).alloc _
 have bN : Bk w3 (w.heap.size + 1) #[.string s] 9 := by
  have := ((new (w.alloc (.cells #[.int .i64 T, .slice qa Q qc, .slice ia M ic, .slice da D dc] 33)) #[.string s] 9).alloc (.cells #[.int .i64 0] 3)).alloc (.cells #[.bool false] 4)
  rw [World.size_alloc, hw3] at this; exact this
 have bI : Bk w3 (w.heap.size + 1 + 1) #[.int .i64 0] 3 := by
  have := (new ((w.alloc (.cells #[.int .i64 T, .slice qa Q qc, .slice ia M ic, .slice da D dc] 33)).alloc (.cells #[.string s] 9)) #[.int .i64 0] 3).alloc (.cells #[.bool false] 4)
  rw [World.size_alloc, World.size_alloc, hw3] at this; exact this
 have bO : Bk w3 (w.heap.size + 1 + 1 + 1) #[.bool false] 4 := by
  have := new (((w.alloc (.cells #[.int .i64 T, .slice qa Q qc, .slice ia M ic, .slice da D dc] 33)).alloc (.cells #[.string s] 9)).alloc (.cells #[.int .i64 0] 3)) #[.bool false] 4
  rw [World.size_alloc, World.size_alloc, World.size_alloc, hw3] at this; exact this
 obtain ⟨C, hC⟩ : ∃ C, C = dirC f i := ⟨_, rfl⟩
 have HDI := Lib.hid (fun (W : World) (hb : Below w.heap.size w W) => show Calls Tryz.prog 49 #[.agg #[.int .i64 T, .slice qa Q qc, .slice ia M ic, .slice da D dc], .int .i64 i] W fun e w' => e = .returned (.int .i64 C) /\ Below W.heap.size W w' from by rw [hC]; exact dir_impl W _ f i HCC.out HLM.out (HV.out.all hb) (FsF.holds_below HFS.out hb))
 have HC := Lib.hid hC
 clear hC
 obtain ⟨x0, x1, x2, x3⟩ := Bk.c4 bF
 have hle : w.heap.size <= w.heap.size + 1 + 1 := by omega
 have hle2 : w.heap.size <= w.heap.size + 1 + 1 + 1 := by omega
 by_cases hz : C = 0
 ·subst hz
  have hdir := dirC_ok HC.out.symm
  have HFV := Lib.hid (show findV f i s = (findL (entsV f i.toNat) s).map (·.2) from if_pos HC.out.symm)
  obtain ⟨k, rfl, hg⟩ := good_of hdir.1
  rw [Int.toNat_natCast] at HFV
  have HG := Lib.hid hg
  clear hdir hg
  refine (callsIn_wide (n := 3)).1 ?_
  refine callsIn_of_wp_marks Tryz.func15 rfl trivial ?_ rfl
  simp only [Tryz.ntmps15, List.size_toArray, List.length_cons, List.length_nil, Nat.reduceAdd, Nat.reduceSub, Array.replicate_succ, Array.replicate_zero, List.push_toArray, List.append_toArray, List.nil_append, List.cons_append]
  gi_wp2_with fail
  refine ⟨trivial, (callsIn_wide.2 (HDI.out w3 hB3)).mono ?_⟩
  rintro e w4 ⟨rfl, hb4⟩
  have hB4 := hB3.trans (hb4.mono hB3.size)
  replace bF := bF.all hb4
  replace bN := bN.all hb4
  replace bI := bI.all hb4
  replace bO := bO.all hb4
  have hs4 := hb4.size
  clear x0 x1 x2 x3 hb4
  obtain ⟨x0, x1, x2, x3⟩ := Bk.c4 bF
  gi_wp2_with fail
  refine ⟨trivial, (callsIn_wide.2 (in_impl w4 T Q M D qa qc ia ic da dc k)).mono ?_⟩
  rintro e w5 ⟨rfl, hw5⟩
  have hb5 : Below w4.heap.size w4 w5 := by rw [hw5]; exact ((Below.refl _ w4).alloc (Nat.le_refl _) _).alloc (by simp) _
  have bE : Bk w5 w4.heap.size #[.int .i64 T, .slice qa Q qc, .slice ia M ic, .slice da D dc] 33 := by rw [hw5]; exact (new w4 _ _).alloc _
  have bK : Bk w5 (w4.heap.size + 1) #[.int .i64 k] 3 := by
   have := new (w4.alloc (.cells #[.int .i64 T, .slice qa Q qc, .slice ia M ic, .slice da D dc] 33)) #[.int .i64 k] 3
   rw [World.size_alloc] at this
   rw [hw5]; exact this
  have hB5 := hB4.trans (hb5.mono hB4.size)
  replace bF := bF.all hb5
  replace bN := bN.all hb5
  replace bI := bI.all hb5
  replace bO := bO.all hb5
  have hs5 := hb5.size
  clear x0 x1 x2 x3 hb5 hw5
  gi_wp2_with fail
  obtain ⟨K, hK⟩ : ∃ K, K = (ino f k).size.toNat / 16 := ⟨_, rfl⟩
  have HK := Lib.hid hK
  refine wpIn_rangeFunc_ownH rfl (by decide) (gf := 95) (lb := #[.pointer (some ⟨w4.heap.size, 0, none⟩), .pointer (some ⟨w4.heap.size + 1, 0, none⟩)]) rfl trivial (enters_of Tryz.func95 (by kernel_rfl) rfl)
   (ents_stops 2 (by decide) w.heap.size w4.heap.size (w4.heap.size + 1) K (fun _ => []) w w5 f k K T Q M D qa qc ia ic da dc (Nat.le_refl _) HG.out hK HFS.out rfl hB5 bE bK (fun _ _ _ _ => rfl) (fun x hx => by cases hx)) kp_t (kp_b (by have := hB5.size; omega) (fun _ _ _ _ _ _ => rfl)) (Below.refl _ _) (fun _ => rfl)
   (fun pre W => (∀ e ∈ pre, e.1 ≠ s) /\ Below w5.heap.size w5 W)
   (fun c pre W => (c = .ret /\ ∃ ini x, pre = ini ++ [x] /\ (∀ e ∈ ini, e.1 ≠ s) /\ x.1 = s /\ W.cell? ⟨w.heap.size + 1 + 1, 0, none⟩ = some (.int .i64 x.2) /\ W.cell? ⟨w.heap.size + 1 + 1 + 1, 0, none⟩ = some (.bool true)) /\ Below w.heap.size w W)
   (OwnFrom.and (ownFrom_pure _ _) (ownFrom_below (Nat.le_refl _) (Nat.le_refl _)))
   (fun c => OwnFrom.and (Own.from (fun s' A B row hs hg hr => by obtain ⟨hc, ini, x, e1, e2, e3, e4, e5⟩ := hs; exact ⟨hc, ini, x, e1, e2, e3, cell_kept e4 hg hr, cell_kept e5 hg hr⟩) _) (ownFrom_below (Nat.le_refl _) hB5.size))
   ⟨by simp, Below.refl _ _⟩
   (fun x a' W => ∃ Bx, w5.heap.size <= Bx /\ Bk W Bx #[.string x.1, .int .i64 x.2] 75 /\ a' =
    { tmps := #[.agg #[.int .i64 T, .slice qa Q qc, .slice ia M ic, .slice da D dc], .int .i64 k, .string s, .pointer (some ⟨w.heap.size, 0, none⟩), undef, .pointer (some ⟨w.heap.size + 1, 0, none⟩), .pointer (some ⟨w.heap.size + 1 + 1, 0, none⟩), .pointer (some ⟨w.heap.size + 1 + 1 + 1, 0, none⟩), .pointer (some ⟨Bx, 0, none⟩),
      .agg #[.int .i64 T, .slice qa Q qc, .slice ia M ic, .slice da D dc], .int .i64 k, .int .i64 0, .bool false, .agg #[.int .i64 T, .slice qa Q qc, .slice ia M ic, .slice da D dc], .int .i64 k,
      .func (.func 95) #[] #[.pointer (some ⟨w4.heap.size, 0, none⟩), .pointer (some ⟨w4.heap.size + 1, 0, none⟩)], .agg #[.string x.1, .int .i64 x.2], undef, undef, undef, undef, undef, undef], defers := [] })
   (fun x a' _ X Y row hs hg hr => by obtain ⟨Bx, h1, h2, h3⟩ := hs; exact ⟨Bx, h1, h2.grown hg (fun e => by obtain ⟨_, o, ho, hc⟩ := hr Bx e.symm; rw [show X.heap[Bx]? = _ from h2] at ho; cases ho; cases hc), h3⟩)
   ?assign ?body ?done ?stop
  case assign =>
   rintro l pre x W KK ⟨hp, hB⟩ hKK
   unfold ev
   generalize x.1 = x1 at hKK ⊢
   generalize x.2 = x2 at hKK ⊢
   gi_wp2
   exact hKK _ _ ((KeepsOthers.alloc _ _).from _) (kp_alloc (by have := hB.size; have := hB5.size; omega) _) ⟨hp, hB.alloc hB.size _⟩ ⟨W.heap.size, hB.size, new W _ _, rfl⟩
  case body =>
   rintro l pre x a' W hl ⟨r, hr⟩ ⟨hp, hB⟩ ⟨Bx, hBx, bX, rfl⟩ hlt
   have HP := Lib.hid hp
   clear hp
   have q0 := bX.two.1
   have q1 := bX.two.2
   have q2 := (bN.all hB).cell 0
   have bI' := bI.all hB
   have q3 := bI'.cell 0
   have q4 := bI'.free 0
   have bO' := bO.all hB
   have q5 := bO'.cell 0
   have q6 := bO'.free 0
   have hBw := hB5.trans (hB.mono hB5.size)
   by_cases hx : x.1 = s
   ·have HX := Lib.hid hx
    rw [hx] at q0
    generalize x.1 = x1
    obtain ⟨x2, hx2⟩ : ∃ q, q = x.2 := ⟨_, rfl⟩
    rw [<- hx2] at q1
    have HX2 := Lib.hid hx2
    clear hx hx2
    gi_wp2
    exact ⟨((KeepsOthers.setCell _ _ _).trans (KeepsOthers.setCell _ _ _)).from _, ⟨rfl, pre, x, rfl, HP.out, HX.out, by
      rw [<- HX2.out]
      exact ((bI'.set 0 (.int .i64 x2)).far (p := ⟨w.heap.size + 1 + 1 + 1, 0, none⟩) (by show _ ≠ w.heap.size + 1 + 1 + 1; omega) (.bool true)).cell 0,
     ((bO'.far (p := ⟨w.heap.size + 1 + 1, 0, none⟩) (by show _ ≠ w.heap.size + 1 + 1; omega) (.int .i64 x2)).set 0 (.bool true)).cell 0⟩, (hBw.setCell (p := ⟨w.heap.size + 1 + 1, 0, none⟩) hle _).setCell (p := ⟨w.heap.size + 1 + 1 + 1, 0, none⟩) hle2 _⟩
   ·have HX := Lib.hid hx
    obtain ⟨x1, hx1⟩ : ∃ q, q = x.1 := ⟨_, rfl⟩
    rw [<- hx1] at q0 hx
    have hbq := str_ne hx
    have hbq2 : x1.toList ≠ s.toList := by simpa using hbq
    clear hx1 hx
    generalize x.2 = x2 at q1
    gi_wp2
    exact ⟨KeepsFrom.refl _ _, kp_refl _, fun y hy => (List.mem_append.1 hy).elim (HP.out y) (fun e => by simp at e; subst e; exact HX.out), hB⟩
  case done =>
   rintro Dd ys W hD rfl ⟨hne, hB⟩ hK'
   have HN := Lib.hid hne
   clear hne
   have bI' := bI.all hB
   have q3 := bI'.cell 0
   have q4 := bI'.free 0
   have bO' := bO.all hB
   have q5 := bO'.cell 0
   have q6 := bO'.free 0
   have hBw := hB5.trans (hB.mono hB5.size)
   gi_wp2
   have hK2 := ((KeepsOthers.setCell W ⟨w.heap.size + 1 + 1, 0, none⟩ (.int .i64 0)).trans (KeepsOthers.setCell _ ⟨w.heap.size + 1 + 1 + 1, 0, none⟩ (.bool false))).same Dd _ hK' rfl
   refine ⟨by simp, .inl ⟨_, _, rfl, run_takeDeferred hK2, ?_⟩⟩
   have hcI := cell_kept (((bI'.set 0 (.int .i64 0)).far (p := ⟨w.heap.size + 1 + 1 + 1, 0, none⟩) (by show _ ≠ w.heap.size + 1 + 1 + 1; omega) (.bool false)).cell 0) (grownBy_putObj' _ Dd (.deferred none)) (fun r e => by cases e; exact ⟨_, hK2, rfl⟩)
   have hcO := cell_kept (((bO'.far (p := ⟨w.heap.size + 1 + 1, 0, none⟩) (by show _ ≠ w.heap.size + 1 + 1; omega) (.int .i64 0)).set 0 (.bool false)).cell 0) (grownBy_putObj' _ Dd (.deferred none)) (fun r e => by cases e; exact ⟨_, hK2, rfl⟩)
   have HNF := Lib.hid (show findV f (k : Int) s = none from by rw [HFV.out, find_none HN.out]; rfl)
   refine ⟨.tuple #[.int .i64 0, .bool false], ?_, ret_two (by rw [HNF.out]; rfl) (by rw [HNF.out]; rfl), ((hBw.setCell (p := ⟨w.heap.size + 1 + 1, 0, none⟩) hle _).setCell (p := ⟨w.heap.size + 1 + 1 + 1, 0, none⟩) hle2 _).trans (belowK_b (w := w) (Nat.le_refl _) _ Dd _ _ (by have := hB5.size; omega) hK2 rfl rfl)⟩
   simp [results, Tryz.results15, go_sem, hcI, hcO]
  case stop =>
   rintro Dd c pre W hD hst ⟨⟨rfl, ini, x, rfl, e2, e3, hcr, hco⟩, hB⟩ hK'
   have HV := Lib.hid (stop_find HK.out hst e2 e3)
   gi_wp2
   refine ⟨by simp, .inl ⟨_, _, rfl, run_takeDeferred hK', ?_⟩⟩
   have hcI := cell_kept hcr (grownBy_putObj' _ Dd (.deferred none)) (fun r e => by cases e; exact ⟨_, hK', rfl⟩)
   have hcO := cell_kept hco (grownBy_putObj' _ Dd (.deferred none)) (fun r e => by cases e; exact ⟨_, hK', rfl⟩)
   have HSF := Lib.hid (show findV f (k : Int) s = some x.2 from by rw [HFV.out, HV.out]; rfl)
   refine ⟨.tuple #[.int .i64 x.2, .bool true], ?_, ret_two (by rw [HSF.out]; rfl) (by rw [HSF.out]; rfl), hB.trans (belowK_b (w := w) (Nat.le_refl _) W Dd _ _ (by have := hB5.size; omega) hK' rfl rfl)⟩
   simp [results, Tryz.results15, go_sem, hcI, hcO]
 ·have HFV := Lib.hid (show findV f i s = none from if_neg (by rw [<- HC.out]; exact hz))
  have z1 : (C != 0) = true := by simpa using hz
  have z2 : (C == 0) = false := by simpa using hz
  clear hz
  go_enter Tryz.func15, Tryz.ntmps15
  go_wp2_with fail
  refine (HDI.out w3 hB3).mono ?_
  rintro e w4 ⟨rfl, hb4⟩
  have hB4 := hB3.trans (hb4.mono hB3.size)
  replace bI := bI.all hb4
  replace bO := bO.all hb4
  have q3 := bI.cell 0
  have q4 := bI.free 0
  have q5 := bO.cell 0
  have q6 := bO.free 0
  clear x0 x1 x2 x3 hb4
  go_wp2
  have hcI := ((bI.set 0 (.int .i64 0)).far (p := ⟨w.heap.size + 1 + 1 + 1, 0, none⟩) (by show _ ≠ w.heap.size + 1 + 1 + 1; omega) (.bool false)).cell 0
  have hcO := ((bO.far (p := ⟨w.heap.size + 1 + 1, 0, none⟩) (by show _ ≠ w.heap.size + 1 + 1; omega) (.int .i64 0)).set 0 (.bool false)).cell 0
  refine bodyPost_ret (v := .tuple #[.int .i64 0, .bool false]) ?_ rfl ⟨ret_two (by rw [HFV.out]; rfl) (by rw [HFV.out]; rfl), (hB4.setCell (p := ⟨w.heap.size + 1 + 1, 0, none⟩) hle _).setCell (p := ⟨w.heap.size + 1 + 1 + 1, 0, none⟩) hle2 _⟩
  simp [results, Tryz.results15, go_sem, hcI, hcO]
end Go.Proofs.YthppbcnejapbiaaGreatDoor.EnF
