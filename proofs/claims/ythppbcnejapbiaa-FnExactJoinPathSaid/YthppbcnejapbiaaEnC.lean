/- Contracts: strings.IndexRune, IndexAny and ContainsAny with the two bytes 0 and '/' as the characters, at every string of at most a thousand bytes. Conditions: as each theorem types them. -/
import Derived.Test.YthppbcnejapbiaaKit
import Derived.Test.YthppbcnejapbiaaShelf
import Derived.Laws.RangeAny
import Derived.Deep.RegionLaw
import Derived.WalkMore
import Derived.Deep.Cut
import Derived.BigQuiet
import Derived.Deep.QuietTactic
import Derived.Deep.RegionHeld3
namespace Go.Proofs.Ythppbcnejapbiaa.EnC
open Go.ChangeShapes Go.WideShapes Go.ChangeAt Go.RowKit
set_option linter.unusedVariables false

def sl : ByteArray := ⟨#[0, 47]⟩
/-- The byte 0 or '/'. -/
def nulB (c : UInt8) : Bool := c == 0 || c == 47
theorem ret_int {a b : Int} (h : a = b) : Ending.returned (.int .i64 a) = .returned (.int .i64 b) := by rw [h]

theorem idx (s : ByteArray) (j : Nat) (h : j < s.size) (q : Int) (hq : q = (j : Int)) (W : World) : (Instr.index 9 (.string s) (.int .i64 q)).run Try.prog W = .ok (.int .u8 (s[j].toNat : Int)) W := by
  subst hq
  simp [Instr.index, go_sem, h]
set_option maxRecDepth 100000 in
set_option maxHeartbeats 1600000 in
theorem rune_hi (r : Int) (h : 128 ≤ r) (w : World) :
    Calls Try.prog 25 #[.string sl, .int .i32 r] w fun e w' => e = .returned (.int .i64 (-1)) ∧ Below w.heap.size w w' := by
  have q0 : decide (r < 128) = false := decide_eq_false (by omega)
  have q00 : decide (0 ≤ r) = true := decide_eq_true (by omega)
  have HQ := Lib.hid h
  by_cases h1 : r = 65533
  · subst h1
    go_enter Try.func25, Try.ntmps25
    unfold sl
    go_wp2
    go_loopw [] (fun w' => ∃ pos : Nat, w' = w.iter ⟨#[0, 47]⟩ pos ∧ pos ≤ 2) (fun w' => 2 - w'.iterPos w.heap.size)
    case atStart => exact ⟨0, rfl, Nat.zero_le _⟩
    case round =>
      obtain ⟨pos, rfl, hpos⟩ := hrel
      by_cases hp : pos < 2
      · have hnx : ∀ ty, (Instr.next (.pointer (some ⟨w.heap.size, 0, none⟩)) true ty).run Try.prog (w.iter ⟨#[0, 47]⟩ pos) = _ := fun ty => run_next_any w ⟨#[0, 47]⟩ pos ty hp
        obtain rfl | rfl : pos = 0 ∨ pos = 1 := by omega
        · rw [show Utf8.decode ⟨#[0, 47]⟩ 0 = (0, 1) from rfl] at hnx
          go_wp2
          go_roundw
          case rel => exact ⟨1, rfl, by omega⟩
          case measure => simp
        · rw [show Utf8.decode ⟨#[0, 47]⟩ 1 = (47, 1) from rfl] at hnx
          go_wp2
          go_roundw
          case rel => exact ⟨2, rfl, by omega⟩
          case measure => simp
      · have hnx : ∀ ty, (Instr.next (.pointer (some ⟨w.heap.size, 0, none⟩)) true ty).run Try.prog (w.iter ⟨#[0, 47]⟩ pos) = _ := fun ty => run_next_end w ⟨#[0, 47]⟩ pos ty hp
        go_wp2
        go_ret
        exact ⟨rfl, (Below.refl _ _).alloc (Nat.le_refl _) _⟩
  · have q1 : (r == 65533) = false := by simpa using h1
    cases hv : Lib.validRune r
    · go_enter Try.func25, Try.ntmps25
      go_wp2_with (go_at_call 33; refine (Try.utf8_ValidRune _ _).mono ?_; rintro e w' ⟨rfl, hw⟩; have hw2 := hw.symm; clear hw; subst hw2; rw [hv])
      go_ret
      exact ⟨rfl, Below.refl _ _⟩
    · have hval : Utf8.valid r = true := by
        unfold Lib.validRune at hv
        unfold Utf8.valid
        simp only [decide_eq_true_eq] at hv
        simp
        omega
      obtain ⟨e1, e2, e3⟩ := encode_facts r hval h
      obtain ⟨R, hR⟩ : ∃ R, Utf8.encode r = R := ⟨_, rfl⟩
      rw [hR] at e1 e2 e3
      have hx := e3 (by omega)
      obtain ⟨x, hxe⟩ : ∃ x : UInt8, R[R.size - 1]'(by omega) = x := ⟨_, rfl⟩
      rw [hxe] at hx
      have hidx : ∀ W : World, (Instr.index 9 (.string R) (.int .i64 ((R.size : Int) - 1))).run Try.prog W = .ok (.int .u8 x.toNat) W := fun W => by
        rw [idx R (R.size - 1) (by omega) _ (by omega) W, hxe]
      clear e3
      have hx7 : (47 != (x.toNat : Int)) = true := by simp; omega
      have hxs : ((x.toNat : Int)).toNat.toUInt8 = x := by simp
      have hib := fun W => Try.strings_IndexByte ⟨#[]⟩ (x.toNat : Int) W
      rw [hxs, show Lib.indexByte (⟨#[]⟩ : ByteArray).data.toList x = -1 from rfl] at hib
      have HIB := Lib.hid hib
      clear hib hxs hxe
      obtain ⟨n, hn⟩ : ∃ n, R.size = n := ⟨_, rfl⟩
      rw [hn] at e1 e2 hidx
      have hcv : ∀ W : World, (convert 21 9 (.int .i32 r)).run Try.prog W = .ok (.string R) W := fun W => by rw [run_convert_int_string W _ _ _ _ (by rfl) Try.underlying9, hR]
      have hsl : ∀ W : World, (Instr.slice 9 (.string ⟨#[0, 47]⟩) (some (.int .i64 2)) none none).run Try.prog W = .ok (.string ⟨#[]⟩) W := fun W => by kernel_rfl
      by_cases h3 : n = 2
      · subst h3
        rw [show ((2 : Nat) : Int) - 1 = 1 from rfl] at hidx
        go_enter Try.func25, Try.ntmps25
        unfold sl
        go_wp2_with (go_at_call 33; refine (Try.utf8_ValidRune _ _).mono ?_; rintro e w' ⟨rfl, hw⟩; have hw2 := hw.symm; clear hw; subst hw2; rw [hv])
        go_step3
        go_wp2
        go_loopw [9] (fun iv wr => iv = .int .i64 1 ∧ wr = w) (fun _ _ => 0)
        case atStart => exact ⟨by first | rfl | (simp; omega), rfl⟩
        case round =>
          obtain ⟨rfl, rfl⟩ := hrel
          have hw22 : IntKind.i64.wrap 2 = 2 := by decide
          have hs1 : ∀ W : World, (Instr.index 9 (.string ⟨#[0, 47]⟩) (.int .i64 1)).run Try.prog W = .ok (.int .u8 47) W := fun W => by kernel_rfl
          go_upto_region 6 with (fail)
          go_step3
          go_wp2
          go_region_held3 (fun _ => True) (trivial) (fail)
          all_goals
            go_upto_region 7 with (fail)
            go_region_law (go_simp; go_at_call 32; (with_reducible refine (HIB.out _).mono ?_); rintro e w' ⟨rfl, hw⟩; have hw2 := hw.symm; clear hw; subst hw2)
            all_goals
              go_wp2
              rw [Exit.noGoto_ret]
              go_wp2
              (try rw [Exit.noGoto_ret])
              go_ret
              exact ⟨rfl, (Below.refl _ _).drew.drew⟩
      · go_enter Try.func25, Try.ntmps25
        unfold sl
        go_wp2_with (go_at_call 33; refine (Try.utf8_ValidRune _ _).mono ?_; rintro e w' ⟨rfl, hw⟩; have hw2 := hw.symm; clear hw; subst hw2; rw [hv])
        go_step3
        go_wp2
        go_loopw [9] (fun iv wr => iv = .int .i64 ((n : Int) - 1) ∧ wr = w) (fun _ _ => 0)
        case atStart => exact ⟨by first | rfl | (simp; omega), rfl⟩
        case round =>
          obtain ⟨rfl, rfl⟩ := hrel
          have hq : decide ((n : Int) - 1 < 2) = false := decide_eq_false (by omega)
          go_wp2
          rw [Exit.noGoto_ret]
          go_ret
          exact ⟨rfl, Below.refl _ _⟩

/-! The bytes of a rune. -/
theorem get_at2 (s : ByteArray) (j : Nat) (h : j < s.size) : (s.get! j) = s[j]'h := by
  simp [ByteArray.get!, getElem!_pos, h]
  rfl
theorem dec_cont (s : ByteArray) (pos : Nat) (h : pos < s.size) (hh : 128 ≤ (s[pos]'h).toNat) : ∀ j, pos < j → j < pos + (Utf8.decode s pos).2 → ∃ hj : j < s.size, 128 ≤ (s[j]'hj).toNat := by
  have hn : ¬ (s[pos]'h).toNat < 128 := by omega
  have key : ∀ k, (decide (pos + k < s.size) && (s.get! (pos + k)).toNat / 64 == 2) = true → ∃ hj : pos + k < s.size, 128 ≤ (s[pos + k]'hj).toNat := fun k hk => by
    simp only [Bool.and_eq_true, decide_eq_true_eq, beq_iff_eq] at hk
    refine ⟨hk.1, ?_⟩
    rw [← get_at2 s _ hk.1]
    omega
  intro j h1 h2
  obtain ⟨k, rfl⟩ : ∃ k, j = pos + k := ⟨j - pos, by omega⟩
  have e0 : s.get! (pos + 0) = s[pos]'h := get_at2 s pos h
  simp only [Utf8.decode, e0, hn, if_false] at h2
  split at h2
  · rename_i c1
    split at h2
    · have : k = 1 := by omega
      subst this
      exact key 1 (by simp only [Bool.and_eq_true] at c1 ⊢; exact c1.2)
    · exfalso; omega
  · split at h2
    · rename_i c1
      split at h2
      · have : k = 1 ∨ k = 2 := by omega
        simp only [Bool.and_eq_true] at c1 key
        rcases this with rfl | rfl
        · exact key 1 c1.1.2
        · exact key 2 c1.2
      · exfalso; omega
    · split at h2
      · rename_i c1
        split at h2
        · have : k = 1 ∨ k = 2 ∨ k = 3 := by omega
          simp only [Bool.and_eq_true] at c1 key
          rcases this with rfl | rfl | rfl
          · exact key 1 c1.1.1.2
          · exact key 2 c1.1.2
          · exact key 3 c1.2
        · exfalso; omega
      · exfalso; omega
theorem has_sl (x : UInt8) : sl.data.toList.contains x = nulB x := by
  unfold sl nulB
  simp [List.contains, List.elem]
  cases h : x == 0 <;> cases h2 : x == 47 <;> simp [h, h2]
theorem hi_sl {x : UInt8} (h : 128 ≤ x.toNat) : sl.data.toList.contains x = false := by
  rw [has_sl, nulB]
  have h0 : x ≠ 0 := fun e => by subst e; simp at h
  have h1 : x ≠ 47 := fun e => by subst e; simp at h
  simp [h0, h1]

theorem any_of : ∀ l : List UInt8, decide (0 ≤ Lib.indexAny l sl.data.toList) = l.any nulB
  | [] => rfl
  | b :: l => by
    have ih := any_of l
    have hg := Lib.indexAny_ge sl.data.toList l
    rw [List.any_cons, Lib.indexAny, ← ih, ← has_sl]
    cases h : sl.data.toList.contains b
    · by_cases h2 : Lib.indexAny l sl.data.toList = -1
      · simp [h2]
      · have h3 : (Lib.indexAny l sl.data.toList == -1) = false := by simpa using h2
        simp only [h3, Bool.false_or, Bool.false_eq_true, if_false]
        exact decide_eq_decide.2 (by omega)
    · simp
/-- The place i is not the last one told. -/
theorem no_more {s : ByteArray} {pos : Nat} (h : pos < s.size) (hn : Lib.NoAny s.data.toList sl.data.toList pos) (hh : 128 ≤ (s[pos]'h).toNat) : Lib.NoAny s.data.toList sl.data.toList (pos + (Utf8.decode s pos).2) := fun j b hj hb => by
  by_cases h1 : j < pos
  · exact hn j b h1 hb
  · by_cases h2 : j = pos
    · subst h2
      rw [show s.data.toList[j]? = some s[j] from Lib.data_getElem? s j h] at hb
      cases hb
      exact hi_sl hh
    · obtain ⟨hj2, hb2⟩ := dec_cont s pos h hh j (by omega) hj
      rw [show s.data.toList[j]? = some s[j] from Lib.data_getElem? s j hj2] at hb
      cases hb
      exact hi_sl hb2
theorem wid_in {s : ByteArray} {pos : Nat} (h : pos < s.size) (hh : 128 ≤ (s[pos]'h).toNat) : pos + (Utf8.decode s pos).2 ≤ s.size := by
  have h1 := (decode_high s pos h hh).2
  by_cases c : (Utf8.decode s pos).2 = 1
  · omega
  · obtain ⟨hj, _⟩ := dec_cont s pos h hh (pos + (Utf8.decode s pos).2 - 1) (by omega) (by omega)
    omega
/-- The iterator over s stands at pos. -/
def IterAt (W : World) (b : Nat) (s : ByteArray) (pos : Nat) : Prop := W.heap[b]? = some (.stringIter s pos)
theorem next_gen {W : World} {b : Nat} {s : ByteArray} {pos : Nat} (hW : IterAt W b s pos) (h : pos < s.size) {B : Nat} (hB : B ≤ b) (hl : B ≤ W.heap.size) : ∃ W1, (∀ ty, (Instr.next (.pointer (some ⟨b, 0, none⟩)) true ty).run Try.prog W = .ok (.tuple #[.bool true, .int .i64 pos, .int .i32 (Utf8.decode s pos).1]) W1) ∧ IterAt W1 b s (pos + (Utf8.decode s pos).2) ∧ Below B W W1 := by
  have hb : b < W.heap.size := (Array.getElem?_eq_some_iff.1 hW).1
  refine ⟨{ W with heap := W.heap.setIfInBounds b (.stringIter s (pos + (Utf8.decode s pos).2)) }, fun ty => ?_, ?_, ?_⟩
  · unfold IterAt at hW
    simp only [Instr.next, getObj, setObj, Sem.run_bind, Sem.run, hW, Result.andThen, h, if_true]
    simp [goInt]
  · unfold IterAt
    simp [Array.getElem?_setIfInBounds, hb]
  · exact ⟨rfl, rfl, rfl, by simp, fun k hk => by simp only [Array.getElem?_setIfInBounds]; rw [if_neg (by omega)]⟩
theorem next_done {W : World} {b : Nat} {s : ByteArray} {pos : Nat} (hW : IterAt W b s pos) (h : ¬ pos < s.size) (ty : TypeId) : (Instr.next (.pointer (some ⟨b, 0, none⟩)) true ty).run Try.prog W = .ok (.tuple #[.bool false]) W := by
  unfold IterAt at hW
  simp [Instr.next, getObj, Sem.run, hW, h]
theorem iter_below {W W' : World} {b : Nat} {s : ByteArray} {pos : Nat} (h : IterAt W b s pos) (hb : Below W.heap.size W W') : IterAt W' b s pos := by
  have hl : b < W.heap.size := (Array.getElem?_eq_some_iff.1 h).1
  exact (hb.block b hl).trans h
set_option maxRecDepth 100000 in
set_option maxHeartbeats 1600000 in
theorem index_any (s : ByteArray) (hs : s.size ≤ 1048576) (w : World) :
    Calls Try.prog 23 #[.string s, .string sl] w fun e w' => e = .returned (.int .i64 (Lib.indexAny s.data.toList sl.data.toList)) ∧ Below w.heap.size w w' := by
  by_cases h8 : 8 < s.size
  · refine (Try.strings_IndexAny_long (fun w => by kernel_rfl) s sl w (by decide) h8 (by omega) (by decide) (fun j b hb => ?_)).mono ?_
    · have hj : j < 2 := (List.getElem?_eq_some_iff.1 hb).1
      obtain rfl | rfl : j = 0 ∨ j = 1 := by omega
      · cases hb; decide
      · cases hb; decide
    · rintro e w' ⟨rfl, rfl⟩
      exact ⟨rfl, ((Below.refl w.heap.size w).alloc (Nat.le_refl _) _).alloc (by simp) _⟩
  · have h8z : decide ((8 : Int) < (s.size : Int)) = false := decide_eq_false (by omega)
    have hemp : (⟨#[0, 47]⟩ : ByteArray).toList.isEmpty = false := by rw [Lib.toList_data]; rfl
    have HSL := Lib.hid (show sl.data.toList = [0, 47] from rfl)
    obtain ⟨L, hL⟩ : ∃ L, L = sl.data.toList := ⟨_, rfl⟩
    have HHI := Lib.hid (fun r h W => rune_hi r h W)
    have HLO := Lib.hid (fun (r : Int) (h0 : 0 ≤ r) (h1 : r < 128) W => Try.strings_IndexRune_ascii sl r W h0 h1)
    unfold sl at HHI HLO
    go_enter Try.func23, Try.ntmps23
    unfold sl
    go_wp2_with (go_at_call 26; refine (Try.strings_shouldUseASCIISet _ _).mono ?_; rintro e w' ⟨rfl, hw⟩; have hw2 := hw.symm; clear hw; subst hw2; rw [h8z])
    go_loopw [] (fun wr => ∃ pos : Nat, IterAt wr w.heap.size s pos ∧ pos ≤ s.size ∧ Lib.NoAny s.data.toList sl.data.toList pos ∧ Below w.heap.size w wr) (fun wr => s.size - wr.iterPos w.heap.size)
    case atStart => exact ⟨0, w.iter_heap s 0, Nat.zero_le _, Lib.NoAny.zero _ _, (Below.refl _ _).alloc (Nat.le_refl _) _⟩
    case round =>
      obtain ⟨pos, hit, hpos, hno, hbel⟩ := hrel
      have HM := Lib.hid (show wr.iterPos w.heap.size = pos from by unfold World.iterPos; rw [hit])
      have HNO := Lib.hid hno
      have HBE := Lib.hid hbel
      by_cases hp : pos < s.size
      · obtain ⟨W1, hnx, hit1, hb1⟩ := next_gen hit hp (Nat.le_refl w.heap.size) hbel.size
        have HIT := Lib.hid hit1
        have HB1 := Lib.hid (hbel.trans hb1)
        have hsz1 := hb1.size
        have hszw := hbel.size
        clear hit hit1 hb1 hno hbel
        by_cases ha : (s[pos]'hp).toNat < 128
        · rw [decode_ascii s pos hp ha] at hnx HIT
          obtain ⟨x, hx⟩ : ∃ x : UInt8, s[pos]'hp = x := ⟨_, rfl⟩
          have hxl : s.data.toList[pos]? = some x := by rw [← hx]; exact Lib.data_getElem? s pos hp
          rw [hx] at hnx ha
          have hcon := Lib.contains_iff_indexByte sl.data.toList x
          have hback : ((x.toNat : Int)).toNat.toUInt8 = x := by simp
          have HCA := Lib.hid (HLO.out (x.toNat : Int) (by omega) (by omega) W1)
          rw [hback] at HCA
          have HXL := Lib.hid hxl
          dsimp only at hnx HIT
          cases hin : sl.data.toList.contains x
          · rw [hin] at hcon
            have hlt : ¬ ((0 : Int) ≤ Lib.indexByte [0, 47] x) := of_decide_eq_false hcon.symm
            have HIN := Lib.hid hin
            clear hcon hxl hx hback hin
            go_wp2_with fail
            refine HCA.out.mono ?_
            rintro e w' ⟨rfl, hw⟩
            have hw2 := hw.symm
            clear hw
            subst hw2
            generalize Lib.indexByte [0, 47] x = ib at hlt ⊢
            go_wp2
            go_roundw
            case rel => exact ⟨pos + 1, HIT.out, by omega, HNO.out.succ HXL.out HIN.out, HB1.out⟩
            case measure => rw [HM.out, show W1.iterPos w.heap.size = pos + 1 from by unfold World.iterPos; rw [HIT.out]]; omega
          · rw [hin] at hcon
            have hge : (0 : Int) ≤ Lib.indexByte [0, 47] x := of_decide_eq_true hcon.symm
            have HIN := Lib.hid hin
            clear hcon hxl hx hback hin
            go_wp2_with fail
            refine HCA.out.mono ?_
            rintro e w' ⟨rfl, hw⟩
            have hw2 := hw.symm
            clear hw
            subst hw2
            generalize Lib.indexByte [0, 47] x = ib at hge ⊢
            go_wp2
            go_ret
            exact ⟨ret_int (Lib.indexAny_hit HNO.out HXL.out HIN.out).symm, HB1.out⟩
        · have hi : 128 ≤ (s[pos]'hp).toNat := by omega
          have hd := decode_high s pos hp hi
          have HNX := Lib.hid (no_more hp HNO.out hi)
          have HWI := Lib.hid (wid_in hp hi)
          have HW1 := Lib.hid hd.2
          have HCA := Lib.hid (HHI.out ((Utf8.decode s pos).1 : Int) (by omega) W1)
          clear hd hi ha
          generalize (Utf8.decode s pos).1 = rr at hnx HCA
          generalize (Utf8.decode s pos).2 = wd at HIT HNX HWI HW1
          go_wp2_with fail
          refine HCA.out.mono ?_
          rintro e w' ⟨rfl, hb⟩
          have HI2 := Lib.hid (iter_below HIT.out hb)
          have HB2 := Lib.hid (HB1.out.trans (hb.mono HB1.out.size))
          clear hb
          go_wp2
          go_roundw
          case rel => exact ⟨pos + wd, HI2.out, HWI.out, HNX.out, HB2.out⟩
          case measure => rw [HM.out, show w'.iterPos w.heap.size = pos + wd from by unfold World.iterPos; rw [HI2.out]]; have := HW1.out; omega
      · have hnx : ∀ ty, (Instr.next (.pointer (some ⟨w.heap.size, 0, none⟩)) true ty).run Try.prog wr = _ := fun ty => next_done hit hp ty
        clear hit hno hbel
        go_wp2
        go_ret
        exact ⟨ret_int (by rw [Lib.indexAny_none]; exact fun j b hj hb => HNO.out j b (by simp at hj; omega) hb), HBE.out⟩
theorem contains_any (s : ByteArray) (hs : s.size ≤ 1048576) (w : World) :
    Calls Try.prog 21 #[.string s, .string ⟨#[0, 47]⟩] w fun e w' => e = .returned (.bool (s.data.toList.any nulB)) ∧ Below w.heap.size w w' := by
  have HIA := Lib.hid (fun W => index_any s hs W)
  unfold sl at HIA
  have HAN := Lib.hid (any_of s.data.toList)
  unfold sl at HAN
  go_enter Try.func21, Try.ntmps21
  go_wp2_with fail
  refine (HIA.out _).mono ?_
  rintro e w' ⟨rfl, hb⟩
  have HB := Lib.hid hb
  clear hb
  generalize Lib.indexAny s.data.toList [0, 47] = q at HAN ⊢
  go_wp2
  go_ret
  exact ⟨by rw [← HAN.out]; rfl, HB.out⟩
end Go.Proofs.Ythppbcnejapbiaa.EnC
