/- Contracts and plain facts that a law of this seat leans on. Conditions: as each theorem types them. -/
import Derived.Test.YtjeienkfocppfaaDoorIsDigits
namespace Go.Proofs.YtjeienkfocppfaaDoor.IsName
open Go.ChangeShapes Go.WideShapes Go.ChangeAt Go.RowKit
open Go.ChangeMaps (open_string shut_string)
open IsDigits (isDig ret_bool width_pos digit_any rune_digit rune_other)
set_option linter.unusedVariables false

def isLow (c : UInt8) : Bool := decide (97 ≤ (c.toNat : Int)) && decide ((c.toNat : Int) ≤ 122)
def OkAt (i : Nat) (c : UInt8) : Prop := isLow c = true ∨ (i ≠ 0 ∧ isDig c = true)
def Upto (s : ByteArray) (k : Nat) : Prop := ∀ (i : Nat) (h : i < s.size), i < k → OkAt i s[i]
def IsNm (s : ByteArray) : Prop := Upto s s.size ∧ 1 ≤ s.size ∧ s.size ≤ 8
open Classical in
noncomputable def nameB (s : ByteArray) : Bool := decide (IsNm s)

theorem not_ok0 {i : Nat} {c : UInt8} (hl : isLow c = false) (h : i = 0) : ¬ OkAt i c := by
  rintro (h1 | ⟨h1, _⟩)
  · rw [hl] at h1; cases h1
  · exact h1 h
theorem not_okd {i : Nat} {c : UInt8} (hl : isLow c = false) (h : isDig c = false) : ¬ OkAt i c := by
  rintro (h1 | ⟨_, h1⟩)
  · rw [hl] at h1; cases h1
  · rw [h] at h1; cases h1
theorem upto_zero (s : ByteArray) : Upto s 0 := fun i _ h => by omega
theorem upto_succ (s : ByteArray) (k : Nat) (h : k < s.size) (hu : Upto s k) (hd : OkAt k s[k]) : Upto s (k + 1) := by
  intro i hi hik
  by_cases e : i = k
  · subst e; exact hd
  · exact hu i hi (by omega)
theorem no_of (s : ByteArray) (k : Nat) (h : k < s.size) (hd : ¬ OkAt k s[k]) : nameB s = false := by
  simp only [nameB, decide_eq_false_iff_not]
  exact fun hh => hd (hh.1 k h h)
theorem no_size (s : ByteArray) (h : ¬ (1 ≤ s.size ∧ s.size ≤ 8)) : nameB s = false := by
  simp only [nameB, decide_eq_false_iff_not]
  exact fun hh => h hh.2
theorem end_of (s : ByteArray) (hu : Upto s s.size) (B : Bool) (h : B = true ↔ (1 ≤ s.size ∧ s.size ≤ 8)) : nameB s = B := by
  cases B with
  | true => simp only [nameB, decide_eq_true_iff]; exact ⟨hu, h.1 rfl⟩
  | false => exact no_size s (fun hh => by have := h.2 hh; cases this)
theorem emp_true (s : ByteArray) (h : s.size = 0) : s.toList.isEmpty = true := by
  rw [ByteArray.toList_eq]; obtain ⟨⟨l⟩⟩ := s; cases l <;> simp_all [ByteArray.size]
theorem emp_false (s : ByteArray) (h : s.size ≠ 0) : s.toList.isEmpty = false := by
  rw [ByteArray.toList_eq]; obtain ⟨⟨l⟩⟩ := s; cases l <;> simp_all [ByteArray.size]

theorem letter_any (r : Int) (w : World) :
    Calls Tryd.prog 24 #[.int .i32 r] w fun e w' => e = .returned (.bool (decide (97 ≤ r) && decide (r ≤ 122))) ∧ w = w' := by
  by_cases h1 : 97 ≤ r
  · go_enter Tryd.func24, Tryd.ntmps24
    go_wp2
    go_ret
    exact ⟨ret_bool (by simp [h1]), rfl⟩
  · have h1' : decide (97 ≤ r) = false := by simp; omega
    go_enter Tryd.func24, Tryd.ntmps24
    go_wp2
    go_ret
    exact ⟨rfl, rfl⟩

theorem rune_low (s : ByteArray) (pos : Nat) (h : pos < s.size) (hd : 97 ≤ (Utf8.decode s pos).1 ∧ (Utf8.decode s pos).1 ≤ 122) : isLow s[pos] = true ∧ (Utf8.decode s pos).2 = 1 := by
  by_cases ha : (s[pos]'h).toNat < 128
  · rw [decode_ascii s pos h ha] at hd ⊢
    have hd' : 97 ≤ (s[pos]'h).toNat ∧ (s[pos]'h).toNat ≤ 122 := hd
    exact ⟨by simp [isLow]; omega, rfl⟩
  · have := (decode_high s pos h (by omega)).1
    omega
theorem rune_not_low (s : ByteArray) (pos : Nat) (h : pos < s.size) (hd : ¬ (97 ≤ (Utf8.decode s pos).1 ∧ (Utf8.decode s pos).1 ≤ 122)) : isLow s[pos] = false := by
  by_cases ha : (s[pos]'h).toNat < 128
  · rw [decode_ascii s pos h ha] at hd
    have hd' : ¬ (97 ≤ (s[pos]'h).toNat ∧ (s[pos]'h).toNat ≤ 122) := hd
    simp [isLow]; omega
  · simp [isLow]; omega

set_option maxHeartbeats 400000 in
theorem impl_any (s : ByteArray) (w : World) (hs : s.size ≤ maxLen) :
    Calls Tryd.prog 12 #[.string s] w fun e w' => e = .returned (.bool (nameB s)) ∧ Below w.heap.size w w' := by
  unfold maxLen at hs
  by_cases hz : s.size = 0
  · have he := emp_true s hz
    have HZ := Lib.hid hz
    clear hz
    go_enter Tryd.func12, Tryd.ntmps12
    go_wp2
    go_ret
    exact ⟨ret_bool (no_size s (by have := HZ.out; omega)).symm, Below.refl _ _⟩
  have he := emp_false s hz
  have hz1 : 0 < s.size := by omega
  clear hz
  by_cases hz2 : 8 < s.size
  · go_enter Tryd.func12, Tryd.ntmps12
    go_wp2
    go_ret
    exact ⟨ret_bool (no_size s (by omega)).symm, Below.refl _ _⟩
  go_enter Tryd.func12, Tryd.ntmps12
  go_wp2
  go_loopw [] (fun w' => ∃ pos : Nat, w' = w.iter s pos ∧ pos ≤ s.size ∧ Upto s pos) (fun w' => s.size - w'.iterPos w.heap.size)
  case atStart => exact ⟨0, rfl, Nat.zero_le _, upto_zero s⟩
  case round =>
    obtain ⟨pos, rfl, hpos, hu⟩ := hrel
    have HU := Lib.hid hu
    clear hu
    by_cases hp : pos < s.size
    · have hnx : ∀ ty, (Instr.next (.pointer (some ⟨w.heap.size, 0, none⟩)) true ty).run Tryd.prog (w.iter s pos) = _ := fun ty => run_next_any w s pos ty hp
      by_cases hd : 97 ≤ (Utf8.decode s pos).1 ∧ (Utf8.decode s pos).1 ≤ 122
      · have hr := rune_low s pos hp hd
        have HW := Lib.hid hr.2
        have HD := Lib.hid hr.1
        clear hr
        obtain ⟨hd1, hd2⟩ := hd
        go_wp2_with (go_at_call 24; refine (letter_any _ _).mono ?_; rintro e w' ⟨rfl, rfl⟩)
        go_roundw
        case rel => exact ⟨pos + (Utf8.decode s pos).2, rfl, by rw [HW.out]; omega, by rw [HW.out]; exact upto_succ s pos hp HU.out (.inl HD.out)⟩
        case measure => simp; have := width_pos s pos hp; omega
      · have HL := Lib.hid (rune_not_low s pos hp hd)
        have hb : (decide (97 ≤ ((Utf8.decode s pos).1 : Int)) && decide (((Utf8.decode s pos).1 : Int) ≤ 122)) = false := by simp; omega
        clear hd
        by_cases h0 : pos = 0
        · have H0 := Lib.hid h0
          have hk0 : ((pos : Int) == 0) = true := by simp [h0]
          clear h0
          go_wp2_with (go_at_call 24; refine (letter_any _ _).mono ?_; rintro e w' ⟨rfl, rfl⟩)
          go_ret
          exact ⟨ret_bool (no_of s pos hp (not_ok0 HL.out H0.out)).symm, (Below.refl _ _).alloc (Nat.le_refl _) _⟩
        · have H0 := Lib.hid h0
          have hk0 : ((pos : Int) == 0) = false := by simp; omega
          have hk1 : 0 < pos := by omega
          clear h0
          by_cases hd : 48 ≤ (Utf8.decode s pos).1 ∧ (Utf8.decode s pos).1 ≤ 57
          · have hr := rune_digit s pos hp hd
            have HW := Lib.hid hr.2
            have HD := Lib.hid hr.1
            have hb2 : (decide (48 ≤ ((Utf8.decode s pos).1 : Int)) && decide (((Utf8.decode s pos).1 : Int) ≤ 57)) = true := by simp; omega
            clear hr
            obtain ⟨hd1, hd2⟩ := hd
            go_wp2_with (first | (go_at_call 24; refine (letter_any _ _).mono ?_; rintro e w' ⟨rfl, rfl⟩) | (go_at_call 25; refine (digit_any _ _).mono ?_; rintro e w' ⟨rfl, rfl⟩))
            go_roundw
            case rel => exact ⟨pos + (Utf8.decode s pos).2, rfl, by rw [HW.out]; omega, by rw [HW.out]; exact upto_succ s pos hp HU.out (.inr ⟨H0.out, HD.out⟩)⟩
            case measure => simp; have := width_pos s pos hp; omega
          · have HD := Lib.hid (rune_other s pos hp hd)
            have hb2 : (decide (48 ≤ ((Utf8.decode s pos).1 : Int)) && decide (((Utf8.decode s pos).1 : Int) ≤ 57)) = false := by simp; omega
            clear hd
            go_wp2_with (first | (go_at_call 24; refine (letter_any _ _).mono ?_; rintro e w' ⟨rfl, rfl⟩) | (go_at_call 25; refine (digit_any _ _).mono ?_; rintro e w' ⟨rfl, rfl⟩))
            go_ret
            exact ⟨ret_bool (no_of s pos hp (not_okd HL.out HD.out)).symm, (Below.refl _ _).alloc (Nat.le_refl _) _⟩
    · have hnx : ∀ ty, (Instr.next (.pointer (some ⟨w.heap.size, 0, none⟩)) true ty).run Tryd.prog (w.iter s pos) = _ := fun ty => run_next_end w s pos ty hp
      go_wp2
      go_ret
      exact ⟨ret_bool (end_of s (fun i h hi => HU.out i h (by omega)) true (by simp; omega)).symm, (Below.refl _ _).alloc (Nat.le_refl _) _⟩

end Go.Proofs.YtjeienkfocppfaaDoor.IsName
