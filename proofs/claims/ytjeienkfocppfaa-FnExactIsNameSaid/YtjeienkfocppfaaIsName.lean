/- Proved: for every string, the law FnExactIsName returns true and leaves its argument as it was: the program's IsName answers as the model's at every string. No condition beyond the row's own. -/
import Derived.Test.YtjeienkfocppfaaIsDigits
namespace Go.Proofs.Ytjeienkfocppfaa.IsName
open Go.ChangeShapes Go.WideShapes Go.ChangeAt Go.RowKit
open Go.ChangeMaps (open_string shut_string)
open IsDigits (isDig ret_bool width_pos digit_any rune_digit rune_other)
set_option linter.unusedVariables false

def isLow (c : UInt8) : Bool := decide (97 ≤ (c.toNat : Int)) && decide ((c.toNat : Int) ≤ 122)
def OkAt (i : Nat) (c : UInt8) : Prop := isLow c = true ∨ (i ≠ 0 ∧ isDig c = true)
def Upto (s : ByteArray) (k : Nat) : Prop := ∀ (i : Nat) (h : i < s.size), i < k → OkAt i s[i]
def IsNm (s : ByteArray) : Prop := Upto s s.size ∧ 1 ≤ s.size ∧ s.size ≤ 8
open Classical in
noncomputable def nameB (s : ByteArray) : Bool := decide (IsNm s)

theorem not_ok0 {i : Nat} {c : UInt8} (hl : isLow c = false) (h : i = 0) : ¬ OkAt i c := by
  rintro (h1 | ⟨h1, _⟩)
  · rw [hl] at h1; cases h1
  · exact h1 h
theorem not_okd {i : Nat} {c : UInt8} (hl : isLow c = false) (h : isDig c = false) : ¬ OkAt i c := by
  rintro (h1 | ⟨_, h1⟩)
  · rw [hl] at h1; cases h1
  · rw [h] at h1; cases h1
theorem upto_zero (s : ByteArray) : Upto s 0 := fun i _ h => by omega
theorem upto_succ (s : ByteArray) (k : Nat) (h : k < s.size) (hu : Upto s k) (hd : OkAt k s[k]) : Upto s (k + 1) := by
  intro i hi hik
  by_cases e : i = k
  · subst e; exact hd
  · exact hu i hi (by omega)
theorem no_of (s : ByteArray) (k : Nat) (h : k < s.size) (hd : ¬ OkAt k s[k]) : nameB s = false := by
  simp only [nameB, decide_eq_false_iff_not]
  exact fun hh => hd (hh.1 k h h)
theorem no_size (s : ByteArray) (h : ¬ (1 ≤ s.size ∧ s.size ≤ 8)) : nameB s = false := by
  simp only [nameB, decide_eq_false_iff_not]
  exact fun hh => h hh.2
theorem end_of (s : ByteArray) (hu : Upto s s.size) (B : Bool) (h : B = true ↔ (1 ≤ s.size ∧ s.size ≤ 8)) : nameB s = B := by
  cases B with
  | true => simp only [nameB, decide_eq_true_iff]; exact ⟨hu, h.1 rfl⟩
  | false => exact no_size s (fun hh => by have := h.2 hh; cases this)
theorem emp_true (s : ByteArray) (h : s.size = 0) : s.toList.isEmpty = true := by
  rw [ByteArray.toList_eq]; obtain ⟨⟨l⟩⟩ := s; cases l <;> simp_all [ByteArray.size]
theorem emp_false (s : ByteArray) (h : s.size ≠ 0) : s.toList.isEmpty = false := by
  rw [ByteArray.toList_eq]; obtain ⟨⟨l⟩⟩ := s; cases l <;> simp_all [ByteArray.size]

set_option maxHeartbeats 400000 in
theorem spec_any (s : ByteArray) (w : World) (hs : s.size ≤ maxLen) :
    Calls Try.prog 11 #[.string s] w fun e w' => e = .returned (.bool (nameB s)) ∧ w = w' := by
  unfold maxLen at hs
  go_enter Try.func11, Try.ntmps11
  go_wp2
  go_loop [3] (fun i => ∃ k : Nat, k ≤ s.size ∧ i = .int .i64 k ∧ Upto s k) (fun i => s.size - (intOf i).toNat)
  case atStart => exact ⟨0, Nat.zero_le _, rfl, upto_zero s⟩
  case round =>
    obtain ⟨k, hk, rfl, hu⟩ := hrel
    have HU := Lib.hid hu
    clear hu
    by_cases hlt : k < s.size
    · by_cases h1 : 97 ≤ (s[k].toNat : Int) ∧ (s[k].toNat : Int) ≤ 122
      · obtain ⟨ha, hb⟩ := h1
        go_wp2
        go_round
        case rel => exact ⟨k + 1, by omega, by go_num, upto_succ s k hlt HU.out (.inl (by simp [isLow]; omega))⟩
        case measure => simp [intOf]; omega
      · have hlow : isLow s[k] = false := by simp [isLow]; omega
        have HL := Lib.hid hlow
        clear hlow
        by_cases h0 : k = 0
        · have H0 := Lib.hid h0
          have hk0 : ((k : Int) == 0) = true := by simp [h0]
          clear h0
          by_cases ha : 97 ≤ (s[k].toNat : Int)
          · have hb : ¬ (s[k].toNat : Int) ≤ 122 := fun h => h1 ⟨ha, h⟩
            clear h1
            go_wp2
            go_ret
            exact ⟨ret_bool (no_of s k hlt (not_ok0 HL.out H0.out)).symm, rfl⟩
          · clear h1
            go_wp2
            go_ret
            exact ⟨ret_bool (no_of s k hlt (not_ok0 HL.out H0.out)).symm, rfl⟩
        · have H0 := Lib.hid h0
          have hk0 : ((k : Int) == 0) = false := by simp; omega
          have hk1 : 0 < k := by omega
          clear h0
          by_cases hd1 : (s[k].toNat : Int) < 48
          · have hDig := Lib.hid (show isDig s[k] = false by simp [isDig]; omega)
            clear h1
            go_wp2
            go_ret
            exact ⟨ret_bool (no_of s k hlt (not_okd HL.out hDig.out)).symm, rfl⟩
          · by_cases hd2 : 57 < (s[k].toNat : Int)
            · have hDig := Lib.hid (show isDig s[k] = false by simp [isDig]; omega)
              by_cases ha : 97 ≤ (s[k].toNat : Int)
              · have hb : ¬ (s[k].toNat : Int) ≤ 122 := fun h => h1 ⟨ha, h⟩
                clear h1
                go_wp2
                go_ret
                exact ⟨ret_bool (no_of s k hlt (not_okd HL.out hDig.out)).symm, rfl⟩
              · clear h1
                go_wp2
                go_ret
                exact ⟨ret_bool (no_of s k hlt (not_okd HL.out hDig.out)).symm, rfl⟩
            · have hDig := Lib.hid (show isDig s[k] = true by simp [isDig]; omega)
              clear h1
              go_wp2
              go_round
              case rel => exact ⟨k + 1, by omega, by go_num, upto_succ s k hlt HU.out (.inr ⟨H0.out, hDig.out⟩)⟩
              case measure => simp [intOf]; omega
    · have hU : Upto s s.size := fun i h hi => HU.out i h (by omega)
      have HU2 := Lib.hid hU
      clear hU
      by_cases hz1 : 1 ≤ s.size
      · by_cases hz2 : s.size ≤ 8
        · go_wp2
          go_ret
          exact ⟨ret_bool (end_of s HU2.out _ (by simp; omega)).symm, rfl⟩
        · go_wp2
          go_ret
          exact ⟨ret_bool (end_of s HU2.out _ (by simp; omega)).symm, rfl⟩
      · go_wp2
        go_ret
        exact ⟨ret_bool (end_of s HU2.out _ (by simp; omega)).symm, rfl⟩

theorem letter_any (r : Int) (w : World) :
    Calls Try.prog 28 #[.int .i32 r] w fun e w' => e = .returned (.bool (decide (97 ≤ r) && decide (r ≤ 122))) ∧ w = w' := by
  by_cases h1 : 97 ≤ r
  · go_enter Try.func28, Try.ntmps28
    go_wp2
    go_ret
    exact ⟨ret_bool (by simp [h1]), rfl⟩
  · have h1' : decide (97 ≤ r) = false := by simp; omega
    go_enter Try.func28, Try.ntmps28
    go_wp2
    go_ret
    exact ⟨rfl, rfl⟩

theorem rune_low (s : ByteArray) (pos : Nat) (h : pos < s.size) (hd : 97 ≤ (Utf8.decode s pos).1 ∧ (Utf8.decode s pos).1 ≤ 122) : isLow s[pos] = true ∧ (Utf8.decode s pos).2 = 1 := by
  by_cases ha : (s[pos]'h).toNat < 128
  · rw [decode_ascii s pos h ha] at hd ⊢
    have hd' : 97 ≤ (s[pos]'h).toNat ∧ (s[pos]'h).toNat ≤ 122 := hd
    exact ⟨by simp [isLow]; omega, rfl⟩
  · have := (decode_high s pos h (by omega)).1
    omega
theorem rune_not_low (s : ByteArray) (pos : Nat) (h : pos < s.size) (hd : ¬ (97 ≤ (Utf8.decode s pos).1 ∧ (Utf8.decode s pos).1 ≤ 122)) : isLow s[pos] = false := by
  by_cases ha : (s[pos]'h).toNat < 128
  · rw [decode_ascii s pos h ha] at hd
    have hd' : ¬ (97 ≤ (s[pos]'h).toNat ∧ (s[pos]'h).toNat ≤ 122) := hd
    simp [isLow]; omega
  · simp [isLow]; omega

set_option maxHeartbeats 400000 in
theorem impl_any (s : ByteArray) (w : World) (hs : s.size ≤ maxLen) :
    Calls Try.prog 12 #[.string s] w fun e w' => e = .returned (.bool (nameB s)) ∧ Below w.heap.size w w' := by
  unfold maxLen at hs
  by_cases hz : s.size = 0
  · have he := emp_true s hz
    have HZ := Lib.hid hz
    clear hz
    go_enter Try.func12, Try.ntmps12
    go_wp2
    go_ret
    exact ⟨ret_bool (no_size s (by have := HZ.out; omega)).symm, Below.refl _ _⟩
  have he := emp_false s hz
  have hz1 : 0 < s.size := by omega
  clear hz
  by_cases hz2 : 8 < s.size
  · go_enter Try.func12, Try.ntmps12
    go_wp2
    go_ret
    exact ⟨ret_bool (no_size s (by omega)).symm, Below.refl _ _⟩
  go_enter Try.func12, Try.ntmps12
  go_wp2
  go_loopw [] (fun w' => ∃ pos : Nat, w' = w.iter s pos ∧ pos ≤ s.size ∧ Upto s pos) (fun w' => s.size - w'.iterPos w.heap.size)
  case atStart => exact ⟨0, rfl, Nat.zero_le _, upto_zero s⟩
  case round =>
    obtain ⟨pos, rfl, hpos, hu⟩ := hrel
    have HU := Lib.hid hu
    clear hu
    by_cases hp : pos < s.size
    · have hnx : ∀ ty, (Instr.next (.pointer (some ⟨w.heap.size, 0, none⟩)) true ty).run Try.prog (w.iter s pos) = _ := fun ty => run_next_any w s pos ty hp
      by_cases hd : 97 ≤ (Utf8.decode s pos).1 ∧ (Utf8.decode s pos).1 ≤ 122
      · have hr := rune_low s pos hp hd
        have HW := Lib.hid hr.2
        have HD := Lib.hid hr.1
        clear hr
        obtain ⟨hd1, hd2⟩ := hd
        go_wp2_with (go_at_call 28; refine (letter_any _ _).mono ?_; rintro e w' ⟨rfl, rfl⟩)
        go_roundw
        case rel => exact ⟨pos + (Utf8.decode s pos).2, rfl, by rw [HW.out]; omega, by rw [HW.out]; exact upto_succ s pos hp HU.out (.inl HD.out)⟩
        case measure => simp; have := width_pos s pos hp; omega
      · have HL := Lib.hid (rune_not_low s pos hp hd)
        have hb : (decide (97 ≤ ((Utf8.decode s pos).1 : Int)) && decide (((Utf8.decode s pos).1 : Int) ≤ 122)) = false := by simp; omega
        clear hd
        by_cases h0 : pos = 0
        · have H0 := Lib.hid h0
          have hk0 : ((pos : Int) == 0) = true := by simp [h0]
          clear h0
          go_wp2_with (go_at_call 28; refine (letter_any _ _).mono ?_; rintro e w' ⟨rfl, rfl⟩)
          go_ret
          exact ⟨ret_bool (no_of s pos hp (not_ok0 HL.out H0.out)).symm, (Below.refl _ _).alloc (Nat.le_refl _) _⟩
        · have H0 := Lib.hid h0
          have hk0 : ((pos : Int) == 0) = false := by simp; omega
          have hk1 : 0 < pos := by omega
          clear h0
          by_cases hd : 48 ≤ (Utf8.decode s pos).1 ∧ (Utf8.decode s pos).1 ≤ 57
          · have hr := rune_digit s pos hp hd
            have HW := Lib.hid hr.2
            have HD := Lib.hid hr.1
            have hb2 : (decide (48 ≤ ((Utf8.decode s pos).1 : Int)) && decide (((Utf8.decode s pos).1 : Int) ≤ 57)) = true := by simp; omega
            clear hr
            obtain ⟨hd1, hd2⟩ := hd
            go_wp2_with (first | (go_at_call 28; refine (letter_any _ _).mono ?_; rintro e w' ⟨rfl, rfl⟩) | (go_at_call 26; refine (digit_any _ _).mono ?_; rintro e w' ⟨rfl, rfl⟩))
            go_roundw
            case rel => exact ⟨pos + (Utf8.decode s pos).2, rfl, by rw [HW.out]; omega, by rw [HW.out]; exact upto_succ s pos hp HU.out (.inr ⟨H0.out, HD.out⟩)⟩
            case measure => simp; have := width_pos s pos hp; omega
          · have HD := Lib.hid (rune_other s pos hp hd)
            have hb2 : (decide (48 ≤ ((Utf8.decode s pos).1 : Int)) && decide (((Utf8.decode s pos).1 : Int) ≤ 57)) = false := by simp; omega
            clear hd
            go_wp2_with (first | (go_at_call 28; refine (letter_any _ _).mono ?_; rintro e w' ⟨rfl, rfl⟩) | (go_at_call 26; refine (digit_any _ _).mono ?_; rintro e w' ⟨rfl, rfl⟩))
            go_ret
            exact ⟨ret_bool (no_of s pos hp (not_okd HL.out HD.out)).symm, (Below.refl _ _).alloc (Nat.le_refl _) _⟩
    · have hnx : ∀ ty, (Instr.next (.pointer (some ⟨w.heap.size, 0, none⟩)) true ty).run Try.prog (w.iter s pos) = _ := fun ty => run_next_end w s pos ty hp
      go_wp2
      go_ret
      exact ⟨ret_bool (end_of s (fun i h hi => HU.out i h (by omega)) true (by simp; omega)).symm, (Below.refl _ _).alloc (Nat.le_refl _) _⟩

set_option maxHeartbeats 400000 in
theorem law_any (s : ByteArray) (w : World) (hs : s.size ≤ maxLen) :
    Calls Try.prog 4 #[.string s] w fun e w' => e = .returned (.bool true) ∧ Below w.heap.size w w' := by
  have hs' := Lib.hid hs
  unfold maxLen at hs
  by_cases hbig : 1048576 < s.size
  · go_enter Try.func4, Try.ntmps4
    go_wp2
    go_ret
    exact ⟨rfl, Below.refl _ _⟩
  · generalize hB : nameB s = B
    have HB := Lib.hid hB
    clear hB
    go_enter Try.func4, Try.ntmps4
    go_wp2_with (first | (go_at_call 11; refine (spec_any _ _ hs'.out).mono ?_; rintro e w1 ⟨rfl, rfl⟩; rw [HB.out]) | (go_at_call 12; refine (impl_any _ _ hs'.out).mono ?_; rintro e w1 ⟨rfl, hb1⟩; rw [HB.out]))
    cases B
    all_goals
      go_wp2
      go_ret
      exact ⟨rfl, by assumption⟩

set_option maxRecDepth 100000 in
theorem lifted (os : Os) (started : os.Started) (H : Type) (enc : TypeId × Value → H) :
    ReturnsInHanded {} Try.checked os 4 .any (Rows.fnExactIsNameSpec.pre6 enc Try.prog Try.f4 Rows.fnExactIsNameRow.domain false) (Rows.fnExactIsNameSpec.post enc Try.prog Try.f4 false true false false) := by
  refine returnsInHanded_of_change (C := Try.checked) Kit.own started (by kernel_rfl) Try.func4
    (ChangeSpec.witness6 (enc := enc) (C := Try.checked) false ⟨#[], #[.string ⟨#[]⟩], []⟩ 8 (by kernel_rfl) (by kernel_rfl) (by kernel_rfl) (by kernel_rfl)) ?_
  intro W base args ds gs before hval0 hW hcnd _
  have hval : ∀ (j : Nat) t v, Try.f4.params[j]? = some t → args[j]? = some v → Value.okWide Try.prog W .any base t v := hval0
  have hW' := hW
  obtain ⟨p, q, hA0, hV, rfl, hfz, hnd⟩ := hW
  have hA : DataW.TrodAll enc Try.prog W 0 (fun _ => true) true Try.f4.params.toList args.toList ds p := hA0
  rw [Try.params4] at hA hval
  obtain ⟨v0, d0, rfl, rfl, h0⟩ := trodAll_one hA
  obtain ⟨s, rfl, rfl, rfl, hs⟩ := open_string Try.underlying9 (hval 0 9 v0 rfl rfl) h0
  refine (law_any s W hs).mono fun e W' ⟨he, hb⟩ => ?_
  subst he
  exact ⟨_, rfl, Kit.law_post Kit.laidOut (by kernel_rfl) Try.underlying4 rfl rfl (fun H ds hl => by match ds, hl with | [d], _ => rfl) hW' hb⟩

theorem holds : Rows.FnExactIsNameSaid :=
  OpenClaim.holds_of_wide 4 Try.f4 rfl rfl rfl rfl rfl rfl rfl ⟨rfl, rfl, rfl, rfl, rfl⟩ rfl rfl rfl rfl rfl (by kernel_rfl) Try.func4 (by kernel_rfl)
    (of_decide_eq_true (by kernel_rfl)) (by unfold Func.isWrapper; first | (rw [if_pos (by decide +kernel)]; kernel_rfl) | (rw [if_neg (by decide +kernel)]; exact ⟨rfl, rfl⟩))
    (fun os started H enc _ => lifted os started H enc)
#print axioms holds
end Go.Proofs.Ytjeienkfocppfaa.IsName
