/- Contracts and plain facts that a law of this seat leans on. Conditions: as each theorem types them. -/
import Derived.Test.YtgilmmofbpembaaDoorFormatInt
import Derived.Test.YtgilmmofbpembaaDoorDigitsSpec
import Derived.Test.YtgilmmofbpembaaDoorNumeral
import Derived.Deep.QuietTactic
namespace Go.Proofs.YtgilmmofbpembaaDoor.ParseInt
open Go.ChangeShapes Go.WideShapes Go.ChangeAt Go.RowKit
open Go.ChangeMaps (open_string shut_string)
open Numeral (vf vf_take vf_snoc magL negL itoa_form itoa_inj atoi_itoa Dig)
open FormatInt (itoaB app_ext)
set_option linter.unusedVariables false

def InR (n : Int) : Prop := -9223372036854775808 ≤ n ∧ n ≤ 9223372036854775807
def Spells (s : ByteArray) (n : Int) : Prop := InR n ∧ itoaB n = s
open Classical in
/-- The int whose numeral s is, and true; else 0 and false. -/
noncomputable def parseP (s : ByteArray) : Int × Bool := if h : ∃ n, Spells s n then (h.choose, true) else (0, false)
theorem spells_list {s : ByteArray} {n : Int} (h : Spells s n) : Lib.itoa n = s.data.toList := by
  rw [← h.2]; simp [itoaB]
theorem parse_yes {s : ByteArray} {n : Int} (h : Spells s n) : parseP s = (n, true) := by
  have hex : ∃ m, Spells s m := ⟨n, h⟩
  have hm := hex.choose_spec
  have : hex.choose = n := itoa_inj _ _ ((spells_list hm).trans (spells_list h).symm) hm.1.1 hm.1.2 h.1.1 h.1.2
  rw [parseP, dif_pos hex, this]
theorem parse_no {s : ByteArray} (h : ∀ n, Spells s n → False) : parseP s = (0, false) := by
  rw [parseP, dif_neg (fun ⟨n, hn⟩ => h n hn)]
def res (p : Int × Bool) : Ending := .returned (.tuple #[.int .i64 p.1, .bool p.2])
theorem res_no {s : ByteArray} (h : ∀ n, Spells s n → False) : Ending.returned (.tuple #[.int .i64 0, .bool false]) = res (parseP s) := by
  rw [parse_no h]; rfl
theorem res_yes {s : ByteArray} {n : Int} (h : Spells s n) : Ending.returned (.tuple #[.int .i64 n, .bool true]) = res (parseP s) := by
  rw [parse_yes h]; rfl
/-- What a spelled number gives of the magnitude's bytes. -/
theorem spells_form {s : ByteArray} {n : Int} (h : Spells s n) : (∀ c ∈ magL s.data.toList, Dig c) ∧ magL s.data.toList ≠ [] ∧ (magL s.data.toList).length ≤ 19 ∧ vf 0 (magL s.data.toList) = n.natAbs ∧ (negL s.data.toList = true ↔ n < 0) := itoa_form n s.data.toList (spells_list h) h.1.1 h.1.2

theorem digits_of {l : List UInt8} (h : ∀ c ∈ l, Dig c) (hne : l ≠ []) : DigitsSpec.digitsB l = true := by
  have h1 : l.all DigitsSpec.isDig = true := by
    rw [List.all_eq_true]
    intro c hc
    have := h c hc
    unfold Dig at this
    simp [DigitsSpec.isDig]; omega
  have h2 : l.isEmpty = false := by cases l with | nil => exact absurd rfl hne | cons a l => rfl
  simp [DigitsSpec.digitsB, h1, h2]
theorem digit_at {T : ByteArray} (h : DigitsSpec.digitsB T.data.toList = true) (k : Nat) (hk : k < T.size) : 48 ≤ T[k].toNat ∧ T[k].toNat ≤ 57 := by
  simp only [DigitsSpec.digitsB, Bool.and_eq_true, List.all_eq_true] at h
  have hl : k < T.data.toList.length := by simpa using hk
  have := h.1 (T.data.toList[k]) (List.getElem_mem hl)
  have e : T.data.toList[k] = T[k] := rfl
  rw [e] at this
  simp [DigitsSpec.isDig] at this
  omega
theorem no_digits {s T : ByteArray} (hT : T.data.toList = magL s.data.toList) (h : DigitsSpec.digitsB T.data.toList = false) : ∀ n, Spells s n → False := by
  intro n hn
  have hf := spells_form hn
  rw [← hT] at hf
  rw [digits_of hf.1 hf.2.1] at h
  cases h
theorem no_long {s T : ByteArray} (hT : T.data.toList = magL s.data.toList) (h : 19 < T.size) : ∀ n, Spells s n → False := by
  intro n hn
  have hf := spells_form hn
  rw [← hT] at hf
  have : T.data.toList.length = T.size := by simp
  omega
theorem no_over {s T : ByteArray} (hT : T.data.toList = magL s.data.toList) (k : Nat) (h : 9223372036854775808 < vf 0 (T.data.toList.take k)) : ∀ n, Spells s n → False := by
  intro n hn
  have hf := spells_form hn
  rw [← hT] at hf
  have h1 := vf_take T.data.toList k
  have h2 := hn.1
  unfold InR at h2
  omega
theorem vf_next {T : ByteArray} (k : Nat) (hk : k < T.size) : vf 0 (T.data.toList.take (k + 1)) = vf 0 (T.data.toList.take k) * 10 + (T[k].toNat - 48) := by
  rw [vf_snoc _ k (by simpa using hk)]; rfl

theorem tdiv_of (d : Int) (h : d ≤ 9223372036854775808) : (-9223372036854775808 + d).tdiv 10 = -((9223372036854775808 - d) / 10) := by
  rw [show -9223372036854775808 + d = -(9223372036854775808 - d) from by omega, Int.neg_tdiv, Int.tdiv_eq_ediv_of_nonneg (by omega)]
theorem over_of (v c : Nat) (h1 : 48 ≤ c) (h2 : c ≤ 57) (h : -(v : Int) < (-9223372036854775808 + ((c : Int) - 48)).tdiv 10) : 9223372036854775808 < v * 10 + (c - 48) := by
  rw [tdiv_of _ (by omega)] at h
  omega
theorem fits_of (v c : Nat) (h1 : 48 ≤ c) (h2 : c ≤ 57) (hv : v ≤ 9223372036854775808) (h : (-9223372036854775808 + ((c : Int) - 48)).tdiv 10 ≤ -(v : Int)) :
    v * 10 + (c - 48) ≤ 9223372036854775808 ∧ wrap64 (wrap64 (-(v : Int) * 10) - ((c : Int) - 48)) = -((v * 10 + (c - 48) : Nat) : Int) := by
  rw [tdiv_of _ (by omega)] at h
  have h3 : v * 10 + (c - 48) ≤ 9223372036854775808 := by omega
  refine ⟨h3, ?_⟩
  rw [IntWalk.wrap64_in (-(v : Int) * 10) (by omega), IntWalk.wrap64_in _ (by omega)]
  omega
theorem fin_neg {s : ByteArray} {v : Nat} (hn : negL s.data.toList = true) (hv : v = vf 0 (magL s.data.toList)) (h : (!(itoaB (-(v : Int))).toList == s.toList) = true) : ∀ n, Spells s n → False := by
  intro n hs
  have hf := spells_form hs
  have hlt := hf.2.2.2.2.1 hn
  have : n = -(v : Int) := by rw [hv, hf.2.2.2.1]; omega
  rw [← this, hs.2] at h
  simp at h
theorem fin_pos {s : ByteArray} {v : Nat} (hn : negL s.data.toList = false) (hv : v = vf 0 (magL s.data.toList)) (h : (!(itoaB (v : Int)).toList == s.toList) = true) : ∀ n, Spells s n → False := by
  intro n hs
  have hf := spells_form hs
  have hge : ¬ n < 0 := fun hh => by
    have := hf.2.2.2.2.2 hh
    rw [hn] at this; cases this
  have : n = (v : Int) := by rw [hv, hf.2.2.2.1]; omega
  rw [← this, hs.2] at h
  simp at h
theorem fin_big {s : ByteArray} {v : Nat} (hn : negL s.data.toList = false) (hv : v = vf 0 (magL s.data.toList)) (h : 9223372036854775808 ≤ v) : ∀ n, Spells s n → False := by
  intro n hs
  have hf := spells_form hs
  have hge : ¬ n < 0 := fun hh => by
    have := hf.2.2.2.2.2 hh
    rw [hn] at this; cases this
  have h1 := hf.2.2.2.1
  have h2 := hs.1.2
  omega
theorem toList_inj {a b : ByteArray} (h : a.toList = b.toList) : a = b := by
  rw [ByteArray.toList_eq, ByteArray.toList_eq] at h
  exact app_ext h
theorem fin_yes {s : ByteArray} (n : Int) (h0 : -9223372036854775808 ≤ n) (h1 : n ≤ 9223372036854775807) (h : (!(itoaB n).toList == s.toList) = false) : Spells s n :=
  ⟨⟨h0, h1⟩, toList_inj (by simpa using h)⟩
theorem mag_neg (s : ByteArray) (hz : 0 < s.size) (h : ((s[0].toNat : Int) == 45) = true) : (s.extract 1 s.size).data.toList = magL s.data.toList ∧ negL s.data.toList = true := by
  have hn : negL s.data.toList = true := by
    have e := eq_of_beq h
    obtain ⟨⟨l⟩⟩ := s
    cases l with
    | nil => simp [ByteArray.size] at hz
    | cons c r =>
      have e2 : (c.toNat : Int) = 45 := e
      have : c = 45 := UInt8.toNat_inj.1 (by have h45 : (45 : UInt8).toNat = 45 := rfl; omega)
      simp [negL, this]
  refine ⟨?_, hn⟩
  rw [magL, if_pos hn, Lib.extract_data, ← List.drop_one, List.take_of_length_le (by simp)]
theorem mag_pos (s : ByteArray) (hz : 0 < s.size) (h : ((s[0].toNat : Int) == 45) = false) : s.data.toList = magL s.data.toList ∧ negL s.data.toList = false := by
  have hn : negL s.data.toList = false := by
    have e := ne_of_beq_false h
    obtain ⟨⟨l⟩⟩ := s
    cases l with
    | nil => simp [ByteArray.size] at hz
    | cons c r =>
      have e2 : (c.toNat : Int) ≠ 45 := e
      rw [negL, decide_eq_false_iff_not]
      intro hh
      have : c = 45 := by simpa using hh
      rw [this] at e2
      exact e2 rfl
  refine ⟨?_, hn⟩
  rw [magL, if_neg (by rw [hn]; decide)]

set_option maxRecDepth 100000 in
set_option maxHeartbeats 800000 in
theorem spec_neg (s : ByteArray) (w : World) (hs : s.size ≤ 1048576) (hz : 0 < s.size) (hc0 : ((s[0].toNat : Int) == 45) = true) :
    Calls Tryd.prog 39 #[.string s] w fun e w' => e = res (parseP s) ∧ Below w.heap.size w w' := by
  have hT0 := mag_neg s hz hc0
  have HT0 := Lib.hid hT0.1
  have HNG := Lib.hid hT0.2
  have hTs : (s.extract 1 s.size).size ≤ 1048576 := by rw [ByteArray.size_extract]; omega
  clear hT0
  go_enter Tryd.func39, Tryd.ntmps39
  go_wp2_with fail
  generalize hTT : s.extract 1 s.size = T at HT0 hTs ⊢
  have HTT := Lib.hid hTT
  clear hTT
  refine (DigitsSpec.spec_any T _ (by unfold maxLen; omega)).mono ?_
  rintro e w1 ⟨rfl, rfl⟩
  cases hB : DigitsSpec.digitsB T.data.toList with
  | false =>
    have HB := Lib.hid hB
    clear hB
    go_wp2_with fail
    go_ret2
    exact ⟨res_no (no_digits HT0.out HB.out), Below.refl _ _⟩
  | true =>
    have HB := Lib.hid hB
    clear hB
    by_cases h19 : 19 < T.size
    · go_wp2_with fail
      go_ret2
      exact ⟨res_no (no_long HT0.out h19), Below.refl _ _⟩
    · go_wp2_with fail
      go_loop [6, 7] (fun nv iv => ∃ k v : Nat, k ≤ T.size ∧ iv = .int .i64 k ∧ nv = .int .i64 (-(v : Int)) ∧ v = vf 0 (T.data.toList.take k) ∧ v ≤ 9223372036854775808) (fun _ iv => T.size - (intOf iv).toNat)
      case atStart => exact ⟨0, 0, Nat.zero_le _, rfl, rfl, rfl, Nat.zero_le _⟩
      case round =>
        obtain ⟨k, v, hk, rfl, rfl, hv, hv63⟩ := hrel
        have HV := Lib.hid hv
        clear hv
        by_cases hlt : k < T.size
        · have hd := digit_at HB.out k hlt
          have HN := Lib.hid (vf_next k hlt)
          go_wp2_with fail
          · have ho := over_of v T[k].toNat hd.1 hd.2 (by assumption)
            go_ret2
            exact ⟨res_no (no_over HT0.out (k + 1) (by rw [HN.out, ← HV.out]; exact ho)), Below.refl _ _⟩
          · have ho := fits_of v T[k].toNat hd.1 hd.2 hv63 (by assumption)
            go_round
            case rel => exact ⟨k + 1, v * 10 + (T[k].toNat - 48), by omega, by go_num, by rw [ho.2], by rw [HN.out, ← HV.out], ho.1⟩
            case measure => simp [intOf]; omega
        · obtain rfl : k = T.size := by omega
          have hvv : v = vf 0 (magL s.data.toList) := by
            rw [HV.out, List.take_of_length_le (by simp), HT0.out]
          have HVV := Lib.hid hvv
          clear hvv
          go_wp2_with fail
          refine (FormatInt.spec_any (-(v : Int)) _ (by omega) (by omega)).mono ?_
          rintro e w1 ⟨rfl, hb1⟩
          go_wp2_with fail
          · have hne := fin_neg HNG.out HVV.out
            go_ret2
            exact ⟨res_no (hne (by assumption)), hb1⟩
          · have hy := fin_yes (-(v : Int)) (by omega) (by omega) (by assumption)
            go_ret2
            exact ⟨res_yes hy, hb1⟩
set_option maxRecDepth 100000 in
set_option maxHeartbeats 800000 in
theorem spec_pos (s : ByteArray) (w : World) (hs : s.size ≤ 1048576) (hz : 0 < s.size) (hc0 : ((s[0].toNat : Int) == 45) = false) :
    Calls Tryd.prog 39 #[.string s] w fun e w' => e = res (parseP s) ∧ Below w.heap.size w w' := by
  have hT0 := mag_pos s hz hc0
  have HT0 := Lib.hid hT0.1
  have HNG := Lib.hid hT0.2
  clear hT0
  go_enter Tryd.func39, Tryd.ntmps39
  go_wp2_with fail
  refine (DigitsSpec.spec_any s _ (by unfold maxLen; omega)).mono ?_
  rintro e w1 ⟨rfl, rfl⟩
  cases hB : DigitsSpec.digitsB s.data.toList with
  | false =>
    have HB := Lib.hid hB
    clear hB
    go_wp2_with fail
    go_ret2
    exact ⟨res_no (no_digits HT0.out HB.out), Below.refl _ _⟩
  | true =>
    have HB := Lib.hid hB
    clear hB
    by_cases h19 : 19 < s.size
    · go_wp2_with fail
      go_ret2
      exact ⟨res_no (no_long HT0.out h19), Below.refl _ _⟩
    · go_wp2_with fail
      go_loop [6, 7] (fun nv iv => ∃ k v : Nat, k ≤ s.size ∧ iv = .int .i64 k ∧ nv = .int .i64 (-(v : Int)) ∧ v = vf 0 (s.data.toList.take k) ∧ v ≤ 9223372036854775808) (fun _ iv => s.size - (intOf iv).toNat)
      case atStart => exact ⟨0, 0, Nat.zero_le _, rfl, rfl, rfl, Nat.zero_le _⟩
      case round =>
        obtain ⟨k, v, hk, rfl, rfl, hv, hv63⟩ := hrel
        have HV := Lib.hid hv
        clear hv
        by_cases hlt : k < s.size
        · have hd := digit_at HB.out k hlt
          have HN := Lib.hid (vf_next k hlt)
          go_wp2_with fail
          · have ho := over_of v s[k].toNat hd.1 hd.2 (by assumption)
            go_ret2
            exact ⟨res_no (no_over HT0.out (k + 1) (by rw [HN.out, ← HV.out]; exact ho)), Below.refl _ _⟩
          · have ho := fits_of v s[k].toNat hd.1 hd.2 hv63 (by assumption)
            go_round
            case rel => exact ⟨k + 1, v * 10 + (s[k].toNat - 48), by omega, by go_num, by rw [ho.2], by rw [HN.out, ← HV.out], ho.1⟩
            case measure => simp [intOf]; omega
        · obtain rfl : k = s.size := by omega
          have hvv : v = vf 0 (magL s.data.toList) := by
            have e := HV.out; rw [List.take_of_length_le (by simp)] at e; exact e.trans (congrArg (vf 0) HT0.out)
          have HVV := Lib.hid hvv
          clear hvv
          by_cases hbig : 9223372036854775808 ≤ v
          · have HNO := Lib.hid (fin_big HNG.out HVV.out hbig)
            go_wp2_with fail
            go_ret2
            exact ⟨res_no HNO.out, Below.refl _ _⟩
          · go_wp2_with fail
            refine (FormatInt.spec_any (v : Int) _ (by omega) (by omega)).mono ?_
            rintro e w1 ⟨rfl, hb1⟩
            go_wp2_with fail
            · have hne := fin_pos HNG.out HVV.out
              go_ret2
              exact ⟨res_no (hne (by assumption)), hb1⟩
            · have hy := fin_yes (v : Int) (by omega) (by omega) (by assumption)
              go_ret2
              exact ⟨res_yes hy, hb1⟩

theorem empty_list {s : ByteArray} (hz : s.size = 0) : s.data.toList = [] := by obtain ⟨⟨l⟩⟩ := s; cases l <;> simp_all [ByteArray.size]
theorem spec_any (s : ByteArray) (w : World) (hs : s.size ≤ 1048576) :
    Calls Tryd.prog 39 #[.string s] w fun e w' => e = res (parseP s) ∧ Below w.heap.size w w' := by
  by_cases hz : s.size = 0
  · have hz' : ¬ 0 < s.size := by omega
    have HN := Lib.hid (show ∀ n, Spells s n → False from fun n h => (spells_form h).2.1 (by rw [empty_list hz]; rfl))
    have HD := Lib.hid (show DigitsSpec.digitsB s.data.toList = false by rw [empty_list hz]; rfl)
    clear hz
    go_enter Tryd.func39, Tryd.ntmps39
    go_wp2_with (go_at_call 58; refine (DigitsSpec.spec_any _ _ (by unfold maxLen; omega)).mono ?_; rintro e w1 ⟨rfl, rfl⟩; rw [HD.out])
    go_ret2
    exact ⟨res_no HN.out, Below.refl _ _⟩
  · have hz' : 0 < s.size := by omega
    cases hc : ((s[0].toNat : Int) == 45) with
    | true => exact spec_neg s w hs hz' hc
    | false => exact spec_pos s w hs hz' hc
theorem spells_ok {s : ByteArray} {n : Int} (h : Spells s n) : Lib.atoiAll s.data.toList = .ok n := by
  rw [← spells_list h]; exact atoi_itoa n h.1.1 h.1.2

set_option maxRecDepth 100000 in
set_option maxHeartbeats 400000 in
theorem impl_any (s : ByteArray) (w : World) (hs : s.size ≤ 1048576) (hlt : 3 < w.heap.size) (htab : Lib.TabIs Tryd.prog w "internal/strconv.uint64pow10" .u64 Lib.pow10Tab)
    (tp : TypeId) (p : Value) (hsyn : w.var? Tryd.prog "strconv.ErrSyntax" = some #[.iface tp p]) (tq : TypeId) (q : Value) (hran : w.var? Tryd.prog "strconv.ErrRange" = some #[.iface tq q]) :
    Calls Tryd.prog 47 #[.string s] w fun e w' => e = res (parseP s) ∧ Below w.heap.size w w' := by
  have HSY := Lib.hid hsyn
  have HRA := Lib.hid hran
  have HTA := Lib.hid htab
  clear hsyn hran htab
  cases hA : Lib.atoiAll s.data.toList
  · rename_i v
    have hv : -9223372036854775808 ≤ v ∧ v ≤ 9223372036854775807 := by
      have h := hA
      unfold Lib.atoiAll at h
      split at h
      · cases h
      · dsimp only at h
        split at h
        · cases h
        · cases h
        · split at h
          · cases h
          · split at h
            · cases h
            · injection h with h
              rename_i h1 h2
              split at h <;> omega
    have HV := Lib.hid hv
    have HI := Lib.hid (fun w' (hb : Below w.heap.size w w') => FormatInt.impl_any v w' hv.1 hv.2 (FormatInt.tab_below Laid.gTab hlt HTA.out hb))
    have HA := Lib.hid hA
    clear hA hv
    go_enter Tryd.func47, Tryd.ntmps47
    go_wp2_with fail
    refine (Tryd.strconv_Atoi_ok s (by omega) v HA.out _).mono ?_
    rintro e w1 ⟨rfl, hw1⟩
    have HB := Lib.hid (show Below w.heap.size w w1 by
      rcases hw1 with rfl | ⟨t, rfl⟩
      · exact Below.refl _ _
      · exact Lib.bytesWorld_below _ _ _)
    clear hw1
    go_wp2_with fail
    refine (HI.out _ HB.out).mono ?_
    rintro e w2 ⟨rfl, hb2⟩
    have HB2 := Lib.hid (HB.out.trans (hb2.mono HB.out.size))
    clear hb2
    go_wp2_with fail
    · have hno := Lib.hid (fun (h : (!(itoaB v).toList == s.toList) = true) => show ∀ n, Spells s n → False from fun n hs => by
        have e := spells_ok hs
        rw [HA.out] at e
        injection e with e
        rw [e, hs.2] at h
        simp at h)
      go_ret2
      exact ⟨res_no (hno.out (by assumption)), HB2.out⟩
    · have hy := fin_yes v HV.out.1 HV.out.2 (by assumption)
      go_ret2
      exact ⟨res_yes hy, HB2.out⟩
  · have HN := Lib.hid (show ∀ n, Spells s n → False from fun n h => by rw [spells_ok h] at hA; cases hA)
    have HC := Lib.hid (Any.strconv_Atoi_syntax_var Tryd.laysC172 s (by omega) hA tp p w HSY.out)
    clear hA
    go_enter Tryd.func47, Tryd.ntmps47
    go_wp2_with fail
    refine HC.out.mono ?_
    rintro e w1 ⟨N, rfl, -, -, hb⟩
    go_wp2_with fail
    go_ret2
    exact ⟨res_no HN.out, hb⟩
  · have HN := Lib.hid (show ∀ n, Spells s n → False from fun n h => by rw [spells_ok h] at hA; cases hA)
    have HC := Lib.hid (Tryd.strconv_Atoi_range_var s (by omega) hA tq q w HRA.out)
    clear hA
    go_enter Tryd.func47, Tryd.ntmps47
    go_wp2_with fail
    refine HC.out.mono ?_
    rintro e w1 ⟨N, rfl, -, -, hb⟩
    go_wp2_with fail
    go_ret2
    exact ⟨res_no HN.out, hb⟩

end Go.Proofs.YtgilmmofbpembaaDoor.ParseInt
