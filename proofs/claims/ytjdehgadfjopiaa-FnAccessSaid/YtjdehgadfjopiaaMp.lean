/- Contracts: ParseMode and MayRemove, the program's and the model's. Conditions: the text's length; the number of groups. -/
import Derived.Test.YtjdehgadfjopiaaMd
import Derived.Test.YtjdehgadfjopiaaFam
namespace Go.Proofs.Ytjdehgadfjopiaa.Mp
open Go.ChangeShapes Go.WideShapes Go.ChangeAt Go.RowKit
open Bx CredV ModeV
open Ni (HoldsN)
open Dk (ret_bool)
open Strs (ret_int)
set_option linter.unusedVariables false

def res (x : Int × Bool) : Ending := .returned (.tuple #[.int .i64 x.1, .bool x.2])
theorem str_ne {r s : ByteArray} (h : r ≠ s) : (r.toList == s.toList) = false := by
  rw [Lib.toList_data, Lib.toList_data]
  exact beq_eq_false_iff_ne.2 fun he => h (ByteArray.ext (Array.toList_inj.1 he))
theorem take_snoc (s : ByteArray) (k : Nat) (h : k < s.size) : s.data.toList.take (k + 1) = s.data.toList.take k ++ [s[k]] := by
  rw [List.take_succ_eq_append_getElem (by simpa using h)]; rfl
theorem pow_le {k : Nat} (h : k ≤ 11) : 2 ^ k ≤ 2048 := by
  have := Nat.pow_le_pow_right (show 0 < 2 by omega) h
  exact this
theorem pow_le10 {k : Nat} (h : k < 11) : 2 ^ k ≤ 1024 := by
  have := Nat.pow_le_pow_right (show 0 < 2 by omega) (show k ≤ 10 by omega)
  exact this
theorem take_lt (s : ByteArray) (k : Nat) : readM (s.data.toList.take k) < 2 ^ k := by
  have h := readM_lt (s.data.toList.take k)
  have h2 : (s.data.toList.take k).length ≤ k := List.length_take_le _ _
  exact Nat.lt_of_lt_of_le h (Nat.pow_le_pow_right (by omega) h2)

set_option maxRecDepth 100000 in
set_option maxHeartbeats 1600000 in
theorem parse_spec (s : ByteArray) (w : World) (hs : s.size ≤ 1048576) :
    Calls Try.prog 36 #[.string s] w fun e w' => e = res (parseM s) ∧ w = w' := by
  have HFM := Lib.hid (fun n : Int => Md.format_spec n w)
  go_enter Try.func36, Try.ntmps36
  go_wp2_with fail
  go_loop [4, 5] (fun nv iv => ∃ k q : Nat, k ≤ s.size ∧ k ≤ 11 ∧ iv = .int .i64 k ∧ nv = .int .i64 q ∧ q ≤ 2047 ∧ q = readM (s.data.toList.take k)) (fun _ iv => 11 - (intOf iv).toNat)
  case atStart => exact ⟨0, 0, by omega, by omega, rfl, rfl, by omega, rfl⟩
  case round =>
    obtain ⟨k, q, hk, hk11, rfl, rfl, hq, hqe⟩ := hrel
    have HQ := Lib.hid hqe
    clear hqe
    by_cases hlt : k < s.size ∧ k < 11
    · obtain ⟨hl1, hl2⟩ := hlt
      have HS := Lib.hid (show readM (s.data.toList.take (k + 1)) = 2 * readM (s.data.toList.take k) + (if s[k] = 45 then 0 else 1) by rw [take_snoc s k hl1, readM_snoc])
      have hq10 : q ≤ 1023 := by
        have h1 := take_lt s k
        have h2 := pow_le10 hl2
        rw [← HQ.out] at h1
        omega
      by_cases hc : (s[k].toNat : Int) = 45
      · have hc2 : s[k] = 45 := UInt8.toNat.inj (by show s[k].toNat = 45; omega)
        have HN := Lib.hid (show 2 * q = readM (s.data.toList.take (k + 1)) by rw [HS.out, if_pos hc2, HQ.out]; rfl)
        clear hc2
        go_wp2
        go_round
        case rel => exact ⟨k + 1, 2 * q, by omega, by omega, by go_num, by go_num, by omega, HN.out⟩
        case measure => simp [intOf]; omega
      · have hc2 : ¬ s[k] = 45 := fun h => hc (by rw [h]; rfl)
        have HN := Lib.hid (show 2 * q + 1 = readM (s.data.toList.take (k + 1)) by rw [HS.out, if_neg hc2, HQ.out])
        have h1 : ((s[k].toNat : Int) == 45) = false := beq_eq_false_iff_ne.2 hc
        have h2 : ((s[k].toNat : Int) != 45) = true := by simp [bne, h1]
        clear hc2 hc
        go_wp2
        go_round
        case rel => exact ⟨k + 1, 2 * q + 1, by omega, by omega, by go_num, by go_num, by omega, HN.out⟩
        case measure => simp [intOf]; omega
    · have HE := Lib.hid (show q = readM (s.data.toList.take 11) by
        rw [HQ.out]
        rcases Nat.lt_or_ge k 11 with h | h
        · have : k = s.size := by omega
          rw [List.take_of_length_le (by subst this; exact Nat.le_refl _), List.take_of_length_le (by show s.size ≤ 11; omega)]
        · rw [show k = 11 by omega])
      have HV := Lib.hid (show parseM s = if formatM ((q : Nat) : Int) = s then ((q : Int), true) else (0, false) by rw [HE.out]; rfl)
      have HP := Lib.hid (HFM.out ((q : Nat) : Int))
      generalize formatM ((q : Nat) : Int) = r at HV HP
      by_cases hr : r = s
      · subst hr
        rw [if_pos rfl] at HV
        by_cases hlt2 : k < r.size
        · have hk2 : k = 11 := by omega
          subst hk2
          go_wp2_with fail
          refine HP.out.mono ?_
          rintro e wq ⟨rfl, rfl⟩
          go_wp2
          go_ret2
          exact ⟨by rw [HV.out]; rfl, rfl⟩
        · have hk2 : k = r.size := by omega
          subst hk2
          go_wp2_with fail
          refine HP.out.mono ?_
          rintro e wq ⟨rfl, rfl⟩
          go_wp2
          go_ret2
          exact ⟨by rw [HV.out]; rfl, rfl⟩
      · rw [if_neg hr] at HV
        have h1 := str_ne hr
        clear hr
        by_cases hlt2 : k < s.size
        · have hk2 : k = 11 := by omega
          subst hk2
          go_wp2_with fail
          refine HP.out.mono ?_
          rintro e wq ⟨rfl, rfl⟩
          go_wp2
          go_ret2
          exact ⟨by rw [HV.out]; rfl, rfl⟩
        · have hk2 : k = s.size := by omega
          subst hk2
          go_wp2_with fail
          refine HP.out.mono ?_
          rintro e wq ⟨rfl, rfl⟩
          go_wp2
          go_ret2
          exact ⟨by rw [HV.out]; rfl, rfl⟩

/-- What the program reads: a bit for each letter that stands at its place. -/
def readI (l : List UInt8) : Nat → Nat
  | 0 => 0
  | k + 1 => 2 * readI l k + (if l.getD k 0 = letB k then 1 else 0)
theorem readI_lt (l : List UInt8) : ∀ k, readI l k < 2 ^ k
  | 0 => by simp [readI]
  | k + 1 => by
    have := readI_lt l k
    rw [readI, Nat.pow_succ]
    split <;> omega
theorem fmt_getD (n k : Nat) (h : k < 11) : (fmtM n).getD k 0 = chM n k := by
  rw [List.getD_eq_getElem?_getD, fmtM, List.getElem?_map, List.getElem?_range h]; rfl
theorem readI_fmt (n : Nat) (hn : n < 2048) : ∀ k, k ≤ 11 → readI (fmtM n) k = n / 2 ^ (11 - k)
  | 0, _ => (Nat.div_eq_of_lt hn).symm
  | k + 1, hk => by
    have hb : (if (fmtM n).getD k 0 = letB k then 1 else 0) = n / 2 ^ (10 - k) % 2 := by
      rw [fmt_getD n k (by omega), chM]
      by_cases hb : n / 2 ^ (10 - k) % 2 = 1
      · rw [if_pos hb, if_pos rfl, hb]
      · rw [if_neg hb, if_neg (Ne.symm (let_ne k (by omega)))]; omega
    rw [readI, hb, readI_fmt n hn k (by omega), show 11 - (k + 1) = 10 - k by omega, show 11 - k = (10 - k) + 1 by omega, Nat.pow_succ, ← Nat.div_div_eq_div_mul]
    omega
theorem parse_read (s : ByteArray) : parseM s = if formatM ((readI s.data.toList (min s.size 11) : Nat) : Int) = s then (((readI s.data.toList (min s.size 11) : Nat) : Int), true) else (0, false) := by
  have hlt := readI_lt s.data.toList (min s.size 11)
  have hp := pow_le (show min s.size 11 ≤ 11 by omega)
  by_cases h : formatM ((readI s.data.toList (min s.size 11) : Nat) : Int) = s
  · rw [if_pos h]
    exact parseM_yes ((mode_iff _).2 ⟨by omega, by omega⟩) h
  · rw [if_neg h]
    refine parseM_none fun m hm he => h ?_
    have hr := (mode_iff m).1 hm
    have hz := formatM_size hm
    rw [he] at hz
    have e2 : s.data.toList = fmtM m.toNat := by rw [← he, formatM, if_pos hm]
    rw [hz, e2, show min 11 11 = 11 from rfl, readI_fmt _ (by omega) 11 (by omega)]
    rw [show ((m.toNat / 2 ^ (11 - 11) : Nat) : Int) = m by simp; omega]
    exact he
theorem let_index (k : Nat) (h : k < 11) (w : World) :
    (Instr.index 9 (.string ⟨#[115, 116, 114, 119, 120, 114, 119, 120, 114, 119, 120]⟩) (.int .i64 (k : Int))).run Try.prog w = .ok (.int .u8 ((letB k).toNat : Int)) w := by
  rcases (show k = 0 ∨ k = 1 ∨ k = 2 ∨ k = 3 ∨ k = 4 ∨ k = 5 ∨ k = 6 ∨ k = 7 ∨ k = 8 ∨ k = 9 ∨ k = 10 by omega) with rfl | rfl | rfl | rfl | rfl | rfl | rfl | rfl | rfl | rfl | rfl
  all_goals kernel_rfl
theorem getD_byte (s : ByteArray) (k : Nat) (h : k < s.size) : s.data.toList.getD k 0 = s[k] := by
  rw [List.getD_eq_getElem?_getD, List.getElem?_eq_getElem (by simpa using h)]; rfl

set_option maxRecDepth 100000 in
set_option maxHeartbeats 1600000 in
theorem parse_impl (s : ByteArray) (w : World) (hs : s.size ≤ 1048576) :
    Calls Try.prog 22 #[.string s] w fun e w' => e = res (parseM s) ∧ Below w.heap.size w w' := by
  obtain ⟨M, hM⟩ : ∃ M, M = min s.size 11 := ⟨_, rfl⟩
  have HV := Lib.hid (parse_read s)
  rw [← hM] at HV
  have hM1 : M ≤ s.size := by omega
  have hM2 : M ≤ 11 := by omega
  have hmin : min (s.size : Int) 11 = (M : Int) := by omega
  have HMIN := Lib.hid hmin
  have HM := Lib.hid hM
  clear hM hmin
  have hcase : s.size ≤ 11 ∨ 11 < s.size := by omega
  have HL := Lib.hid (fun k hk w => let_index k hk w)
  have HGD := Lib.hid (fun k hk => getD_byte s k hk)
  have HCC : ∀ k q : Nat, k < M → q = readI s.data.toList k → q ≤ 1023 := fun k q hk hq => by
    have h1 := readI_lt s.data.toList k
    have h2 := pow_le10 (show k < 11 by omega)
    omega
  replace HCC := Lib.hid HCC
  rcases hcase with hcase | hcase
  · have hms : M = s.size := by have := HM.out; omega
    subst hms
    go_enter Try.func22, Try.ntmps22
    go_wp2_with fail
    go_loopw [4, 9] (fun nv iv wr => ∃ k q : Nat, k ≤ s.size ∧ iv = .int .i64 k ∧ nv = .int .i64 q ∧ q ≤ 2047 ∧ q = readI s.data.toList k ∧ Below w.heap.size w wr) (fun _ iv _ => s.size - (intOf iv).toNat)
    case atStart => exact ⟨0, 0, by omega, rfl, rfl, by omega, rfl, Below.refl _ _⟩
    case round =>
      obtain ⟨k, q, hk, rfl, rfl, hq, hqe, hbel⟩ := hrel
      have HQ := Lib.hid hqe
      have HBEL := Lib.hid hbel
      clear hqe hbel
      by_cases hlt : k < s.size
      · have hl1 : k < s.size := by omega
        have hl2 : k < 11 := by omega
        have hq10 := HCC.out k q hlt HQ.out
        have x1 := fun w => HL.out k hl2 w
        have HS := Lib.hid (show readI s.data.toList (k + 1) = 2 * q + (if s[k] = letB k then 1 else 0) by rw [readI, HQ.out, HGD.out k hl1])
        by_cases hc : s[k] = letB k
        · rw [if_pos hc] at HS
          rw [← hc] at x1
          clear hc
          go_wp2
          go_quiet (fail)
          have HB2 := Lib.hid (HBEL.out.trans (Joins.below_draws w.heap.size wr nq))
          generalize wr.drewN nq = w2 at HB2 ⊢
          go_wp2
          go_roundw
          case rel => exact ⟨k + 1, 2 * q + 1, by omega, by go_num, by go_num, by omega, HS.out.symm, HB2.out⟩
          case measure => simp [intOf]; omega
        · rw [if_neg hc] at HS
          have h1 : ((s[k].toNat : Int) == ((letB k).toNat : Int)) = false := beq_eq_false_iff_ne.2 fun h => hc (UInt8.toNat.inj (by omega))
          clear hc
          generalize letB k = lb at h1 x1
          go_wp2
          go_quiet (fail)
          have HB2 := Lib.hid (HBEL.out.trans (Joins.below_draws w.heap.size wr nq))
          generalize wr.drewN nq = w2 at HB2 ⊢
          go_wp2
          go_roundw
          case rel => exact ⟨k + 1, 2 * q, by omega, by go_num, by go_num, by omega, HS.out.symm, HB2.out⟩
          case measure => simp [intOf]; omega
      · have hkm : k = s.size := by omega
        subst hkm
        rw [← HQ.out] at HV
        have HP := Lib.hid (Md.format_impl ((q : Nat) : Int) wr)
        generalize formatM ((q : Nat) : Int) = r at HV HP
        by_cases hr : r = s
        · subst hr
          rw [if_pos rfl] at HV
          go_wp2_with fail
          refine HP.out.mono ?_
          rintro e wq ⟨rfl, hb⟩
          replace HBEL := Lib.hid (HBEL.out.trans (hb.mono HBEL.out.size))
          clear hb
          go_wp2
          go_ret2
          exact ⟨by rw [HV.out]; rfl, HBEL.out⟩
        · rw [if_neg hr] at HV
          have h1 := str_ne hr
          clear hr
          go_wp2_with fail
          refine HP.out.mono ?_
          rintro e wq ⟨rfl, hb⟩
          replace HBEL := Lib.hid (HBEL.out.trans (hb.mono HBEL.out.size))
          clear hb
          go_wp2
          go_ret2
          exact ⟨by rw [HV.out]; rfl, HBEL.out⟩
  · have hms : M = 11 := by have := HM.out; omega
    subst hms
    go_enter Try.func22, Try.ntmps22
    go_wp2_with fail
    go_loopw [4, 9] (fun nv iv wr => ∃ k q : Nat, k ≤ 11 ∧ iv = .int .i64 k ∧ nv = .int .i64 q ∧ q ≤ 2047 ∧ q = readI s.data.toList k ∧ Below w.heap.size w wr) (fun _ iv _ => 11 - (intOf iv).toNat)
    case atStart => exact ⟨0, 0, by omega, rfl, rfl, by omega, rfl, Below.refl _ _⟩
    case round =>
      obtain ⟨k, q, hk, rfl, rfl, hq, hqe, hbel⟩ := hrel
      have HQ := Lib.hid hqe
      have HBEL := Lib.hid hbel
      clear hqe hbel
      by_cases hlt : k < 11
      · have hl1 : k < s.size := by omega
        have hl2 : k < 11 := by omega
        have hq10 := HCC.out k q hlt HQ.out
        have x1 := fun w => HL.out k hl2 w
        have HS := Lib.hid (show readI s.data.toList (k + 1) = 2 * q + (if s[k] = letB k then 1 else 0) by rw [readI, HQ.out, HGD.out k hl1])
        by_cases hc : s[k] = letB k
        · rw [if_pos hc] at HS
          rw [← hc] at x1
          clear hc
          go_wp2
          go_quiet (fail)
          have HB2 := Lib.hid (HBEL.out.trans (Joins.below_draws w.heap.size wr nq))
          generalize wr.drewN nq = w2 at HB2 ⊢
          go_wp2
          go_roundw
          case rel => exact ⟨k + 1, 2 * q + 1, by omega, by go_num, by go_num, by omega, HS.out.symm, HB2.out⟩
          case measure => simp [intOf]; omega
        · rw [if_neg hc] at HS
          have h1 : ((s[k].toNat : Int) == ((letB k).toNat : Int)) = false := beq_eq_false_iff_ne.2 fun h => hc (UInt8.toNat.inj (by omega))
          clear hc
          generalize letB k = lb at h1 x1
          go_wp2
          go_quiet (fail)
          have HB2 := Lib.hid (HBEL.out.trans (Joins.below_draws w.heap.size wr nq))
          generalize wr.drewN nq = w2 at HB2 ⊢
          go_wp2
          go_roundw
          case rel => exact ⟨k + 1, 2 * q, by omega, by go_num, by go_num, by omega, HS.out.symm, HB2.out⟩
          case measure => simp [intOf]; omega
      · have hkm : k = 11 := by omega
        subst hkm
        rw [← HQ.out] at HV
        have HP := Lib.hid (Md.format_impl ((q : Nat) : Int) wr)
        generalize formatM ((q : Nat) : Int) = r at HV HP
        by_cases hr : r = s
        · subst hr
          rw [if_pos rfl] at HV
          go_wp2_with fail
          refine HP.out.mono ?_
          rintro e wq ⟨rfl, hb⟩
          replace HBEL := Lib.hid (HBEL.out.trans (hb.mono HBEL.out.size))
          clear hb
          go_wp2
          go_ret2
          exact ⟨by rw [HV.out]; rfl, HBEL.out⟩
        · rw [if_neg hr] at HV
          have h1 := str_ne hr
          clear hr
          go_wp2_with fail
          refine HP.out.mono ?_
          rintro e wq ⟨rfl, hb⟩
          replace HBEL := Lib.hid (HBEL.out.trans (hb.mono HBEL.out.size))
          clear hb
          go_wp2
          go_ret2
          exact ⟨by rw [HV.out]; rfl, HBEL.out⟩

end Go.Proofs.Ytjdehgadfjopiaa.Mp
