/- Contracts: FormatMode and ParseMode and PermOf, the program's and the model's: the text of a mode, the mode of a text, a class's permission. Conditions: as each theorem types them. -/
import Derived.Test.YtjdehgadfjopiaaCrI
import Derived.Test.YtjdehgadfjopiaaRowG
import Derived.Deep.QuietTactic
import Derived.BigQuiet
import Derived.Deep.RegionLaw
namespace Go.Proofs.Ytjdehgadfjopiaa.Md
open Go.ChangeShapes Go.WideShapes Go.ChangeAt Go.RowKit
open Bx CredV ModeV RowG
open Dk (ret_bool)
open Strs (ret_int)
set_option linter.unusedVariables false

/-- A letter, or '-'. -/
def bv (c : UInt8) (b : Bool) : ByteArray := if b = true then ⟨#[c]⟩ else ⟨#[45]⟩
theorem bv_size (c : UInt8) (b : Bool) : (bv c b).size = 1 := by cases b <;> rfl
theorem bv_list (c : UInt8) (b : Bool) : (bv c b).data.toList = [if b = true then c else 45] := by cases b <;> rfl
theorem bit_any (b : Bool) (c : UInt8) (w : World) :
    Calls Try.prog 65 #[.bool b, .string ⟨#[c]⟩] w fun e w' => e = .returned (.string (bv c b)) ∧ w = w' := by
  cases b
  · go_enter Try.func65, Try.ntmps65
    go_wp2
    go_ret
    exact ⟨rfl, rfl⟩
  · go_enter Try.func65, Try.ntmps65
    go_wp2
    go_ret
    exact ⟨rfl, rfl⟩

set_option maxRecDepth 100000 in
theorem bit8 : ∀ a, a < 8 → ((bits .and .i64 ((a : Nat) : Int) 4 != 0) = decide (a / 4 % 2 = 1)) ∧ ((bits .and .i64 ((a : Nat) : Int) 2 != 0) = decide (a / 2 % 2 = 1)) ∧ ((bits .and .i64 ((a : Nat) : Int) 1 != 0) = decide (a % 2 = 1)) := by decide +kernel
theorem i64_and_nat (a b : Nat) (ha : a < 2048) (hb : b < 2048) : bits .and .i64 ((a : Nat) : Int) ((b : Nat) : Int) = ((a &&& b : Nat) : Int) := by
  have h1 : (BitVec.ofInt 64 (a : Int)).toNat = a := by rw [BitVec.toNat_ofInt]; omega
  have h2 : (BitVec.ofInt 64 (b : Int)).toNat = b := by rw [BitVec.toNat_ofInt]; omega
  have h3 : a &&& b ≤ a := Nat.and_le_left
  show IntKind.i64.wrap ((BitVec.ofInt 64 (a : Int) &&& BitVec.ofInt 64 (b : Int)).toNat : Nat) = _
  rw [BitVec.toNat_and, h1, h2, IntKind.wrap_i64]
  omega
theorem and_pow_one {n i : Nat} (h : n / 2 ^ i % 2 = 1) : n &&& 2 ^ i ≠ 0 := by
  intro he
  have h1 : (n &&& 2 ^ i).testBit i = true := by rw [Nat.testBit_and, Nat.testBit_two_pow_self, Nat.testBit_eq_decide_div_mod_eq, decide_eq_true h]; rfl
  rw [he, Nat.zero_testBit] at h1
  cases h1
theorem and_pow_none {n i : Nat} (h : ¬ n / 2 ^ i % 2 = 1) : n &&& 2 ^ i = 0 := by
  refine Nat.eq_of_testBit_eq fun j => ?_
  rw [Nat.testBit_and, Nat.testBit_two_pow, Nat.zero_testBit]
  by_cases hj : i = j
  · subst hj
    rw [Nat.testBit_eq_decide_div_mod_eq, decide_eq_false h]; rfl
  · rw [decide_eq_false hj, Bool.and_false]
theorem bit_in {m : Int} (h0 : 0 ≤ m) (h : m ≤ 2047) (i : Nat) (hi : i < 11) (c : Int) (hc : c = ((2 ^ i : Nat) : Int)) : (bits .and .i64 m c != 0) = decide (m.toNat / 2 ^ i % 2 = 1) := by
  obtain ⟨n, rfl⟩ := Int.eq_ofNat_of_zero_le h0
  subst hc
  have hp : 2 ^ i < 2048 := by
    have := Nat.pow_lt_pow_right (show 1 < 2 by omega) hi
    exact this
  rw [i64_and_nat n (2 ^ i) (by omega) hp, Int.toNat_natCast]
  by_cases hb : n / 2 ^ i % 2 = 1
  · rw [decide_eq_true hb]
    have := and_pow_one hb
    simp; omega
  · rw [decide_eq_false hb, and_pow_none hb]; rfl

/-- A digit of eight of a mode. -/
theorem oct {m : Int} (hm : modeB m = true) (k : Nat) (hk : k < 3) : permOfV m k = ((m.toNat / 8 ^ (2 - k) % 8 : Nat) : Int) := by
  have h := (mode_iff m).1 hm
  obtain ⟨e0, e1, e2⟩ := permOf_at hm
  obtain rfl | rfl | rfl : k = 0 ∨ k = 1 ∨ k = 2 := by omega
  · show permOfV m 0 = _
    rw [e0]; omega
  · show permOfV m 1 = _
    rw [e1]; omega
  · show permOfV m 2 = _
    rw [e2]; omega
theorem cons3 {a b c a' b' c' : UInt8} (h1 : a = a') (h2 : b = b') (h3 : c = c') : [a, b, c] = [a', b', c'] := by rw [h1, h2, h3]
theorem fmt_part (n k : Nat) (hk : k < 3) : (List.range (2 + 3 * (k + 1))).map (chM n) = (List.range (2 + 3 * k)).map (chM n) ++ [if n / 8 ^ (2 - k) % 8 / 4 % 2 = 1 then 114 else 45, if n / 8 ^ (2 - k) % 8 / 2 % 2 = 1 then 119 else 45, if n / 8 ^ (2 - k) % 8 % 2 = 1 then 120 else 45] := by
  rw [show 2 + 3 * (k + 1) = 2 + 3 * k + 1 + 1 + 1 by omega, List.range_succ, List.range_succ, List.range_succ]
  simp only [List.map_append, List.append_assoc, List.map_cons, List.map_nil]
  congr 1
  obtain rfl | rfl | rfl : k = 0 ∨ k = 1 ∨ k = 2 := by omega
  all_goals
    simp only [chM, letB, List.cons_append, List.nil_append]
    refine cons3 ?_ ?_ ?_
    all_goals
      refine ite_congr ?_ (fun _ => rfl) (fun _ => rfl)
      simp only [Nat.reducePow, Nat.reduceSub, Nat.reduceAdd, Nat.reduceMul]
      rw [eq_iff_iff]
      omega

set_option maxRecDepth 100000 in
set_option maxHeartbeats 800000 in
theorem perm_spec (m k : Int) (w : World) :
    Calls Try.prog 30 #[.int .i64 m, .int .i64 k] w fun e w' => e = .returned (.int .i64 (permOfV m k)) ∧ w = w' := by
  have HM := Lib.hid (Pm.mode_spec m w)
  have HI := Lib.hid (AclS.in_any k 0 2 w)
  by_cases hm : modeB m = true
  · rw [hm] at HM
    have h1 := (mode_iff m).1 hm
    have h10 := h1.1
    have h11 := h1.2
    by_cases hk : 0 ≤ k ∧ k ≤ 2
    · rw [decide_eq_true hk.1, decide_eq_true hk.2] at HI
      have HA := Lib.hid (permOf_at hm)
      clear hm h1
      obtain ⟨c, hc, rfl⟩ : ∃ c : Nat, c ≤ 2 ∧ k = (c : Int) := ⟨k.toNat, by omega, by omega⟩
      clear hk
      go_enter Try.func30, Try.ntmps30
      go_wp2_with fail
      refine HM.out.mono ?_
      rintro e w' ⟨rfl, rfl⟩
      go_wp2_with fail
      refine HI.out.mono ?_
      rintro e w' ⟨rfl, rfl⟩
      go_wp2_with fail
      go_loop [0, 5] (fun mv iv => ∃ (q : Int) (i : Nat), i ≤ 2 ∧ c ≤ i ∧ iv = .int .i64 i ∧ mv = .int .i64 q ∧ 0 ≤ q ∧ q ≤ 2047 ∧ q = m / 8 ^ (i - c)) (fun _ iv => 2 - (intOf iv).toNat)
      case atStart => exact ⟨m, c, hc, Nat.le_refl _, rfl, rfl, h10, h11, by simp⟩
      case round =>
        obtain ⟨q, i, hi, hci, rfl, rfl, hq0, hq1, hq⟩ := hrel
        have HQ := Lib.hid hq
        clear hq
        by_cases hlt : i < 2
        · have HQ2 := Lib.hid (show q / 8 = m / 8 ^ (i + 1 - c) by rw [HQ.out, show i + 1 - c = (i - c) + 1 by omega, Int.pow_succ, Int.ediv_ediv_of_nonneg (Int.pow_nonneg (by omega))])
          go_wp2
          go_round
          case rel => exact ⟨q / 8, i + 1, by omega, by omega, by go_num, rfl, by omega, by omega, HQ2.out⟩
          case measure => simp [intOf]; omega
        · obtain rfl : i = 2 := by omega
          have HR := Lib.hid (show permOfV m (c : Int) = q % 8 by
            rw [HQ.out]
            obtain rfl | rfl | rfl : c = 0 ∨ c = 1 ∨ c = 2 := by omega
            · exact HA.out.1
            · exact HA.out.2.1
            · show permOfV m 2 = _
              rw [HA.out.2.2]; simp)
          go_wp2
          go_ret
          exact ⟨ret_int HR.out.symm, rfl⟩
    · have HF := Lib.hid (Pm.perm_no (m := m) (k := k) (.inr (by omega)))
      rw [show (decide (0 ≤ k) && decide (k ≤ 2)) = false by rw [Bool.and_eq_false_iff, decide_eq_false_iff_not, decide_eq_false_iff_not]; omega] at HI
      clear hm hk
      go_enter Try.func30, Try.ntmps30
      go_wp2_with fail
      refine HM.out.mono ?_
      rintro e w' ⟨rfl, rfl⟩
      go_wp2_with fail
      refine HI.out.mono ?_
      rintro e w' ⟨rfl, rfl⟩
      go_wp2
      go_ret
      exact ⟨ret_int HF.out.symm, rfl⟩
  · have HF := Lib.hid (Pm.perm_no (m := m) (k := k) (.inl (by simpa using hm)))
    rw [show modeB m = false by simpa using hm] at HM
    clear hm
    go_enter Try.func30, Try.ntmps30
    go_wp2_with fail
    refine HM.out.mono ?_
    rintro e w' ⟨rfl, rfl⟩
    go_wp2
    go_ret
    exact ⟨ret_int HF.out.symm, rfl⟩

set_option maxRecDepth 100000 in
set_option maxHeartbeats 800000 in
theorem format_spec (m : Int) (w : World) :
    Calls Try.prog 35 #[.int .i64 m] w fun e w' => e = .returned (.string (formatM m)) ∧ w = w' := by
  have HM := Lib.hid (Pm.mode_spec m w)
  by_cases hm : modeB m = true
  · rw [hm] at HM
    have h1 := (mode_iff m).1 hm
    have HB := Lib.hid (fun b c => bit_any b c w)
    have HP := Lib.hid (fun k : Int => perm_spec m k w)
    have HO := Lib.hid (fun k hk => oct hm k hk)
    have HF := Lib.hid (show (formatM m) = ⟨(fmtM m.toNat).toArray⟩ by rw [formatM, if_pos hm])
    have e10 := bit_in h1.1 h1.2 10 (by omega) 1024 rfl
    have e9 := bit_in h1.1 h1.2 9 (by omega) 512 rfl
    obtain ⟨t10, ht10⟩ : ∃ t, t = decide (m.toNat / 2 ^ 10 % 2 = 1) := ⟨_, rfl⟩
    obtain ⟨t9, ht9⟩ : ∃ t, t = decide (m.toNat / 2 ^ 9 % 2 = 1) := ⟨_, rfl⟩
    rw [← ht10] at e10
    rw [← ht9] at e9
    have HT := Lib.hid (show (bv 115 t10 ++ bv 116 t9).data.toList = (List.range 2).map (chM m.toNat) by
      rw [ByteArray.data_append, Array.toList_append, bv_list, bv_list, ht10, ht9]
      simp only [List.range_succ, List.range_zero, List.map_append, List.map_cons, List.map_nil, List.nil_append, chM, letB, decide_eq_true_eq]
      rfl)
    have s0 : (9223372036854775807 < (bv 115 t10).size + (bv 116 t9).size) = False := by rw [bv_size, bv_size]; simp
    have HS := Lib.hid (show (bv 115 t10 ++ bv 116 t9).size = 2 by rw [ByteArray.size_append, bv_size, bv_size])
    clear hm h1 ht10 ht9
    go_enter Try.func35, Try.ntmps35
    go_wp2_with fail
    refine HM.out.mono ?_
    rintro e wq ⟨rfl, rfl⟩
    go_wp2_with fail
    refine (HB.out _ _).mono ?_
    rintro e wq ⟨rfl, rfl⟩
    go_wp2_with fail
    refine (HB.out _ _).mono ?_
    rintro e wq ⟨rfl, rfl⟩
    go_wp2_with fail
    go_loop [3, 4] (fun sv iv => ∃ (k : Nat) (s : ByteArray), k ≤ 3 ∧ iv = .int .i64 k ∧ sv = .string s ∧ s.size ≤ 11 ∧ s.data.toList = (List.range (2 + 3 * k)).map (chM m.toNat)) (fun _ iv => 3 - (intOf iv).toNat)
    case atStart => exact ⟨0, _, by omega, rfl, rfl, by rw [HS.out]; omega, HT.out⟩
    case round =>
      obtain ⟨k, s, hk, rfl, rfl, hss, hs⟩ := hrel
      have HSS := Lib.hid hs
      clear hs
      by_cases hlt : k < 3
      · have HPK := Lib.hid (HP.out (k : Int))
        rw [HO.out k hlt] at HPK
        have HN := Lib.hid (fmt_part m.toNat k hlt)
        have hd8 : m.toNat / 8 ^ (2 - k) % 8 < 8 := Nat.mod_lt _ (by omega)
        generalize m.toNat / 8 ^ (2 - k) % 8 = d at HPK HN hd8
        obtain ⟨e4, e2, e1⟩ := bit8 d hd8
        obtain ⟨t4, ht4⟩ : ∃ t, t = decide (d / 4 % 2 = 1) := ⟨_, rfl⟩
        obtain ⟨t2, ht2⟩ : ∃ t, t = decide (d / 2 % 2 = 1) := ⟨_, rfl⟩
        obtain ⟨t1, ht1⟩ : ∃ t, t = decide (d % 2 = 1) := ⟨_, rfl⟩
        rw [← ht4] at e4
        rw [← ht2] at e2
        rw [← ht1] at e1
        have HX := Lib.hid (show (s ++ bv 114 t4 ++ bv 119 t2 ++ bv 120 t1).data.toList = (List.range (2 + 3 * (k + 1))).map (chM m.toNat) by
          rw [HN.out, ← HSS.out, ByteArray.data_append, ByteArray.data_append, ByteArray.data_append, Array.toList_append, Array.toList_append, Array.toList_append, bv_list, bv_list, bv_list, ht4, ht2, ht1]
          simp only [decide_eq_true_eq, List.append_assoc, List.cons_append, List.nil_append])
        have hz4 := bv_size 114 t4
        have hz2 := bv_size 119 t2
        have hz1 := bv_size 120 t1
        have HZ := Lib.hid (show (s ++ bv 114 t4 ++ bv 119 t2 ++ bv 120 t1).size ≤ 11 by
          have h9 := congrArg List.length HX.out
          rw [List.length_map, List.length_range] at h9
          have h8 : (s ++ bv 114 t4 ++ bv 119 t2 ++ bv 120 t1).data.toList.length = (s ++ bv 114 t4 ++ bv 119 t2 ++ bv 120 t1).size := rfl
          omega)
        have f1 : (9223372036854775807 < s.size + (bv 114 t4).size) = False := by exact eq_false (by omega)
        have f2 : (9223372036854775807 < (s ++ bv 114 t4).size + (bv 119 t2).size) = False := by exact eq_false (by rw [ByteArray.size_append]; omega)
        have f3 : (9223372036854775807 < (s ++ bv 114 t4 ++ bv 119 t2).size + (bv 120 t1).size) = False := by exact eq_false (by rw [ByteArray.size_append, ByteArray.size_append]; omega)
        have g2 : (9223372036854775807 < s.size + (bv 114 t4).size + (bv 119 t2).size) = False := by exact eq_false (by omega)
        have g3 : (9223372036854775807 < s.size + (bv 114 t4).size + (bv 119 t2).size + (bv 120 t1).size) = False := by exact eq_false (by omega)
        clear hz4 hz2 hz1 ht4 ht2 ht1 s0
        go_wp2_with fail
        refine HPK.out.mono ?_
        rintro e wq ⟨rfl, rfl⟩
        go_wp2_with fail
        refine (HB.out _ _).mono ?_
        rintro e wq ⟨rfl, rfl⟩
        go_wp2_with fail
        refine (HB.out _ _).mono ?_
        rintro e wq ⟨rfl, rfl⟩
        go_wp2_with fail
        refine (HB.out _ _).mono ?_
        rintro e wq ⟨rfl, rfl⟩
        go_wp2
        go_round
        case rel => exact ⟨k + 1, _, by omega, by go_num, rfl, HZ.out, HX.out⟩
        case measure => simp [intOf]; omega
      · obtain rfl : k = 3 := by omega
        have HR := Lib.hid (show formatM m = s by
          rw [HF.out]
          refine ByteArray.ext (Array.toList_inj.1 ?_)
          rw [HSS.out]; rfl)
        go_wp2
        go_ret
        exact ⟨by rw [HR.out]; rfl, rfl⟩
  · have HF := Lib.hid (formatM_no (m := m) (by simpa using hm))
    rw [show modeB m = false by simpa using hm] at HM
    clear hm
    go_enter Try.func35, Try.ntmps35
    go_wp2_with fail
    refine HM.out.mono ?_
    rintro e wq ⟨rfl, rfl⟩
    go_wp2
    go_ret
    exact ⟨by rw [HF.out]; rfl, rfl⟩

/-- The letters, those of the first k places turned into the mode's. -/
def mixM (n k : Nat) : List UInt8 := (List.range 11).map fun i => if i < k then chM n i else letB i
theorem mix_zero (n : Nat) : mixM n 0 = [115, 116, 114, 119, 120, 114, 119, 120, 114, 119, 120] := by unfold mixM; simp [List.range_succ, letB]
theorem mix_all (n : Nat) : mixM n 11 = fmtM n := by
  unfold mixM fmtM
  refine List.map_congr_left fun i hi => ?_
  rw [List.mem_range] at hi
  rw [if_pos hi]
theorem mix_length (n k : Nat) : (mixM n k).length = 11 := by simp [mixM]
theorem mix_set (n k : Nat) (hk : k < 11) (h : ¬ n / 2 ^ (10 - k) % 2 = 1) : (mixM n k).set k 45 = mixM n (k + 1) := by
  refine List.ext_getElem (by simp [mixM]) fun i h1 h2 => ?_
  rw [List.getElem_set]
  simp only [mixM, List.getElem_map, List.getElem_range]
  by_cases hi : k = i
  · subst hi
    rw [if_pos rfl, if_pos (by omega), chM, if_neg h]
  · rw [if_neg hi]
    by_cases h3 : i < k
    · rw [if_pos h3, if_pos (by omega)]
    · rw [if_neg h3, if_neg (by omega)]
theorem mix_same (n k : Nat) (hk : k < 11) (h : n / 2 ^ (10 - k) % 2 = 1) : mixM n k = mixM n (k + 1) := by
  refine List.ext_getElem (by simp [mixM]) fun i h1 h2 => ?_
  simp only [mixM, List.getElem_map, List.getElem_range]
  by_cases hi : k = i
  · subst hi
    rw [if_neg (by omega), if_pos (by omega), chM, if_pos h]
  · by_cases h3 : i < k
    · rw [if_pos h3, if_pos (by omega)]
    · rw [if_neg h3, if_neg (by omega)]
theorem i64_and1 (n : Int) : bits .and .i64 n 1 = n % 2 := by
  have h7 : (BitVec.ofInt 64 1).toNat = 2 ^ 1 - 1 := by decide
  have key : (BitVec.ofInt 64 n &&& BitVec.ofInt 64 1).toNat = (n % ((2 ^ 64 : Nat) : Int)).toNat % 2 ^ 1 := by
    rw [BitVec.toNat_and, BitVec.toNat_ofInt, h7, Nat.and_two_pow_sub_one_eq_mod]
  show IntKind.i64.wrap ((BitVec.ofInt 64 n &&& BitVec.ofInt 64 1).toNat : Nat) = n % 2
  rw [key, IntKind.wrap_i64]
  omega
theorem bit_cast {n : Nat} {m : Int} (h : m = (n : Int)) (j : Nat) : (m / 2 ^ j % 2 == 0) = decide (¬ n / 2 ^ j % 2 = 1) := by
  subst h
  have e : ((n : Int) / 2 ^ j % 2) = ((n / 2 ^ j % 2 : Nat) : Int) := by push_cast; rfl
  rw [e]
  by_cases hb : n / 2 ^ j % 2 = 1
  · rw [decide_eq_false (by simpa using hb), hb]; rfl
  · rw [decide_eq_true hb, show n / 2 ^ j % 2 = 0 by omega]; rfl
theorem store_dash {w : World} {b g : Nat} {e : TypeId} {l : List UInt8} (h : OwnG w b e (.slice (some ⟨g, 0, none⟩) 11 11) 11 (cellsB l)) (k : Nat) : OwnG (w.setCell ⟨g, k, none⟩ (.int .u8 45)) b e (.slice (some ⟨g, 0, none⟩) 11 11) 11 (cellsB (l.set k 45)) := by
  have := (h.stored k (.int .u8 ((45 : UInt8).toNat : Int))).1
  rw [cellsB_set] at this
  exact this
theorem first_row (w : World) (e : TypeId) : OwnG (w.alloc (.cells #[.int .u8 115, .int .u8 116, .int .u8 114, .int .u8 119, .int .u8 120, .int .u8 114, .int .u8 119, .int .u8 120, .int .u8 114, .int .u8 119, .int .u8 120] e (11, 12))) w.heap.size e (.slice (some ⟨w.heap.size, 0, none⟩) 11 11) 11 (cellsB [115, 116, 114, 119, 120, 114, 119, 120, 114, 119, 120]) :=
  ⟨rfl, w.heap.size, 11, _, (11, 12), rfl, Nat.le_refl _, World.alloc_heap_new w _, .inl (Nat.le_refl _), Nat.le_refl _, by unfold maxLen; omega, rfl, rfl⟩

set_option maxRecDepth 100000 in
set_option maxHeartbeats 3200000 in
theorem format_impl (m : Int) (w : World) :
    Calls Try.prog 23 #[.int .i64 m] w fun e w' => e = .returned (.string (formatM m)) ∧ Below w.heap.size w w' := by
  have HM := Lib.hid (Pm.mode_impl m w)
  by_cases hm : modeB m = true
  · rw [hm] at HM
    have h1 := (mode_iff m).1 hm
    have h10 := h1.1
    have h11 := h1.2
    have HF := Lib.hid (show (formatM m) = ⟨(fmtM m.toNat).toArray⟩ by rw [formatM, if_pos hm])
    obtain ⟨n, hn⟩ : ∃ n, n = m.toNat := ⟨_, rfl⟩
    rw [← hn] at HF
    have HN := Lib.hid hn
    have HA := Lib.hid (first_row w 5)
    have HB := Lib.hid ((Below.refl w.heap.size w).alloc (Nat.le_refl _) (.cells #[.int .u8 115, .int .u8 116, .int .u8 114, .int .u8 119, .int .u8 120, .int .u8 114, .int .u8 119, .int .u8 120, .int .u8 114, .int .u8 119, .int .u8 120] 5 (11, 12)))
    clear hm h1 hn
    have kc := Lib.run_convert_bytes_const (P := Try.prog) w 22 5 #[.int .u8 115, .int .u8 116, .int .u8 114, .int .u8 119, .int .u8 120, .int .u8 114, .int .u8 119, .int .u8 120, .int .u8 114, .int .u8 119, .int .u8 120] 11 11 Try.underlying22 Try.underlying5
    have a1 := i64_and1
    go_enter Try.func23, Try.ntmps23
    go_wp2_with fail
    refine HM.out.mono ?_
    rintro e wq ⟨rfl, rfl⟩
    go_wp2_with fail
    clear kc
    go_loopw [12] (fun iv wr => ∃ k : Nat, k ≤ 11 ∧ iv = .int .i64 k ∧ OwnG wr w.heap.size 5 (.slice (some ⟨w.heap.size, 0, none⟩) 11 11) 11 (cellsB (mixM n k)) ∧ Below w.heap.size w wr) (fun iv _ => 11 - (intOf iv).toNat)
    case atStart => exact ⟨0, by omega, rfl, by rw [mix_zero]; exact HA.out, HB.out⟩
    case round =>
      obtain ⟨k, hk, rfl, hown, hbel⟩ := hrel
      have HO := Lib.hid hown
      have HBEL := Lib.hid hbel
      clear hown hbel HA HB
      by_cases hlt : k < 11
      · have HST := Lib.hid (fun h => (by rw [← mix_set n k hlt h]; exact store_dash HO.out k : OwnG (wr.setCell ⟨w.heap.size, k, none⟩ (.int .u8 45)) w.heap.size 5 (.slice (some ⟨w.heap.size, 0, none⟩) 11 11) 11 (cellsB (mixM n (k + 1)))))
        have HSA := Lib.hid (fun h => (by rw [← mix_same n k hlt h]; exact HO.out : OwnG wr w.heap.size 5 (.slice (some ⟨w.heap.size, 0, none⟩) 11 11) 11 (cellsB (mixM n (k + 1)))))
        have HBS := Lib.hid (HBEL.out.setCell (p := ⟨w.heap.size, k, none⟩) (Nat.le_refl _) (.int .u8 45))
        have hcl := HO.out.cellAt k hlt
        rw [List.getElem?_eq_getElem (by rw [cellsB_length, mix_length]; exact hlt)] at hcl
        have hf := HO.out.frozenAt k hlt
        generalize (cellsB (mixM n k))[k]'_ = y at hcl
        have HBit := Lib.hid (bit_cast (n := n) (m := m) (by rw [HN.out]; omega) (10 - k))
        go_wp2
        · rename_i hz
          go_roundw
          case rel => exact ⟨k + 1, by omega, by go_num, HST.out (by rw [HBit.out] at hz; simpa using hz), HBS.out⟩
          case measure => simp [intOf]; omega
        · rename_i hz
          go_roundw
          case rel => exact ⟨k + 1, by omega, by go_num, HSA.out (by rw [HBit.out] at hz; simpa using hz), HBEL.out⟩
          case measure => simp [intOf]; omega
      · obtain rfl : k = 11 := by omega
        have hbk := back HO.out
        rw [mix_all, ← HF.out] at hbk
        go_wp2
        go_ret
        exact ⟨rfl, HBEL.out⟩
  · have HF := Lib.hid (formatM_no (m := m) (by simpa using hm))
    rw [show modeB m = false by simpa using hm] at HM
    clear hm
    go_enter Try.func23, Try.ntmps23
    go_wp2_with fail
    refine HM.out.mono ?_
    rintro e wq ⟨rfl, rfl⟩
    go_wp2
    go_ret
    exact ⟨by rw [HF.out]; rfl, Below.refl _ _⟩

end Go.Proofs.Ytjdehgadfjopiaa.Md
