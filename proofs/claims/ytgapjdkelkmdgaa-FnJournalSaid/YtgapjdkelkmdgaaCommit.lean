/- Contracts: the program's and the model's CommitSector, and what they lean on: whether the writes' sectors are those of disks, the two bytes of a sector's number, the checksum of all. Conditions: the lengths, and what the data take in all. -/
import Derived.Test.YtgapjdkelkmdgaaCommitF
import Derived.Test.YtgapjdkelkmdgaaIsTxn
import Derived.Test.YtgapjdkelkmdgaaPadToImpl
import Derived.Test.YtgapjdkelkmdgaaHexOf
import Derived.Deep.RegionHeld3
namespace Go.Proofs.Ytgapjdkelkmdgaa.Commit
open Go.ChangeShapes Go.WideShapes Go.ChangeAt Go.RowKit
open Wr (Wt d0 datas)
open Dk (AtW atW ret_bool blk_new blk_of blk_two RowIn Turned Box)
open Strs (total own_below strInfo)
open Txn (Tgt parts cat sumOf fields commitV)
open IsTxn (all_snoc len_any)
set_option linter.unusedVariables false

/-- Sector i is that of a disk. -/
def At (l : List Wt) (k : Nat) : Prop := 0 ≤ (l.getD k d0).1 ∧ (l.getD k d0).1 < 400
theorem not_tgt {l : List Wt} (h : ¬ Tgt l) : decide (Tgt l) = false := decide_eq_false h
theorem ret_str {a b : ByteArray} (h : a = b) : Ending.returned (.string a) = .returned (.string b) := by rw [h]
theorem ret_int {a b : Int} (h : a = b) : Ending.returned (.int .i64 a) = .returned (.int .i64 b) := by rw [h]

set_option maxRecDepth 100000 in
set_option maxHeartbeats 800000 in
theorem has_any (w : World) (lv : Value) (l : List Wt) (h3 : l.length ≤ 1073741824) (hl : Wr.Holds w lv l) :
    Calls Try.prog 73 #[lv] w fun e w' => e = .returned (.bool (decide (Tgt l))) ∧ Below w.heap.size w w' := by
  obtain ⟨c, cc, rfl, hc⟩ := atW hl
  clear hl
  have HC := Lib.hid hc
  clear hc
  obtain ⟨N, hN⟩ : ∃ N, N = l.length := ⟨_, rfl⟩
  rw [← hN] at h3 ⊢
  have HN := Lib.hid hN
  clear hN
  by_cases hn : 1 ≤ N ∧ N ≤ 64
  · have HDN := Lib.hid (show decide (1 ≤ N ∧ N ≤ 64) = true from decide_eq_true hn)
    have hn2 := hn.2
    have HT := Lib.hid (show Tgt l ↔ ∀ k, k < N → At l k by
      unfold Tgt
      rw [← HN.out]
      exact ⟨fun h => h.2, fun h => ⟨hn, h⟩⟩)
    clear hn
    go_enter Try.func73, Try.ntmps73
    go_wp2_with fail
    refine (len_any N _ h3).mono ?_
    rw [HDN.out]
    rintro e wq ⟨rfl, rfl⟩
    go_wp2_with fail
    go_loopw [11] (fun iv wr => ∃ i : Nat, i ≤ N ∧ iv = .int .i64 i ∧ (∀ k, k < i → At l k) ∧ Below w.heap.size w wr) (fun iv _ => N - (intOf iv).toNat)
    case atStart => exact ⟨0, Nat.zero_le _, rfl, fun j hj => absurd hj (Nat.not_lt_zero _), Below.refl _ _⟩
    case round =>
      obtain ⟨i, hi, rfl, hg, hbel⟩ := hrel
      have HG := Lib.hid hg
      have HBEL := Lib.hid hbel
      have hsz := hbel.size
      clear hg hbel
      by_cases hlt : i < N
      · have hlx : i < l.length := by rw [← HN.out]; exact hlt
        obtain ⟨bw, ow, rfl, hbw, hc1, hc2⟩ := HC.out i hlx
        rw [← HBEL.out.cell (p := ⟨bw, _, none⟩) hbw] at hc1 hc2
        have HNO := Lib.hid (show ¬ At l i → decide (Tgt l) = false from fun h => not_tgt (fun hk => h (HT.out.1 hk i hlt)))
        have HYES := Lib.hid (show At l i → ∀ k, k < i + 1 → At l k from fun h => all_snoc HG.out h)
        have HKE := Lib.hid (show At l i ↔ 0 ≤ (l.getD i d0).1 ∧ (l.getD i d0).1 < 400 from Iff.rfl)
        generalize l.getD i d0 = x at hc1 hc2 HKE
        generalize At l i = K at HKE HNO HYES
        obtain ⟨z0, z1, _, _⟩ := blk_two (blk_new wr (.cells #[.int .i64 x.1, .string x.2] 39))
        have HBF := Lib.hid (HBEL.out.alloc hsz (.cells #[.int .i64 x.1, .string x.2] 39))
        by_cases q1 : x.1 < 0
        · have HF := Lib.hid (HNO.out (fun hk => by have := (HKE.out.1 hk).1; omega))
          go_wp2_with fail
          go_ret
          exact ⟨ret_bool HF.out.symm, HBF.out⟩
        · by_cases q2 : 400 ≤ x.1
          · have HF := Lib.hid (HNO.out (fun hk => by have := (HKE.out.1 hk).2; omega))
            go_wp2_with fail
            go_ret
            exact ⟨ret_bool HF.out.symm, HBF.out⟩
          · have HK := Lib.hid (HYES.out (HKE.out.2 ⟨by omega, by omega⟩))
            go_wp2_with fail
            go_roundw
            case rel => exact ⟨i + 1, by omega, by go_num, HK.out, HBF.out⟩
            case measure => simp [intOf]; omega
      · have HF := Lib.hid (show decide (Tgt l) = true from decide_eq_true (HT.out.2 (by rw [show N = i from by omega]; exact HG.out)))
        go_wp2_with fail
        go_ret
        exact ⟨ret_bool HF.out.symm, HBEL.out⟩
  · have HDN := Lib.hid (show decide (1 ≤ N ∧ N ≤ 64) = false from decide_eq_false hn)
    have HF := Lib.hid (show decide (Tgt l) = false from not_tgt (fun hk => hn (by have := hk.1; rw [HN.out]; exact this)))
    clear hn
    go_enter Try.func73, Try.ntmps73
    go_wp2_with fail
    refine (len_any N _ h3).mono ?_
    rw [HDN.out]
    rintro e wq ⟨rfl, rfl⟩
    go_wp2_with fail
    go_ret
    exact ⟨ret_bool HF.out.symm, Below.refl _ _⟩

set_option maxRecDepth 100000 in
set_option maxHeartbeats 800000 in
theorem ok_any (w : World) (lv : Value) (l : List Wt) (h3 : l.length ≤ 1073741824) (hl : Wr.Holds w lv l) :
    Calls Try.prog 88 #[lv] w fun e w' => e = .returned (.bool (decide (Tgt l))) ∧ Below w.heap.size w w' := by
  obtain ⟨c, cc, rfl, hc⟩ := atW hl
  clear hl
  have HC := Lib.hid hc
  clear hc
  obtain ⟨N, hN⟩ : ∃ N, N = l.length := ⟨_, rfl⟩
  rw [← hN] at h3 ⊢
  have HN := Lib.hid hN
  clear hN
  have HT := Lib.hid (show Tgt l ↔ (1 ≤ N ∧ N ≤ 64) ∧ ∀ k, k < N → At l k by
    unfold Tgt
    rw [← HN.out]
    exact Iff.rfl)
  go_enter Try.func88, Try.ntmps88
  go_wp2_with fail
  go_loopw [7] (fun iv wr => ∃ i : Nat, i ≤ N ∧ iv = .int .i64 i ∧ (∀ k, k < i → At l k) ∧ Below w.heap.size w wr) (fun iv _ => N - (intOf iv).toNat)
  case atStart => exact ⟨0, Nat.zero_le _, rfl, fun j hj => absurd hj (Nat.not_lt_zero _), Below.refl _ _⟩
  case round =>
    obtain ⟨i, hi, rfl, hg, hbel⟩ := hrel
    have HG := Lib.hid hg
    have HBEL := Lib.hid hbel
    have hsz := hbel.size
    clear hg hbel
    by_cases hlt : i < N
    · have hlx : i < l.length := by rw [← HN.out]; exact hlt
      obtain ⟨bw, ow, rfl, hbw, hc1, hc2⟩ := HC.out i hlx
      rw [← HBEL.out.cell (p := ⟨bw, _, none⟩) hbw] at hc1 hc2
      have HNO := Lib.hid (show ¬ At l i → decide (Tgt l) = false from fun h => not_tgt (fun hk => h ((HT.out.1 hk).2 i hlt)))
      have HYES := Lib.hid (show At l i → ∀ k, k < i + 1 → At l k from fun h => all_snoc HG.out h)
      have HKE := Lib.hid (show At l i ↔ 0 ≤ (l.getD i d0).1 ∧ (l.getD i d0).1 ≤ 399 from ⟨fun h => ⟨h.1, by have := h.2; omega⟩, fun h => ⟨h.1, by have := h.2; omega⟩⟩)
      generalize l.getD i d0 = x at hc1 hc2 HKE
      generalize At l i = K at HKE HNO HYES
      obtain ⟨z0, z1, _, _⟩ := blk_two (blk_new wr (.cells #[.int .i64 x.1, .string x.2] 39))
      have HBF := Lib.hid (HBEL.out.alloc hsz (.cells #[.int .i64 x.1, .string x.2] 39))
      by_cases q1 : 0 ≤ x.1 ∧ x.1 ≤ 399
      · have HD := Lib.hid (show decide (0 ≤ x.1 ∧ x.1 ≤ 399) = true from decide_eq_true q1)
        have HK := Lib.hid (HYES.out (HKE.out.2 q1))
        clear q1
        go_wp2_with fail
        refine (IsDisk.in_any x.1 0 399 _).mono ?_
        rw [HD.out]
        rintro e wq ⟨rfl, rfl⟩
        go_wp2_with fail
        go_roundw
        case rel => exact ⟨i + 1, by omega, by go_num, HK.out, HBF.out⟩
        case measure => simp [intOf]; omega
      · have HD := Lib.hid (show decide (0 ≤ x.1 ∧ x.1 ≤ 399) = false from decide_eq_false q1)
        have HF := Lib.hid (HNO.out (fun hk => q1 (HKE.out.1 hk)))
        clear q1
        go_wp2_with fail
        refine (IsDisk.in_any x.1 0 399 _).mono ?_
        rw [HD.out]
        rintro e wq ⟨rfl, rfl⟩
        go_wp2_with fail
        go_ret
        exact ⟨ret_bool HF.out.symm, HBF.out⟩
    · have HF := Lib.hid (show decide (Tgt l) = decide ((1 : Int) ≤ (N : Int) ∧ (N : Int) ≤ 64) from decide_eq_decide.2 ⟨fun h => by have := (HT.out.1 h).1; omega, fun h => HT.out.2 ⟨by omega, by rw [show N = i from by omega]; exact HG.out⟩⟩)
      go_wp2_with fail
      refine (IsDisk.in_any (N : Int) 1 64 _).mono ?_
      rintro e wq ⟨rfl, rfl⟩
      rw [← HF.out]
      go_wp2_with fail
      go_ret
      exact ⟨rfl, HBEL.out⟩

set_option maxRecDepth 100000 in
set_option maxHeartbeats 800000 in
theorem put_any (x : Wt) (w : World) (h0 : 0 ≤ x.1) (h1 : x.1 < 400) :
    Calls Try.prog 74 #[.agg #[.int .i64 x.1, .string x.2]] w fun e w' => e = .returned (.string (Nums.putB x.1 2)) ∧ Below w.heap.size w w' := by
  obtain ⟨z0, z1, _, _⟩ := blk_two (blk_new w (.cells #[.int .i64 x.1, .string x.2] 39))
  have HB := Lib.hid ((Below.refl w.heap.size w).alloc (Nat.le_refl _) (.cells #[.int .i64 x.1, .string x.2] 39))
  go_enter Try.func74, Try.ntmps74
  go_wp2_with fail
  refine (PutNumber.impl_any x.1 2 _ (by omega) (by omega)).mono ?_
  rintro e w1 ⟨rfl, hb⟩
  go_wp2_with fail
  go_ret
  exact ⟨rfl, HB.out.trans (hb.mono HB.out.size)⟩

set_option maxRecDepth 100000 in
set_option maxHeartbeats 1600000 in
theorem sum_any (w : World) (lv : Value) (l : List Wt) (ht : Tgt l) (hd : total (datas l) ≤ 1048576) (hl : Wr.Holds w lv l) :
    Calls Try.prog 78 #[lv] w fun e w' => e = .returned (.int .i64 (sumOf l)) ∧ Below w.heap.size w w' := by
  obtain ⟨i0, hi, hz0, hz1, hz2⟩ := info_parts strInfo
  have HI := Lib.hid hi
  have HZ0 := Lib.hid hz0
  have HZ1 := Lib.hid hz1
  have HZ2 := Lib.hid hz2
  clear hi hz0 hz1 hz2
  obtain ⟨c, cc, rfl, hc⟩ := atW hl
  clear hl
  have HC := Lib.hid hc
  clear hc
  have hn64 : l.length ≤ 64 := ht.1.2
  have HT := Lib.hid ht.2
  have htot : total (parts l) ≤ 1049000 := by have := Txn.total_parts l; omega
  have HTOT := Lib.hid htot
  have HSZ := Lib.hid (show (cat (parts l)).size ≤ 2097152 by rw [Txn.cat_size]; omega)
  have HJ := Lib.hid (Txn.joined_all (parts l))
  have HPL := Lib.hid (Txn.parts_length l)
  obtain ⟨N, hN⟩ : ∃ N, N = l.length := ⟨_, rfl⟩
  rw [← hN] at hn64 ⊢
  have HN := Lib.hid hN
  clear hN ht hd htot
  go_enter Try.func78, Try.ntmps78
  go_wp2_with fail
  go_loopw [3, 8] (fun v iv wr => ∃ i : Nat, i ≤ N ∧ iv = .int .i64 i ∧ wr.ownsRow w.heap.size 9 1 v (2 * i) ((parts (l.take i)).map Value.string) ∧ Below w.heap.size w wr) (fun _ iv _ => N - (intOf iv).toNat)
  case atStart => exact ⟨0, Nat.zero_le _, rfl, World.ownsRow_nil _ _ _ _, Below.refl _ _⟩
  case round =>
    obtain ⟨i, hii, rfl, hown, hbel⟩ := hrel
    have HO := Lib.hid hown
    have HBEL := Lib.hid hbel
    have hsz := hbel.size
    clear hown hbel
    by_cases hlt : i < N
    · have hlx : i < l.length := by rw [← HN.out]; exact hlt
      obtain ⟨bw, ow, rfl, hbw, hc1, hc2⟩ := HC.out i hlx
      rw [← HBEL.out.cell (p := ⟨bw, _, none⟩) hbw] at hc1 hc2
      obtain ⟨hx0, hx4⟩ := HT.out i hlx
      have HP := Lib.hid (Txn.parts_take l i hlx)
      generalize l.getD i d0 = x at hc1 hc2 hx0 hx4 HP
      have BX := Lib.hid (show Box (wr.alloc (.cells #[.int .i64 x.1, .string x.2] 39)) wr.heap.size (.int .i64 x.1) (.string x.2) 39 from blk_new wr (.cells #[.int .i64 x.1, .string x.2] 39))
      obtain ⟨z0, z1, _, _⟩ := Dk.Box.four BX.out
      have HB := Lib.hid (HBEL.out.alloc hsz (.cells #[.int .i64 x.1, .string x.2] 39))
      replace HO := Lib.hid (World.ownsRow.alloc HO.out (.cells #[.int .i64 x.1, .string x.2] 39))
      have hs0 : w.heap.size ≤ (wr.alloc (.cells #[.int .i64 x.1, .string x.2] 39)).heap.size := by simp; omega
      go_wp2
      generalize wr.alloc (.cells #[.int .i64 x.1, .string x.2] 39) = wa at BX z0 z1 HB HO hs0 ⊢
      go_region_law (first | (go_simp; go_at_call 74; refine (put_any x _ hx0 hx4).mono ?_; rintro e w2 ⟨rfl, hb⟩; have s2 := hb.size; simp only [World.size_drew] at s2; replace HB := Lib.hid (HB.out.drew.trans (hb.mono HB.out.drew.size)); replace BX := Lib.hid (Dk.Box.below (show Box wa.drew _ _ _ _ from BX.out) hb); replace HO := Lib.hid (Strs.own_below (show wa.drew.ownsRow _ _ _ _ _ _ from HO.out) hb); clear hb; obtain ⟨y0, y1, _, _⟩ := Dk.Box.four BX.out) | (refine HexOf.step_append_own rfl _ _ 23 rfl w.heap.size 9 i0 (.string ⟨#[]⟩) 1 16 Try.underlying23 HI.out HZ0.out HZ1.out HZ2.out rfl (by decide) _ _ _ rfl (World.ownsRow.alloc HO.out _) ⟨w2.heap.size, 0, none⟩ 2 2 [.string (Nums.putB x.1 2), .string x.2] rfl rfl (cell_two_new _ _ _ _) (by simp [Value.oneCell']) (by unfold maxLen; omega) (by omega) (by simp; omega) ?_; intro v' w3 hown1 hg1 _; have HO1 := Lib.hid hown1; have s3 := hg1.size; simp only [World.size_alloc] at s3; have ht := Turned.of_grown (lo := w.heap.size) (hi := w3.heap.size) hg1 (fun q hq => ⟨(HO.out.lt q hq).1, by have := (HO.out.lt q hq).2; omega⟩); replace HB := Lib.hid ((HB.out.alloc (by omega) _).trans (ht.below (Nat.le_refl _) (by simp only [World.size_alloc]; omega))); clear hown1 hg1 ht))
      all_goals
        go_wp2
        go_roundw
        case rel => exact ⟨i + 1, by omega, by go_num, by rw [HP.out, List.map_append]; exact HO1.out, HB.out⟩
        case measure => simp [intOf]; omega
    · have HE := Lib.hid (show l.take i = l by rw [show i = l.length from by rw [← HN.out]; omega]; exact List.take_of_length_le (Nat.le_refl _))
      have hh := Strs.holds_of_own HO.out
      rw [HE.out] at hh
      have HW := Lib.hid hh
      clear hh
      go_wp2_with fail
      refine (Join.impl_any _ _ (parts l) ⟨#[]⟩ (by decide) (by rw [HPL.out, ← HN.out]; have := HTOT.out; omega) HW.out (Join.cap_of_own HO.out)).mono ?_
      rintro e w1 ⟨rfl, hb1⟩
      rw [HJ.out]
      have HB1 := Lib.hid (HBEL.out.trans (hb1.mono HBEL.out.size))
      clear hb1
      go_wp2_with fail
      refine (Checksum.impl_any (cat (parts l)) _ HSZ.out).mono ?_
      rintro e w2 ⟨rfl, hb2⟩
      go_wp2_with fail
      go_ret
      exact ⟨rfl, HB1.out.trans (hb2.mono HB1.out.size)⟩

theorem holds_new4 (w : World) (T : TypeId) (a b c d : ByteArray) : Strs.Holds (w.alloc (.cells #[.string a, .string b, .string c, .string d] T)) (.slice (some ⟨w.heap.size, 0, none⟩) 4 4) [a, b, c, d] := by
  refine ⟨some ⟨w.heap.size, 0, none⟩, 4, rfl, fun _ => ⟨w.heap.size, 0, rfl, by simp, fun j hj => ?_⟩⟩
  rw [Nat.zero_add, Checksum.cell_of (blk_new w (.cells #[.string a, .string b, .string c, .string d] T))]
  simp only [List.length_cons, List.length_nil] at hj
  rcases (show j = 0 ∨ j = 1 ∨ j = 2 ∨ j = 3 by omega) with rfl | rfl | rfl | rfl <;> rfl
set_option maxRecDepth 100000 in
set_option maxHeartbeats 1600000 in
theorem impl_any (w : World) (lv : Value) (seq : Int) (l : List Wt) (h3 : l.length ≤ 1073741824) (hd : total (datas l) ≤ 1048576) (hl : Wr.Holds w lv l) :
    Calls Try.prog 26 #[.int .i64 seq, lv] w fun e w' => e = .returned (.string (commitV seq l)) ∧ Below w.heap.size w w' := by
  obtain ⟨c, cc, rfl, _⟩ := atW hl
  have HL := Lib.hid hl
  clear hl
  by_cases q1 : seq < 0
  · have HR := Lib.hid (show commitV seq l = ⟨#[]⟩ from if_neg (fun h => by have := h.1.1; omega))
    generalize l.length = N at h3 HL ⊢
    go_enter Try.func26, Try.ntmps26
    go_wp2_with fail
    go_ret
    exact ⟨ret_str HR.out.symm, Below.refl _ _⟩
  by_cases q2 : 1000000000 < seq
  · have HR := Lib.hid (show commitV seq l = ⟨#[]⟩ from if_neg (fun h => by have := h.1.2; omega))
    generalize l.length = N at h3 HL ⊢
    go_enter Try.func26, Try.ntmps26
    go_wp2_with fail
    go_ret
    exact ⟨ret_str HR.out.symm, Below.refl _ _⟩
  by_cases ht : Tgt l
  · have HT := Lib.hid ht
    have HDT := Lib.hid (show decide (Tgt l) = true from decide_eq_true ht)
    have HR := Lib.hid (show commitV seq l = PadTo.padB (cat (fields seq l)) 32 from if_pos ⟨⟨by omega, by omega⟩, ht⟩)
    have HF := Lib.hid (Txn.joined_all (fields seq l))
    have HLE := Lib.hid (show (fields seq l).length + total (fields seq l) ≤ 2097152 from Nat.le_trans (Nat.add_le_add (Nat.le_of_eq (show (fields seq l).length = 4 from rfl)) (Txn.fields_total seq l)) (by decide))
    have HSZ := Lib.hid (show (cat (fields seq l)).size ≤ 1048576 by rw [Txn.cat_size]; exact Nat.le_trans (Txn.fields_total seq l) (by decide))
    have HFE := Lib.hid (show fields seq l = [Txn.mark, Nums.putB seq 4, Nums.putB l.length 2, Nums.putB (sumOf l) 4] from rfl)
    have hn64 : l.length ≤ 64 := ht.1.2
    obtain ⟨Q, hQ⟩ : ∃ Q, Q = sumOf l := ⟨_, rfl⟩
    have hS4 : Q < 4294967296 := by rw [hQ]; exact Txn.sumOf_lt l
    rw [← hQ] at HFE
    have HQ := Lib.hid hQ
    clear ht hQ
    obtain ⟨N, hN⟩ : ∃ N, N = l.length := ⟨_, rfl⟩
    rw [← hN] at hn64 h3 HL HFE ⊢
    have HN := Lib.hid hN
    clear hN
    go_enter Try.func26, Try.ntmps26
    go_wp2_with fail
    refine (has_any w _ l (by rw [← HN.out]; exact h3) HL.out).mono ?_
    rw [HDT.out]
    rintro e w1 ⟨rfl, hb⟩
    have HB := Lib.hid hb
    clear hb
    go_wp2_with fail
    refine (PutNumber.impl_any seq 4 _ (by omega) (by omega)).mono ?_
    rintro e w2 ⟨rfl, hb⟩
    replace HB := Lib.hid (HB.out.trans (hb.mono HB.out.size))
    clear hb
    go_wp2_with fail
    refine (PutNumber.impl_any (N : Int) 2 _ (by omega) (by omega)).mono ?_
    rintro e w3 ⟨rfl, hb⟩
    replace HB := Lib.hid (HB.out.trans (hb.mono HB.out.size))
    clear hb
    go_wp2_with fail
    refine (sum_any _ _ l HT.out hd (Wr.holds_below (B := 0) HL.out HB.out)).mono ?_
    rintro e w4 ⟨rfl, hb⟩
    rw [← HQ.out]
    replace HB := Lib.hid (HB.out.trans (hb.mono HB.out.size))
    clear hb
    go_wp2_with fail
    refine (PutNumber.impl_any (Q : Int) 4 _ (by omega) (by omega)).mono ?_
    rintro e w5 ⟨rfl, hb⟩
    replace HB := Lib.hid (HB.out.trans (hb.mono HB.out.size))
    clear hb
    have HH := Lib.hid (show Strs.Holds (w5.alloc (.cells #[.string ⟨#[74, 82, 78, 76]⟩, .string (Nums.putB seq 4), .string (Nums.putB (N : Int) 2), .string (Nums.putB (Q : Int) 4)] 9)) (.slice (some ⟨w5.heap.size, 0, none⟩) 4 4) (fields seq l) by
      rw [HFE.out]
      exact holds_new4 w5 9 _ _ _ _)
    have HBA := Lib.hid (HB.out.trans (Joins.below_alloc1 w5 (.cells #[.string ⟨#[74, 82, 78, 76]⟩, .string (Nums.putB seq 4), .string (Nums.putB (N : Int) 2), .string (Nums.putB (Q : Int) 4)] 9) |>.mono HB.out.size))
    go_wp2_with fail
    refine (Join.impl_any _ _ (fields seq l) ⟨#[]⟩ (by decide) HLE.out HH.out (fun a n c h => by cases h; omega)).mono ?_
    rintro e w6 ⟨rfl, hb⟩
    rw [HF.out]
    replace HBA := Lib.hid (HBA.out.trans (hb.mono HBA.out.size))
    clear hb
    go_wp2_with fail
    refine (PadTo.impl_any (cat (fields seq l)) 32 _ HSZ.out (by decide)).mono ?_
    rintro e w7 ⟨rfl, hb⟩
    go_wp2_with fail
    go_ret
    exact ⟨ret_str HR.out.symm, HBA.out.trans (hb.mono HBA.out.size)⟩
  · have HDT := Lib.hid (show decide (Tgt l) = false from not_tgt ht)
    have HR := Lib.hid (show commitV seq l = ⟨#[]⟩ from if_neg (fun h => ht h.2))
    clear ht
    go_enter Try.func26, Try.ntmps26
    go_wp2_with fail
    refine (has_any w _ l h3 HL.out).mono ?_
    rw [HDT.out]
    rintro e w1 ⟨rfl, hb⟩
    go_wp2_with fail
    go_ret
    exact ⟨ret_str HR.out.symm, hb⟩
end Go.Proofs.Ytgapjdkelkmdgaa.Commit
