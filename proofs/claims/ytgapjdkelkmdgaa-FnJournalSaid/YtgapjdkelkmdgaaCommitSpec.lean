/- Contract: the model's CommitSector answers the commit sector. Conditions: the lengths, and what the data take in all. -/
import Derived.Test.YtgapjdkelkmdgaaCommit
namespace Go.Proofs.Ytgapjdkelkmdgaa.Commit
open Go.ChangeShapes Go.WideShapes Go.ChangeAt Go.RowKit
open Wr (Wt d0 datas)
open Dk (AtW atW ret_bool blk_new blk_of blk_two RowIn Turned Box)
open Strs (total total_take_le)
open Txn (Tgt parts cat sumOf fields commitV)
set_option linter.unusedVariables false

theorem parts_take_all (l : List Wt) (i : Nat) : total (parts (l.take i)) ≤ total (parts l) := by
  have h : parts l = parts (l.take i) ++ parts (l.drop i) := by rw [← Txn.parts_append, List.take_append_drop]
  rw [h, Txn.total_append]
  omega

set_option maxRecDepth 100000 in
set_option maxHeartbeats 1600000 in
theorem spec_any (w : World) (lv : Value) (seq : Int) (l : List Wt) (h3 : l.length ≤ 1073741824) (hd : total (datas l) ≤ 1048576) (hl : Wr.Holds w lv l) :
    Calls Try.prog 34 #[.int .i64 seq, lv] w fun e w' => e = .returned (.string (commitV seq l)) ∧ Below w.heap.size w w' := by
  have HL := Lib.hid hl
  obtain ⟨c, cc, rfl, hc⟩ := atW hl
  have HC := Lib.hid hc
  clear hl hc
  by_cases q : 0 ≤ seq ∧ seq ≤ 1000000000
  · have HQ := Lib.hid (show decide (0 ≤ seq ∧ seq ≤ 1000000000) = true from decide_eq_true q)
    have q1 := q.1
    have q2 := q.2
    by_cases ht : Tgt l
    · have HDT := Lib.hid (show decide (Tgt l) = true from decide_eq_true ht)
      have HR := Lib.hid (show commitV seq l = PadTo.padB (cat (fields seq l)) 32 from if_pos ⟨q, ht⟩)
      have HSZ := Lib.hid (show (cat (fields seq l)).size ≤ 1048576 by rw [Txn.cat_size]; exact Nat.le_trans (Txn.fields_total seq l) (by decide))
      have HFC := Lib.hid (Txn.fields_cat seq l)
      have hn64 : l.length ≤ 64 := ht.1.2
      have HT := Lib.hid ht.2
      obtain ⟨Q, hQ⟩ : ∃ Q, Q = sumOf l := ⟨_, rfl⟩
      have hS4 : Q < 4294967296 := by rw [hQ]; exact Txn.sumOf_lt l
      rw [← hQ] at HFC
      have HQQ := Lib.hid hQ
      clear hQ
      have HTOT := Lib.hid (show total (parts l) ≤ 1049000 by have := Txn.total_parts l; omega)
      clear ht q
      obtain ⟨N, hN⟩ : ∃ N, N = l.length := ⟨_, rfl⟩
      rw [← hN] at hn64 h3 HL HFC ⊢
      have HN := Lib.hid hN
      clear hN hd
      go_enter Try.func34, Try.ntmps34
      go_wp2_with fail
      refine (IsDisk.in_any seq 0 1000000000 _).mono ?_
      rw [HQ.out]
      rintro e wq ⟨rfl, rfl⟩
      go_wp2_with fail
      refine (ok_any w _ l (by rw [← HN.out]; exact h3) HL.out).mono ?_
      rw [HDT.out]
      rintro e w1 ⟨rfl, hb⟩
      have HB1 := Lib.hid hb
      clear hb
      go_wp2_with fail
      go_loopw [5, 18] (fun sv iv wr => ∃ i : Nat, i ≤ N ∧ iv = .int .i64 i ∧ sv = .string (cat (parts (l.take i))) ∧ Below w.heap.size w wr) (fun _ iv _ => N - (intOf iv).toNat)
      case atStart => exact ⟨0, Nat.zero_le _, rfl, rfl, HB1.out⟩
      case round =>
        obtain ⟨i, hii, rfl, rfl, hbel⟩ := hrel
        have HBEL := Lib.hid hbel
        have hsz := hbel.size
        clear hbel HB1
        by_cases hlt : i < N
        · have hlx : i < l.length := by rw [← HN.out]; exact hlt
          obtain ⟨bw, ow, rfl, hbw, hc1, hc2⟩ := HC.out i hlx
          rw [← HBEL.out.cell (p := ⟨bw, _, none⟩) hbw] at hc1 hc2
          obtain ⟨hx0, hx4⟩ := HT.out i hlx
          have HP := Lib.hid (show cat (parts (l.take (i + 1))) = cat (parts (l.take i)) ++ Nums.putB (l.getD i d0).1 2 ++ (l.getD i d0).2 by rw [Txn.parts_take l i hlx, Txn.cat_snoc2])
          have hz1 : (cat (parts (l.take i))).size ≤ 1049000 := by rw [Txn.cat_size]; have := parts_take_all l i; have := HTOT.out; omega
          have hz2 : (cat (parts (l.take i))).size + (Nums.putB (l.getD i d0).1 2).size + (l.getD i d0).2.size ≤ 1049000 := by
            have e := congrArg ByteArray.size HP.out
            rw [ByteArray.size_append, ByteArray.size_append] at e
            rw [← e, Txn.cat_size]; have := parts_take_all l (i + 1); have := HTOT.out; omega
          have hz3 : (cat (parts (l.take i)) ++ Nums.putB (l.getD i d0).1 2).size ≤ 1049000 := by rw [ByteArray.size_append]; omega
          generalize cat (parts (l.take i)) = S1 at HP hz1 hz2 hz3 ⊢
          generalize l.getD i d0 = x at hc1 hc2 hx0 hx4 HP hz2 hz3
          have hz4 : x.2.size ≤ 1049000 := by omega
          have hz5 : (9223372036854775807 < S1.size + (Nums.putB x.1 2).size) = False := eq_false (by omega)
          have hz6 : (9223372036854775807 < S1.size + (Nums.putB x.1 2).size + x.2.size) = False := eq_false (by omega)
          have hz7 : (9223372036854775807 < (S1 ++ Nums.putB x.1 2).size + x.2.size) = False := eq_false (by omega)
          clear hz2 hz3
          have BX := Lib.hid (show Box (wr.alloc (.cells #[.int .i64 x.1, .string x.2] 39)) wr.heap.size (.int .i64 x.1) (.string x.2) 39 from blk_new wr (.cells #[.int .i64 x.1, .string x.2] 39))
          obtain ⟨z0, z1⟩ := Dk.Box.cells BX.out
          have HB := Lib.hid (HBEL.out.alloc hsz (.cells #[.int .i64 x.1, .string x.2] 39))
          go_wp2
          generalize wr.alloc (.cells #[.int .i64 x.1, .string x.2] 39) = wa at BX z0 z1 HB ⊢
          go_region_law (first | (go_simp; go_at_call 89; refine (PutNumber.spec_any x.1 2 _ (by omega) (by omega)).mono ?_; rintro e w2 ⟨rfl, hb⟩; have s2 := hb.size; simp only [World.size_drew] at s2; replace HB := Lib.hid (HB.out.drew.trans (hb.mono HB.out.drew.size)); replace BX := Lib.hid (Dk.Box.below (show Box wa.drew _ _ _ _ from BX.out) hb); clear hb; obtain ⟨y0, y1⟩ := Dk.Box.cells BX.out))
          all_goals
            clear z0 z1
            go_wp2
            go_roundw
            case rel => exact ⟨i + 1, by omega, by go_num, by rw [HP.out], HB.out⟩
            case measure => simp [intOf]; omega
        · have HE := Lib.hid (show Checksum.crc (cat (parts (l.take i))).data.toList = Q by rw [HQQ.out, show i = l.length from by rw [← HN.out]; omega, List.take_of_length_le (Nat.le_refl _)]; rfl)
          have HS := Lib.hid (show (cat (parts (l.take i))).size ≤ 2097152 by rw [Txn.cat_size]; have := parts_take_all l i; have := HTOT.out; omega)
          generalize cat (parts (l.take i)) = S1 at HE HS ⊢
          go_wp2_with fail
          refine (PutNumber.spec_any seq 4 _ (by omega) (by omega)).mono ?_
          rintro e w2 ⟨rfl, hb⟩
          have HB := Lib.hid (HBEL.out.trans (hb.mono HBEL.out.size))
          clear hb
          have hp1 := Txn.putB_size seq 4
          have hp2 := Txn.putB_size (N : Int) 2
          have hp3 := Txn.putB_size (Q : Int) 4
          generalize Nums.putB seq 4 = P1 at hp1 HFC ⊢
          go_wp2_with fail
          refine (PutNumber.spec_any (N : Int) 2 _ (by omega) (by omega)).mono ?_
          rintro e w3 ⟨rfl, hb⟩
          replace HB := Lib.hid (HB.out.trans (hb.mono HB.out.size))
          clear hb
          generalize Nums.putB (N : Int) 2 = P2 at hp2 HFC ⊢
          go_wp2_with fail
          refine (Checksum.spec_any S1 _ HS.out).mono ?_
          rintro e w4 ⟨rfl, rfl⟩
          rw [HE.out]
          go_wp2_with fail
          refine (PutNumber.spec_any (Q : Int) 4 _ (by omega) (by omega)).mono ?_
          rintro e w5 ⟨rfl, hb⟩
          replace HB := Lib.hid (HB.out.trans (hb.mono HB.out.size))
          clear hb
          generalize Nums.putB (Q : Int) 4 = P3 at hp3 HFC ⊢
          go_wp2_with fail
          rw [show ((⟨#[74, 82, 78, 76]⟩ : ByteArray) ++ P1 ++ P2 ++ P3) = cat (fields seq l) from HFC.out.symm]
          refine (PadTo.spec_any (cat (fields seq l)) 32 _ HSZ.out).mono ?_
          rintro e w7 ⟨rfl, hb⟩
          go_wp2_with fail
          go_ret
          exact ⟨ret_str HR.out.symm, HB.out.trans (hb.mono HB.out.size)⟩
    · have HDT := Lib.hid (show decide (Tgt l) = false from not_tgt ht)
      have HR := Lib.hid (show commitV seq l = ⟨#[]⟩ from if_neg (fun h => ht h.2))
      clear ht q
      go_enter Try.func34, Try.ntmps34
      go_wp2_with fail
      refine (IsDisk.in_any seq 0 1000000000 _).mono ?_
      rw [HQ.out]
      rintro e wq ⟨rfl, rfl⟩
      go_wp2_with fail
      refine (ok_any w _ l h3 HL.out).mono ?_
      rw [HDT.out]
      rintro e w1 ⟨rfl, hb⟩
      go_wp2_with fail
      go_ret
      exact ⟨ret_str HR.out.symm, hb⟩
  · have HQ := Lib.hid (show decide (0 ≤ seq ∧ seq ≤ 1000000000) = false from decide_eq_false q)
    have HR := Lib.hid (show commitV seq l = ⟨#[]⟩ from if_neg (fun h => q h.1))
    clear q
    go_enter Try.func34, Try.ntmps34
    go_wp2_with fail
    refine (IsDisk.in_any seq 0 1000000000 _).mono ?_
    rw [HQ.out]
    rintro e wq ⟨rfl, rfl⟩
    go_wp2_with fail
    go_ret
    exact ⟨ret_str HR.out.symm, Below.refl _ _⟩
end Go.Proofs.Ytgapjdkelkmdgaa.Commit
