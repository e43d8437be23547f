/- Contracts: the program's and the model's ReadJournal answer what the journal holds, in a row of their own. Conditions: the lengths. -/
import Derived.Test.YtgapjdkelkmdgaaReadF
import Derived.Test.YtgapjdkelkmdgaaReadImpl
import Derived.Test.YtgapjdkelkmdgaaIsTxnSpec
import Derived.Test.YtgapjdkelkmdgaaJournalSpec
import Derived.Lib.SlicesS
namespace Go.Proofs.Ytgapjdkelkmdgaa.ReadJ
open Go.ChangeShapes Go.WideShapes Go.ChangeAt Go.RowKit
open Wr (Wt d0 datas wcells wrInfo)
open Dk (D Holds Ok atS atW ret_bool blk_new blk_of blk_two RowIn Box)
open ReadS (readF readV Has)
open Strs (total own_below)
open Txn (num item items seqOf cntOf Busy seqV listV busyB Okay commitV)
open Journal (own_wide own_cong own_fresh2)
set_option linter.unusedVariables false

set_option maxRecDepth 100000 in
set_option maxHeartbeats 1600000 in
theorem stored_any (w : World) (vs vp : Value) (d : D) (N : Nat) (hN : N ≤ 64) (h1 : d.1.length ≤ 1073741824) (h2 : d.2.length ≤ 1073741824) (h : Holds w vs vp d) :
    Calls Try.prog 72 #[.agg #[vs, vp], .int .i64 N] w fun e w' => ∃ v, e = .returned v ∧ w'.ownsRow w.heap.size 39 2 v N (wcells (items d N)) ∧ Below w.heap.size w w' := by
  obtain ⟨j0, hj, hy0, hy1, hy2⟩ := info_parts wrInfo
  have HJ := Lib.hid hj
  have HY0 := Lib.hid hy0
  have HY1 := Lib.hid hy1
  have HY2 := Lib.hid hy2
  clear hj hy0 hy1 hy2
  have H := Lib.hid h
  obtain ⟨a, ca, rfl, _⟩ := atS h.1
  obtain ⟨b, cb, rfl, _⟩ := atW h.2
  clear h
  have hb0 := Joins.below_alloc1 w (.cells #[.slice a d.1.length ca, .slice b d.2.length cb] 26)
  have HB0 := Lib.hid hb0
  have BD := Lib.hid (show Box (w.alloc (.cells #[.slice a d.1.length ca, .slice b d.2.length cb] 26)) w.heap.size _ _ 26 from Dk.blk_new w _)
  have hs0 : w.heap.size < (w.alloc (.cells #[.slice a d.1.length ca, .slice b d.2.length cb] 26)).heap.size := by simp
  clear hb0
  go_enter Try.func72, Try.ntmps72
  go_wp2_with fail
  generalize w.alloc (.cells #[.slice a d.1.length ca, .slice b d.2.length cb] 26) = w0 at HB0 BD hs0 ⊢
  go_loopw [5, 11] (fun v iv wr => ∃ k : Nat, k ≤ N ∧ iv = .int .i64 k ∧ wr.ownsRow w0.heap.size 39 2 v k (wcells (items d k)) ∧ Below w0.heap.size w0 wr) (fun _ iv _ => N - (intOf iv).toNat)
  case atStart => exact ⟨0, Nat.zero_le _, rfl, World.ownsRow_nil _ _ _ _, Below.refl _ _⟩
  case round =>
    obtain ⟨k, hk, rfl, hown, hbel⟩ := hrel
    have HO := Lib.hid hown
    have HB := Lib.hid hbel
    have hsz := hbel.size
    obtain ⟨qa, qc, rfl⟩ := Dk.slice_of hown
    clear hown hbel
    have BX := Lib.hid (Dk.Box.below BD.out HB.out)
    obtain ⟨x0, x1⟩ := Dk.Box.cells BX.out
    by_cases hlt : k < N
    · have HIT := Lib.hid (Txn.items_succ d k)
      have HI1 := Lib.hid (show item d k = (((num (readF d ((2 + k / 16 : Nat) : Int)) (k % 16 * 2) 2 : Nat) : Int), readF d ((6 + k : Nat) : Int)) from rfl)
      have hz1 := Txn.readF_size d ((2 + k / 16 : Nat) : Int)
      have hz2 := Txn.readF_size d ((6 + k : Nat) : Int)
      go_wp2_with fail
      refine (ReadI.impl_any wr _ _ d _ h1 h2 (H.out.below (HB0.out.trans (HB.out.mono HB0.out.size)))).mono ?_
      rintro e w1 ⟨rfl, hb⟩
      have s1 := hb.size
      replace HB := Lib.hid (HB.out.trans (hb.mono hsz))
      replace HO := Lib.hid (own_below HO.out hb)
      clear hb x0 x1
      replace BX := Lib.hid (Dk.Box.below BD.out HB.out)
      obtain ⟨x0, x1⟩ := Dk.Box.cells BX.out
      rw [show (2 + (k : Int) / 16) = ((2 + k / 16 : Nat) : Int) from by omega]
      generalize readF d ((2 + k / 16 : Nat) : Int) = T at HI1 hz1 ⊢
      go_wp2_with fail
      rw [show ((k : Int) % 16 * 2) = ((k % 16 * 2 : Nat) : Int) from by omega]
      refine (GetNumber.impl_any T ((k % 16 * 2 : Nat) : Int) 2 _ (by omega) (by omega) (by omega)).mono ?_
      rintro e w2 ⟨rfl, rfl⟩
      rw [show GetNumber.gotV T ((k % 16 * 2 : Nat) : Int) 2 = _ from Txn.got_num T (k % 16 * 2) 2]
      generalize num T (k % 16 * 2) 2 = tg at HI1 ⊢
      generalize GetNumber.liesB T ((k % 16 * 2 : Nat) : Int) ((2 : Nat) : Int) = lb
      go_wp2_with fail
      rw [show (6 + (k : Int)) = ((6 + k : Nat) : Int) from by omega]
      refine (ReadI.impl_any w1 _ _ d _ h1 h2 (H.out.below (HB0.out.trans (HB.out.mono HB0.out.size)))).mono ?_
      rintro e w3 ⟨rfl, hb⟩
      have s3 := hb.size
      replace HB := Lib.hid (HB.out.trans (hb.mono (by omega)))
      replace HO := Lib.hid (own_below HO.out hb)
      clear hb x0 x1
      generalize readF d ((6 + k : Nat) : Int) = Y at HI1 hz2 ⊢
      go_wp2_with (first | (at_builtin; refine wpList_append_own _ rfl _ _ 24 rfl w0.heap.size 39 j0 (.agg #[.int .i64 0, .string ⟨#[]⟩]) 2 24 Try.underlying24 HJ.out HY0.out HY1.out HY2.out rfl (by decide) _ _ _ rfl (World.ownsRow.alloc HO.out _) ⟨w3.heap.size, 0, none⟩ 1 1 [.int .i64 (tg : Int), .string Y] rfl rfl (Dk.cell_two_new _ _ _ _) (by simp [Value.oneCell']) ?c1 ?c2 ?c3 ?_))
      case c1 => unfold maxLen; omega
      case c2 => omega
      case c3 => simp only [World.size_alloc]; omega
      intro v9 w9 hown9 hg9 _
      have HB9 := Lib.hid ((HB.out.alloc (by omega) _).grown hg9 (by simp only [World.size_alloc]; omega) (fun k hk => (HO.out.lt k hk).1))
      have HO9 := Lib.hid (own_cong (n' := k + 1) (xs' := wcells (items d (k + 1))) hown9 rfl (by rw [HIT.out, HI1.out, Txn.wcells_snoc]))
      clear hown9 hg9
      go_wp2_with fail
      go_roundw
      case rel => exact ⟨k + 1, by omega, by go_num, HO9.out, HB9.out⟩
      case measure => simp [intOf]; omega
    · have HO9 := Lib.hid (own_cong (n' := N) (xs' := wcells (items d N)) HO.out (by omega) (by rw [show k = N from by omega]))
      go_wp2_with fail
      go_ret
      exact ⟨_, rfl, own_wide HO9.out (Nat.le_of_lt hs0), HB0.out.trans (HB.out.mono HB0.out.size)⟩

theorem ret_three {a a' : Int} {v v' : Value} {b b' : Bool} (h1 : a = a') (h2 : v = v') (h3 : b = b') : Ending.returned (.tuple #[.int .i64 a, v, .bool b]) = .returned (.tuple #[.int .i64 a', v', .bool b']) := by rw [h1, h2, h3]
theorem nil_row {w : World} {lo : Nat} {d : D} (h : ¬ Busy d) : w.ownsRow lo 39 2 (.slice none 0 0) (listV d).length (wcells (listV d)) :=
  own_cong (World.ownsRow_nil _ _ _ _) (by rw [(Txn.busy_no h).2.2]; rfl) (by rw [(Txn.busy_no h).2.2]; rfl)

set_option maxRecDepth 100000 in
set_option maxHeartbeats 3200000 in
theorem impl_any (w : World) (vs vp : Value) (d : D) (h1 : d.1.length ≤ 1073741824) (h2 : d.2.length ≤ 1073741824) (h : Holds w vs vp d) :
    Calls Try.prog 23 #[.agg #[vs, vp]] w fun e w' => ∃ v, e = .returned (.tuple #[.int .i64 (seqV d), v, .bool (busyB d)]) ∧ w'.ownsRow w.heap.size 39 2 v (listV d).length (wcells (listV d)) ∧ Below w.heap.size w w' := by
  have H := Lib.hid h
  obtain ⟨a, ca, rfl, _⟩ := atS h.1
  obtain ⟨b, cb, rfl, _⟩ := atW h.2
  clear h
  have hb0 := Joins.below_alloc1 w (.cells #[.slice a d.1.length ca, .slice b d.2.length cb] 26)
  have HB0 := Lib.hid hb0
  have BD := Lib.hid (show Box (w.alloc (.cells #[.slice a d.1.length ca, .slice b d.2.length cb] 26)) w.heap.size _ _ 26 from Dk.blk_new w _)
  have hs0 : w.heap.size < (w.alloc (.cells #[.slice a d.1.length ca, .slice b d.2.length cb] 26)).heap.size := by simp
  clear hb0
  obtain ⟨V, hV⟩ : ∃ V, V = readF d 1 := ⟨_, rfl⟩
  obtain ⟨S, hS⟩ : ∃ S, S = seqOf d := ⟨_, rfl⟩
  obtain ⟨N, hN⟩ : ∃ N, N = cntOf d := ⟨_, rfl⟩
  have HS := Lib.hid (show num V 4 4 = S by rw [hV, hS]; rfl)
  have HN := Lib.hid (show num V 8 2 = N by rw [hV, hN]; rfl)
  have hSb : S ≤ 281474976710656 := by rw [← HS.out]; exact Nat.le_of_lt (Txn.num_lt V 4 4 (by decide))
  have hNb : N ≤ 281474976710656 := by rw [← HN.out]; exact Nat.le_of_lt (Txn.num_lt V 8 2 (by decide))
  have hVs : V.size ≤ 32 := by rw [hV]; exact Txn.readF_size d 1
  have HBU := Lib.hid (show Busy d ↔ (1 ≤ N ∧ N ≤ 64) ∧ V = commitV S (items d N) ∧ Okay d (items d N) by rw [hV, hS, hN]; exact Iff.rfl)
  have HSS := Lib.hid hS
  have HNN := Lib.hid hN
  have HVV := Lib.hid hV
  clear hV hS hN
  obtain ⟨x0, x1⟩ := Dk.Box.cells BD.out
  go_enter Try.func23, Try.ntmps23
  go_wp2_with fail
  generalize w.alloc (.cells #[.slice a d.1.length ca, .slice b d.2.length cb] 26) = w0 at HB0 BD hs0 x0 x1 ⊢
  refine (ReadI.impl_any w0 _ _ d 1 h1 h2 (H.out.below HB0.out)).mono ?_
  rintro e w1 ⟨rfl, hb⟩
  have s1 := hb.size
  replace BD := Lib.hid (Dk.Box.below BD.out hb)
  have HB := Lib.hid (HB0.out.trans (hb.mono HB0.out.size))
  clear hb x0 x1
  rw [← HVV.out]
  obtain ⟨x0, x1⟩ := Dk.Box.cells BD.out
  go_wp2_with fail
  refine (GetNumber.impl_any V 4 4 _ (by omega) (by decide) (by decide)).mono ?_
  rintro e w2 ⟨rfl, rfl⟩
  rw [show GetNumber.gotV V 4 4 = _ from Txn.got_num V 4 4, HS.out]
  generalize GetNumber.liesB V ((4 : Nat) : Int) ((4 : Nat) : Int) = lb
  go_wp2_with fail
  refine (GetNumber.impl_any V 8 2 _ (by omega) (by decide) (by decide)).mono ?_
  rintro e w2 ⟨rfl, rfl⟩
  rw [show GetNumber.gotV V 8 2 = _ from Txn.got_num V 8 2, HN.out]
  generalize GetNumber.liesB V ((8 : Nat) : Int) ((2 : Nat) : Int) = lb2
  by_cases hn : 1 ≤ N ∧ N ≤ 64
  · have HDN := Lib.hid (show decide (1 ≤ N ∧ N ≤ 64) = true from decide_eq_true hn)
    have hn64 := hn.2
    have hn0 := hn.1
    clear hn
    go_wp2_with fail
    refine (IsTxn.len_any N _ (by omega)).mono ?_
    rw [HDN.out]
    rintro e wq ⟨rfl, rfl⟩
    go_wp2_with fail
    refine (stored_any w1 _ _ d N hn64 h1 h2 (H.out.below HB.out)).mono ?_
    rintro e w3 ⟨v, rfl, hown, hb⟩
    have s3 := hb.size
    replace BD := Lib.hid (Dk.Box.below BD.out hb)
    replace HB := Lib.hid (HB.out.trans (hb.mono HB.out.size))
    have HO := Lib.hid (own_cong (n' := (items d N).length) hown (by rw [Txn.items_len]) rfl)
    obtain ⟨qa, qc, rfl⟩ := Dk.slice_of hown
    clear hb hown x0 x1
    obtain ⟨x0, x1⟩ := Dk.Box.cells BD.out
    have HIL := Lib.hid (Txn.items_len d N)
    have HIT := Lib.hid (Txn.total_items d N)
    obtain ⟨l, hl⟩ : ∃ l, l = items d N := ⟨_, rfl⟩
    rw [← hl] at HO HIL HIT HBU
    have HLL := Lib.hid hl
    clear hl
    go_wp2_with fail
    refine (Commit.impl_any w3 _ (S : Int) l (by rw [HIL.out]; omega) (by have := HIT.out; omega) (Wr.holds_of_own HO.out)).mono ?_
    rintro e w4 ⟨rfl, hb⟩
    have s4 := hb.size
    replace BD := Lib.hid (Dk.Box.below BD.out hb)
    replace HB := Lib.hid (HB.out.trans (hb.mono HB.out.size))
    replace HO := Lib.hid (own_below HO.out hb)
    clear hb x0 x1
    obtain ⟨x0, x1⟩ := Dk.Box.cells BD.out
    by_cases hc : V = commitV S l
    · have hbq : (V.toList == (commitV S l).toList) = true := by rw [← hc]; simp
      by_cases ho : Okay d l
      · have HDO := Lib.hid (show decide (Okay d l) = true from decide_eq_true ho)
        have HY := Lib.hid (Txn.busy_yes (HBU.out.2 ⟨⟨hn0, hn64⟩, hc, ho⟩))
        have HFR := Lib.hid hc
        clear ho hc
        generalize commitV S l = CV at hbq ⊢
        go_wp2_with fail
        refine (IsTxn.impl_any w4 _ _ _ d l h1 h2 (by rw [HIL.out]; omega) (H.out.below HB.out) (Wr.holds_of_own HO.out)).mono ?_
        rw [HDO.out]
        rintro e w5 ⟨rfl, hb⟩
        replace HB := Lib.hid (HB.out.trans (hb.mono HB.out.size))
        replace HO := Lib.hid (own_below HO.out hb)
        clear hb x0 x1 hbq
        go_wp2_with fail
        go_ret3
        exact ⟨_, ret_three (by rw [HY.out.2.1, HSS.out]) rfl HY.out.1.symm, own_cong (own_wide HO.out (by omega)) (by rw [HY.out.2.2, HLL.out, HNN.out]) (by rw [HY.out.2.2, HLL.out, HNN.out]), HB.out⟩
      · have HDO := Lib.hid (show decide (Okay d l) = false from decide_eq_false ho)
        have HNB := Lib.hid (show ¬ Busy d from fun h => ho (HBU.out.1 h).2.2)
        have HY := Lib.hid (Txn.busy_no HNB.out)
        clear ho hc
        generalize commitV S l = CV at hbq ⊢
        go_wp2_with fail
        refine (IsTxn.impl_any w4 _ _ _ d l h1 h2 (by rw [HIL.out]; omega) (H.out.below HB.out) (Wr.holds_of_own HO.out)).mono ?_
        rw [HDO.out]
        rintro e w5 ⟨rfl, hb⟩
        replace HB := Lib.hid (HB.out.trans (hb.mono HB.out.size))
        clear hb x0 x1 hbq
        go_wp2_with fail
        go_ret3
        exact ⟨_, ret_three HY.out.2.1.symm rfl HY.out.1.symm, nil_row HNB.out, HB.out⟩
    · have hbq : (V.toList == (commitV S l).toList) = false := (Lib.bytes_beq_false_iff _ _).2 hc
      have HNB := Lib.hid (show ¬ Busy d from fun h => hc (HBU.out.1 h).2.1)
      have HY := Lib.hid (Txn.busy_no HNB.out)
      clear hc
      generalize commitV S l = CV at hbq ⊢
      go_wp2_with fail
      go_ret3
      exact ⟨_, ret_three HY.out.2.1.symm rfl HY.out.1.symm, nil_row HNB.out, HB.out⟩
  · have HDN := Lib.hid (show decide (1 ≤ N ∧ N ≤ 64) = false from decide_eq_false hn)
    have HNB := Lib.hid (show ¬ Busy d from fun h => hn (HBU.out.1 h).1)
    have HY := Lib.hid (Txn.busy_no HNB.out)
    clear hn
    by_cases hbig : N ≤ 1073741824
    · go_wp2_with fail
      refine (IsTxn.len_any N _ hbig).mono ?_
      rw [HDN.out]
      rintro e wq ⟨rfl, rfl⟩
      go_wp2_with fail
      go_ret3
      exact ⟨_, ret_three HY.out.2.1.symm rfl HY.out.1.symm, nil_row HNB.out, HB.out⟩
    · exfalso
      have := HN.out
      have h3 := Txn.num_two V 8
      omega
end Go.Proofs.Ytgapjdkelkmdgaa.ReadJ
