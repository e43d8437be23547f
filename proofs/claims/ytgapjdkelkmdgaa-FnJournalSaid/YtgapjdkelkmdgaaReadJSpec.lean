/- Contract: the model's ReadJournal answers what the journal holds, in a row of its own. Conditions: the lengths. -/
import Derived.Test.YtgapjdkelkmdgaaReadJ
namespace Go.Proofs.Ytgapjdkelkmdgaa.ReadJ
open Go.ChangeShapes Go.WideShapes Go.ChangeAt Go.RowKit
open Wr (Wt d0 datas wcells wrInfo)
open Dk (D Holds Ok atS atW ret_bool blk_new blk_of blk_two RowIn Box)
open ReadS (readF readV Has)
open Strs (total own_below)
open Txn (num item items seqOf cntOf Busy seqV listV busyB Okay commitV)
open Journal (own_wide own_cong own_fresh2)
set_option linter.unusedVariables false

/-- A sector of the journal is one of the disk's. -/
theorem has_of {d : D} {i : Int} (hL : 70 ≤ d.1.length) (h0 : 0 ≤ i) (h1 : i < 70) : Has d i := ⟨h0, by omega⟩
theorem read_of {d : D} {i : Int} (hok : Ok d) (hL : 70 ≤ d.1.length) (h0 : 0 ≤ i) (h1 : i < 70) : readV d i = readF d i := (Txn.readF_yes hok (has_of hL h0 h1)).symm

set_option maxRecDepth 100000 in
set_option maxHeartbeats 3200000 in
theorem spec_any (w : World) (vs vp : Value) (d : D) (h1 : d.1.length ≤ 1073741824) (h2 : d.2.length ≤ 1073741824) (h : Holds w vs vp d) :
    Calls Try.prog 38 #[.agg #[vs, vp]] w fun e w' => ∃ v, e = .returned (.tuple #[.int .i64 (seqV d), v, .bool (busyB d)]) ∧ w'.ownsRow w.heap.size 39 2 v (listV d).length (wcells (listV d)) ∧ Below w.heap.size w w' := by
  obtain ⟨j0, hj, hy0, hy1, hy2⟩ := info_parts wrInfo
  have HJ := Lib.hid hj
  have HY0 := Lib.hid hy0
  have HY1 := Lib.hid hy1
  have HY2 := Lib.hid hy2
  clear hj hy0 hy1 hy2
  have H := Lib.hid h
  obtain ⟨a, ca, rfl, _⟩ := atS h.1
  obtain ⟨b, cb, rfl, _⟩ := atW h.2
  clear h
  obtain ⟨L, hL⟩ : ∃ L, L = d.1.length := ⟨_, rfl⟩
  have hLb : L ≤ 1073741824 := by omega
  rw [← hL] at H ⊢
  have HL := Lib.hid hL
  clear hL
  have hb0 := Joins.below_alloc1 w (.cells #[.slice a L ca, .slice b d.2.length cb] 26)
  have HB0 := Lib.hid hb0
  have BD := Lib.hid (show Box (w.alloc (.cells #[.slice a L ca, .slice b d.2.length cb] 26)) w.heap.size _ _ 26 from Dk.blk_new w _)
  have hs0 : w.heap.size < (w.alloc (.cells #[.slice a L ca, .slice b d.2.length cb] 26)).heap.size := by simp
  clear hb0
  by_cases hok : Ok d
  · have HD := Lib.hid (show decide (Ok d) = true from decide_eq_true hok)
    by_cases h70 : 70 ≤ L
    · have h70' : 70 ≤ d.1.length := by rw [← HL.out]; exact h70
      have HRD := Lib.hid (fun (i : Int) (q0 : 0 ≤ i) (q1 : i < 70) => read_of hok h70' q0 q1)
      have HHA := Lib.hid (fun (i : Int) (q0 : 0 ≤ i) (q1 : i < 70) => has_of (d := d) h70' q0 q1)
      obtain ⟨V, hV⟩ : ∃ V, V = readF d 1 := ⟨_, rfl⟩
      obtain ⟨S, hS⟩ : ∃ S, S = seqOf d := ⟨_, rfl⟩
      obtain ⟨N, hN⟩ : ∃ N, N = cntOf d := ⟨_, rfl⟩
      have HS := Lib.hid (show num V 4 4 = S by rw [hV, hS]; rfl)
      have HN := Lib.hid (show num V 8 2 = N by rw [hV, hN]; rfl)
      have hSb : S ≤ 281474976710656 := by rw [← HS.out]; exact Nat.le_of_lt (Txn.num_lt V 4 4 (by decide))
      have hNb : N < 65536 := by rw [← HN.out]; exact Txn.num_two V 8
      have hVs : V.size ≤ 32 := by rw [hV]; exact Txn.readF_size d 1
      have HBU := Lib.hid (show Busy d ↔ (1 ≤ N ∧ N ≤ 64) ∧ V = commitV S (items d N) ∧ Okay d (items d N) by rw [hV, hS, hN]; exact Iff.rfl)
      have HSS := Lib.hid hS
      have HNN := Lib.hid hN
      have HVV := Lib.hid hV
      clear hV hS hN hok h70'
      obtain ⟨x0, x1⟩ := Dk.Box.cells BD.out
      go_enter Try.func38, Try.ntmps38
      go_wp2_with fail
      generalize w.alloc (.cells #[.slice a L ca, .slice b d.2.length cb] 26) = w0 at HB0 BD hs0 x0 x1 ⊢
      refine (IsDisk.spec_any w0 _ _ d h1 h2 (H.out.below HB0.out)).mono ?_
      rw [HD.out]
      rintro e w1 ⟨rfl, hb⟩
      have s1 := hb.size
      replace BD := Lib.hid (Dk.Box.below BD.out hb)
      have HB := Lib.hid (HB0.out.trans (hb.mono HB0.out.size))
      clear hb x0 x1
      obtain ⟨x0, x1⟩ := Dk.Box.cells BD.out
      go_wp2_with fail
      refine (ReadS.read_any w1 _ _ d 1 h1 h2 (HHA.out 1 (by decide) (by decide)) (H.out.below HB.out)).mono ?_
      rintro e w2 ⟨rfl, hb⟩
      have s2 := hb.size
      replace BD := Lib.hid (Dk.Box.below BD.out hb)
      replace HB := Lib.hid (HB.out.trans (hb.mono HB.out.size))
      clear hb x0 x1
      rw [HRD.out 1 (by decide) (by decide), ← HVV.out]
      obtain ⟨x0, x1⟩ := Dk.Box.cells BD.out
      go_wp2_with fail
      refine (GetNumber.spec_any V 4 4 _ (by omega) (by decide) (by decide)).mono ?_
      rintro e wq ⟨rfl, rfl⟩
      rw [show GetNumber.gotV V 4 4 = _ from Txn.got_num V 4 4, HS.out]
      generalize GetNumber.liesB V ((4 : Nat) : Int) ((4 : Nat) : Int) = lb
      go_wp2_with fail
      refine (GetNumber.spec_any V 8 2 _ (by omega) (by decide) (by decide)).mono ?_
      rintro e wq ⟨rfl, rfl⟩
      rw [show GetNumber.gotV V 8 2 = _ from Txn.got_num V 8 2, HN.out]
      generalize GetNumber.liesB V ((8 : Nat) : Int) ((2 : Nat) : Int) = lb2
      by_cases hn : 1 ≤ N ∧ N ≤ 64
      · have HDN := Lib.hid (show decide ((1 : Int) ≤ (N : Int) ∧ (N : Int) ≤ 64) = true from decide_eq_true (by omega))
        have hn64 := hn.2
        have hn0 := hn.1
        clear hn
        go_wp2_with fail
        refine (IsDisk.in_any (N : Int) 1 64 _).mono ?_
        rw [HDN.out]
        rintro e wq ⟨rfl, rfl⟩
        have HOE := Lib.hid (own_fresh2 w2 39 2)
        have HBE := Lib.hid (HB.out.trans ((Joins.below_alloc1 w2 (.cells #[] 39)).mono HB.out.size))
        have HBQ := Lib.hid (Joins.below_alloc1 w2 (.cells #[] 39))
        have BDE := Lib.hid (Dk.Box.below BD.out (Joins.below_alloc1 w2 (.cells #[] 39)))
        clear x0 x1
        obtain ⟨x0, x1⟩ := Dk.Box.cells BDE.out
        have hs3 : w2.heap.size < (w2.alloc (.cells #[] 39)).heap.size := by simp
        go_wp2_with fail
        generalize w2.alloc (.cells #[] 39) = w3 at HOE HBE BDE HBQ x0 x1 hs3 ⊢
        go_loopw [10, 11] (fun v iv wr => ∃ k : Nat, k ≤ N ∧ iv = .int .i64 k ∧ wr.ownsRow w2.heap.size 39 2 v k (wcells (items d k)) ∧ Below w2.heap.size w2 wr) (fun _ iv _ => N - (intOf iv).toNat)
        case atStart => exact ⟨0, Nat.zero_le _, rfl, HOE.out, HBQ.out⟩
        case round =>
          obtain ⟨k, hk, rfl, hown, hbel⟩ := hrel
          have HO := Lib.hid hown
          have HR := Lib.hid hbel
          have hsz := hbel.size
          obtain ⟨qa, qc, rfl⟩ := Dk.slice_of hown
          clear hown hbel x0 x1
          have HBW := Lib.hid (HB.out.trans (HR.out.mono HB.out.size))
          have BX := Lib.hid (Dk.Box.below BD.out HR.out)
          obtain ⟨x0, x1⟩ := Dk.Box.cells BX.out
          by_cases hlt : k < N
          · have HIT := Lib.hid (Txn.items_succ d k)
            have HI1 := Lib.hid (show item d k = (((num (readF d ((2 + k / 16 : Nat) : Int)) (k % 16 * 2) 2 : Nat) : Int), readF d ((6 + k : Nat) : Int)) from rfl)
            have hz1 := Txn.readF_size d ((2 + k / 16 : Nat) : Int)
            have hz2 := Txn.readF_size d ((6 + k : Nat) : Int)
            have HR1 := Lib.hid (HRD.out ((2 + k / 16 : Nat) : Int) (by omega) (by omega))
            have HR2 := Lib.hid (HRD.out ((6 + k : Nat) : Int) (by omega) (by omega))
            have HH1 := Lib.hid (HHA.out ((2 + k / 16 : Nat) : Int) (by omega) (by omega))
            have HH2 := Lib.hid (HHA.out ((6 + k : Nat) : Int) (by omega) (by omega))
            go_wp2_with fail
            rw [show (2 + (k : Int) / 16) = ((2 + k / 16 : Nat) : Int) from by omega]
            refine (ReadS.read_any wr _ _ d _ h1 h2 HH1.out (H.out.below HBW.out)).mono ?_
            rintro e w4 ⟨rfl, hb⟩
            have s4 := hb.size
            rw [HR1.out]
            replace HR := Lib.hid (HR.out.trans (hb.mono hsz))
            replace HBW := Lib.hid (HBW.out.trans (hb.mono HBW.out.size))
            replace HO := Lib.hid (own_below HO.out hb)
            clear hb x0 x1
            replace BX := Lib.hid (Dk.Box.below BD.out HR.out)
            obtain ⟨x0, x1⟩ := Dk.Box.cells BX.out
            generalize readF d ((2 + k / 16 : Nat) : Int) = T at HI1 hz1 ⊢
            go_wp2_with fail
            rw [show (2 * ((k : Int) % 16)) = ((k % 16 * 2 : Nat) : Int) from by omega]
            refine (GetNumber.spec_any T ((k % 16 * 2 : Nat) : Int) 2 _ (by omega) (by omega) (by omega)).mono ?_
            rintro e wq ⟨rfl, rfl⟩
            rw [show GetNumber.gotV T ((k % 16 * 2 : Nat) : Int) 2 = _ from Txn.got_num T (k % 16 * 2) 2]
            generalize num T (k % 16 * 2) 2 = tg at HI1 ⊢
            generalize GetNumber.liesB T ((k % 16 * 2 : Nat) : Int) ((2 : Nat) : Int) = lb3
            go_wp2_with fail
            rw [show (6 + (k : Int)) = ((6 + k : Nat) : Int) from by omega]
            refine (ReadS.read_any w4 _ _ d _ h1 h2 HH2.out (H.out.below HBW.out)).mono ?_
            rintro e w5 ⟨rfl, hb⟩
            have s5 := hb.size
            rw [HR2.out]
            replace HR := Lib.hid (HR.out.trans (hb.mono (by omega)))
            replace HO := Lib.hid (own_below HO.out hb)
            clear hb x0 x1
            generalize readF d ((6 + k : Nat) : Int) = Y at HI1 hz2 ⊢
            go_wp2_with (first | (at_builtin; refine wpList_append_own _ rfl _ _ 24 rfl w2.heap.size 39 j0 (.agg #[.int .i64 0, .string ⟨#[]⟩]) 2 24 Try.underlying24 HJ.out HY0.out HY1.out HY2.out rfl (by decide) _ _ _ rfl (World.ownsRow.alloc HO.out _) ⟨w5.heap.size, 0, none⟩ 1 1 [.int .i64 (tg : Int), .string Y] rfl rfl (Dk.cell_two_new _ _ _ _) (by simp [Value.oneCell']) ?c1 ?c2 ?c3 ?_))
            case c1 => unfold maxLen; omega
            case c2 => omega
            case c3 => simp only [World.size_alloc]; omega
            intro v9 w9 hown9 hg9 _
            have HB9 := Lib.hid ((HR.out.alloc (by omega) _).grown hg9 (by simp only [World.size_alloc]; omega) (fun k hk => (HO.out.lt k hk).1))
            have HO9 := Lib.hid (own_cong (n' := k + 1) (xs' := wcells (items d (k + 1))) hown9 rfl (by rw [HIT.out, HI1.out, Txn.wcells_snoc]))
            clear hown9 hg9
            go_wp2_with fail
            go_roundw
            case rel => exact ⟨k + 1, by omega, by go_num, HO9.out, HB9.out⟩
            case measure => simp [intOf]; omega
          · have HIL := Lib.hid (Txn.items_len d N)
            have HIT := Lib.hid (Txn.total_items d N)
            obtain ⟨l, hl⟩ : ∃ l, l = items d N := ⟨_, rfl⟩
            replace HO := Lib.hid (own_cong (n' := l.length) (xs' := wcells l) HO.out (by rw [hl, Txn.items_len]; omega) (by rw [hl, show k = N from by omega]))
            rw [← hl] at HIL HIT HBU
            have HLL := Lib.hid hl
            have hkN : k = N := by omega
            have hk64 : k ≤ 64 := by omega
            clear hl hkN
            by_cases ho : Okay d l
            · have HDO := Lib.hid (show decide (Okay d l) = true from decide_eq_true ho)
              have HOY := Lib.hid ho
              clear ho
              go_wp2_with fail
              refine (IsTxn.spec_any wr _ _ _ d l h1 h2 (by rw [HIL.out]; omega) (H.out.below HBW.out) (Wr.holds_of_own HO.out)).mono ?_
              rw [HDO.out]
              rintro e w5 ⟨rfl, hb⟩
              have s5 := hb.size
              replace HBW := Lib.hid (HBW.out.trans (hb.mono HBW.out.size))
              replace HO := Lib.hid (own_below HO.out hb)
              clear hb x0 x1
              go_wp2_with fail
              refine (Commit.spec_any w5 _ (S : Int) l (by rw [HIL.out]; omega) (by have := HIT.out; omega) (Wr.holds_of_own HO.out)).mono ?_
              rintro e w6 ⟨rfl, hb⟩
              replace HBW := Lib.hid (HBW.out.trans (hb.mono HBW.out.size))
              replace HO := Lib.hid (own_below HO.out hb)
              clear hb
              by_cases hc : V = commitV S l
              · have hbq : ((commitV S l).toList == V.toList) = true := by rw [← hc]; simp
                have HY := Lib.hid (Txn.busy_yes (HBU.out.2 ⟨⟨hn0, hn64⟩, hc, HOY.out⟩))
                clear hc
                generalize commitV S l = CV at hbq ⊢
                go_wp2_with fail
                go_ret3
                exact ⟨_, ret_three (by rw [HY.out.2.1, HSS.out]) rfl HY.out.1.symm, own_cong (own_wide HO.out (by omega)) (by rw [HY.out.2.2, HLL.out, HNN.out]) (by rw [HY.out.2.2, HLL.out, HNN.out]), HBW.out⟩
              · have hbq : ((commitV S l).toList == V.toList) = false := (Lib.bytes_beq_false_iff _ _).2 (fun h => hc h.symm)
                have HNB := Lib.hid (show ¬ Busy d from fun h => hc (HBU.out.1 h).2.1)
                have HY := Lib.hid (Txn.busy_no HNB.out)
                clear hc
                generalize commitV S l = CV at hbq ⊢
                go_wp2_with fail
                go_ret3
                exact ⟨_, ret_three HY.out.2.1.symm rfl HY.out.1.symm, nil_row HNB.out, HBW.out⟩
            · have HDO := Lib.hid (show decide (Okay d l) = false from decide_eq_false ho)
              have HNB := Lib.hid (show ¬ Busy d from fun h => ho (HBU.out.1 h).2.2)
              have HY := Lib.hid (Txn.busy_no HNB.out)
              clear ho
              go_wp2_with fail
              refine (IsTxn.spec_any wr _ _ _ d l h1 h2 (by rw [HIL.out]; omega) (H.out.below HBW.out) (Wr.holds_of_own HO.out)).mono ?_
              rw [HDO.out]
              rintro e w5 ⟨rfl, hb⟩
              replace HBW := Lib.hid (HBW.out.trans (hb.mono HBW.out.size))
              clear hb x0 x1
              go_wp2_with fail
              go_ret3
              exact ⟨_, ret_three HY.out.2.1.symm rfl HY.out.1.symm, nil_row HNB.out, HBW.out⟩
      · have HDN := Lib.hid (show decide ((1 : Int) ≤ (N : Int) ∧ (N : Int) ≤ 64) = false from decide_eq_false (by omega))
        have HNB := Lib.hid (show ¬ Busy d from fun h => hn (HBU.out.1 h).1)
        have HY := Lib.hid (Txn.busy_no HNB.out)
        clear hn
        go_wp2_with fail
        refine (IsDisk.in_any (N : Int) 1 64 _).mono ?_
        rw [HDN.out]
        rintro e wq ⟨rfl, rfl⟩
        go_wp2_with fail
        go_ret3
        exact ⟨_, ret_three HY.out.2.1.symm rfl HY.out.1.symm, nil_row HNB.out, HB.out⟩
    · have HNB := Lib.hid (show ¬ Busy d from Txn.not_busy_short (by rw [← HL.out]; omega))
      have HY := Lib.hid (Txn.busy_no HNB.out)
      obtain ⟨x0, x1⟩ := Dk.Box.cells BD.out
      clear hok
      go_enter Try.func38, Try.ntmps38
      go_wp2_with fail
      refine (IsDisk.spec_any _ _ _ d h1 h2 (H.out.below HB0.out)).mono ?_
      rw [HD.out]
      rintro e w1 ⟨rfl, hb⟩
      replace BD := Lib.hid (Dk.Box.below BD.out hb)
      have HB := Lib.hid (HB0.out.trans (hb.mono HB0.out.size))
      clear hb x0 x1
      obtain ⟨x0, x1⟩ := Dk.Box.cells BD.out
      go_wp2_with fail
      go_ret3
      exact ⟨_, ret_three HY.out.2.1.symm rfl HY.out.1.symm, nil_row HNB.out, HB.out⟩
  · have HD := Lib.hid (show decide (Ok d) = false from Dk.not_ok hok)
    have HNB := Lib.hid (show ¬ Busy d from Txn.not_busy_bad hok)
    have HY := Lib.hid (Txn.busy_no HNB.out)
    obtain ⟨x0, x1⟩ := Dk.Box.cells BD.out
    clear hok
    go_enter Try.func38, Try.ntmps38
    go_wp2_with fail
    refine (IsDisk.spec_any _ _ _ d h1 h2 (H.out.below HB0.out)).mono ?_
    rw [HD.out]
    rintro e w1 ⟨rfl, hb⟩
    have HB := Lib.hid (HB0.out.trans (hb.mono HB0.out.size))
    clear hb x0 x1
    go_wp2_with fail
    go_ret3
    exact ⟨_, ret_three HY.out.2.1.symm rfl HY.out.1.symm, nil_row HNB.out, HB.out⟩
end Go.Proofs.Ytgapjdkelkmdgaa.ReadJ
