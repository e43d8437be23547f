/- Contract: the model's JournalWrites answers the journal's writes, in a row of its own. Condition: the length. -/
import Derived.Test.YtgapjdkelkmdgaaJournal
import Derived.Test.YtgapjdkelkmdgaaCommitSpec
namespace Go.Proofs.Ytgapjdkelkmdgaa.Journal
open Go.ChangeShapes Go.WideShapes Go.ChangeAt Go.RowKit
open Wr (Wt d0 datas wcells wcells_length wrInfo)
open Dk (AtW atW AtS atS ret_bool blk_new blk_of blk_two RowIn Turned Box)
open Strs (total own_below)
open Txn (Tgt Full tgts payTo tgtTo jourV tgtW payW)
open IsTxn (all_snoc)
set_option linter.unusedVariables false

theorem own_fresh2 (w : World) (e : TypeId) (size : Nat) : (w.alloc (.cells #[] e)).ownsRow w.heap.size e size (.slice (some ⟨w.heap.size, 0, none⟩) 0 0) 0 [] :=
  Copy.empty_own (blk_new w (.cells #[] e)) (Nat.le_refl _)
theorem own_two' {w : World} {lo lo' : Nat} {e e' : TypeId} {size size' : Nat} {v v' : Value} {n n' : Nat} {xs xs' : List Value} (h : w.ownsRow lo e size v n xs) (h' : w.ownsRow lo' e' size' v' n' xs') (hne : e ≠ e') : v.ownBlock = none ∨ v.ownBlock ≠ v'.ownBlock := Dk.own_two h h' hne

set_option maxRecDepth 100000 in
set_option maxHeartbeats 3200000 in
theorem spec_any (w : World) (lv : Value) (l : List Wt) (h3 : l.length ≤ 1073741824) (hl : Wr.Holds w lv l) :
    Calls Try.prog 35 #[lv] w fun e w' => ∃ v, e = .returned v ∧ w'.ownsRow w.heap.size 39 2 v (jourV l).length (wcells (jourV l)) ∧ Below w.heap.size w w' := by
  obtain ⟨j0, hj, hy0, hy1, hy2⟩ := info_parts wrInfo
  have HJ := Lib.hid hj
  have HY0 := Lib.hid hy0
  have HY1 := Lib.hid hy1
  have HY2 := Lib.hid hy2
  clear hj hy0 hy1 hy2
  have HL := Lib.hid hl
  obtain ⟨c, cc, rfl, hc⟩ := atW hl
  have HC := Lib.hid hc
  clear hl hc
  have HNIL := Lib.hid (fun (w' : World) (h : jourV l = []) => (show w'.ownsRow w.heap.size 39 2 (.slice none 0 0) (jourV l).length (wcells (jourV l)) from own_cong (World.ownsRow_nil _ _ _ _) (by rw [h]; rfl) (by rw [h]; rfl)))
  have HA := Lib.hid (Joins.below_alloc1 w (.cells #[] 39))
  have HOE := Lib.hid (own_fresh2 w 39 2)
  have hse : w.heap.size < (w.alloc (.cells #[] 39)).heap.size := by simp
  by_cases ht : Tgt l
  · have HDT := Lib.hid (show decide (Tgt l) = true from decide_eq_true ht)
    have hn64 : l.length ≤ 64 := ht.1.2
    have HT := Lib.hid ht
    have HX := Lib.hid ht.2
    clear ht
    obtain ⟨N, hN⟩ : ∃ N, N = l.length := ⟨_, rfl⟩
    rw [← hN] at hn64 h3 HL ⊢
    have HN := Lib.hid hN
    clear hN
    go_enter Try.func35, Try.ntmps35
    go_wp2_with fail
    generalize w.alloc (.cells #[] 39) = w0 at HA HOE hse ⊢
    refine (Commit.ok_any w0 _ l (by rw [← HN.out]; exact h3) (Wr.holds_below (B := 0) HL.out HA.out)).mono ?_
    rw [HDT.out]
    rintro e w1 ⟨rfl, hb⟩
    have s1 := hb.size
    have HB1 := Lib.hid (HA.out.trans (hb.mono HA.out.size))
    have HO1 := Lib.hid (own_below HOE.out hb)
    clear hb
    go_wp2_with fail
    go_loopw [4, 17] (fun sv iv wr => ∃ i : Nat, i ≤ N ∧ iv = .int .i64 i ∧ sv = .string (tgts (l.take i)) ∧ (∀ k, k < i → (l.getD k d0).2.size = 32) ∧ Below w1.heap.size w1 wr) (fun _ iv _ => N - (intOf iv).toNat)
    case atStart => exact ⟨0, Nat.zero_le _, rfl, rfl, fun j hj => absurd hj (Nat.not_lt_zero _), Below.refl _ _⟩
    case round =>
      obtain ⟨i, hii, rfl, rfl, hfull, hbel⟩ := hrel
      have HBEL := Lib.hid (HB1.out.trans (hbel.mono HB1.out.size))
      have HBR := Lib.hid hbel
      have HFU := Lib.hid hfull
      have hsz := hbel.size
      clear hbel hfull
      by_cases hlt : i < N
      · have hlx : i < l.length := by rw [← HN.out]; exact hlt
        obtain ⟨bw, ow, rfl, hbw, hc1, hc2⟩ := HC.out i hlx
        rw [← HBEL.out.cell (p := ⟨bw, _, none⟩) hbw] at hc1 hc2
        obtain ⟨hx0, hx4⟩ := HX.out i hlx
        have HP := Lib.hid (Txn.tgts_take l i hlx)
        have hs1 : (tgts (l.take i)).size ≤ 400 := by have := Txn.tgts_size (l.take i); rw [List.length_take] at this; omega
        have hs2 := Txn.putB_size (l.getD i d0).1 2
        have HNO := Lib.hid (show ¬ (l.getD i d0).2.size = 32 → jourV l = [] from fun h => Txn.jour_no (fun hk => h (hk.2 i hlx)))
        have HFN := Lib.hid (show (l.getD i d0).2.size = 32 → ∀ k, k < i + 1 → (l.getD k d0).2.size = 32 from fun h => all_snoc HFU.out h)
        generalize l.getD i d0 = x at hc1 hc2 hx0 hx4 HP hs2 HNO HFN
        generalize tgts (l.take i) = S1 at HP hs1 ⊢
        have BX := Lib.hid (show Box (wr.alloc (.cells #[.int .i64 x.1, .string x.2] 39)) wr.heap.size (.int .i64 x.1) (.string x.2) 39 from blk_new wr (.cells #[.int .i64 x.1, .string x.2] 39))
        obtain ⟨z0, z1⟩ := Dk.Box.cells BX.out
        have HB := Lib.hid (HBR.out.alloc hsz (.cells #[.int .i64 x.1, .string x.2] 39))
        by_cases h32 : x.2.size = 32
        · have HK := Lib.hid (HFN.out h32)
          go_wp2_with fail
          generalize wr.alloc (.cells #[.int .i64 x.1, .string x.2] 39) = wa at BX z0 z1 HB ⊢
          refine (PutNumber.spec_any x.1 2 wa (by omega) (by omega)).mono ?_
          rintro e w2 ⟨rfl, hb⟩
          replace HB := Lib.hid (HB.out.trans (hb.mono HB.out.size))
          clear hb z0 z1
          generalize Nums.putB x.1 2 = P at hs2 HP ⊢
          go_wp2_with fail
          go_roundw
          case rel => exact ⟨i + 1, by omega, by go_num, by rw [HP.out], HK.out, HB.out⟩
          case measure => simp [intOf]; omega
        · have HF := Lib.hid (HNO.out h32)
          have hd3 : ((x.2.size : Int) != 32) = true := by simp; omega
          have hd4 : decide (x.2.size = 32) = false := decide_eq_false h32
          go_wp2_with fail
          go_ret
          exact ⟨_, rfl, HNIL.out _ HF.out, HB1.out.trans (HB.out.mono HB1.out.size)⟩
      · have HE := Lib.hid (show l.take i = l by rw [show i = l.length from by rw [← HN.out]; omega]; exact List.take_of_length_le (Nat.le_refl _))
        have HFL := Lib.hid (show Full l from fun k hk => HFU.out k (by rw [← HN.out] at hk; omega))
        have hni : i = N := by omega
        have HNI := Lib.hid hni
        have HYES := Lib.hid (Txn.jour_yes HT.out HFL.out)
        have hts : (tgts l).size ≤ 1048576 := by have := Txn.tgts_size l; rw [← HN.out] at this; omega
        have HTS := Lib.hid hts
        have HPS := Lib.hid (fun k => Txn.cut_get_le (tgts l) 32 (by decide) (by decide) k)
        rw [HE.out]
        have HCL := Lib.hid (show (CutAll.cutAll (tgts l) 32).length ≤ 400 by have := CutAll.cutAll_len (tgts l) 32; have := Txn.tgts_size l; rw [← HN.out] at this; omega)
        have HTA := Lib.hid (show tgtTo (CutAll.cutAll (tgts l) 32) (CutAll.cutAll (tgts l) 32).length = tgtW l from Txn.tgtTo_all l)
        have HPA := Lib.hid (show payTo l N = payW l by rw [HN.out]; exact Txn.payTo_all l)
        generalize tgts l = S1 at HTS HCL HPS HTA ⊢
        clear hts hni
        go_wp2_with fail
        refine (CutAll.spec_any S1 32 wr HTS.out).mono ?_
        rintro e w2 ⟨cv, rfl, hcown, hb⟩
        have s2 := hb.size
        have HB2 := Lib.hid (HBEL.out.trans (hb.mono (by omega)))
        have HO2 := Lib.hid (own_below (own_below HO1.out HBR.out) hb)
        have hcl := HCL.out
        generalize CutAll.cutAll S1 32 = ps at hcown hcl HPS HTA HCL
        obtain ⟨C, hC⟩ : ∃ C, C = ps.length := ⟨_, rfl⟩
        have hca := atS (Strs.holds_of_own hcown)
        rw [← hC] at hcl HTA hca hcown
        obtain ⟨ca, cp, rfl, _⟩ := hca
        have HCC := Lib.hid hC
        have HCO := Lib.hid hcown
        clear hcown hb hC HBR HFU HE
        go_wp2_with fail
        go_loopw [3, 34] (fun wv iv wx => ∃ k : Nat, k ≤ C ∧ iv = .int .i64 k ∧ wx.ownsRow w.heap.size 39 2 wv k (wcells (tgtTo ps k)) ∧ wx.ownsRow wr.heap.size 9 1 (.slice ca C cp) C (ps.map Value.string) ∧ Below w.heap.size w wx) (fun _ iv _ => C - (intOf iv).toNat)
        case atStart => exact ⟨0, Nat.zero_le _, rfl, HO2.out, HCO.out, HB2.out⟩
        case round =>
          obtain ⟨k, hkk, rfl, hown, hcown, hbel⟩ := hrel
          have HBX := Lib.hid hbel
          have HOW := Lib.hid hown
          replace HCO := Lib.hid hcown
          have hsx := hbel.size
          obtain ⟨qa, qc, rfl⟩ := Dk.slice_of hown
          clear hbel hown hcown
          by_cases hkl : k < C
          · obtain ⟨_, _, he, hat⟩ := atS (Strs.holds_of_own HCO.out)
            cases he
            obtain ⟨bs, os, rfl, hbs, hcs⟩ := hat k (by rw [← HCC.out]; exact hkl)
            have HTN := Lib.hid (Txn.tgtTo_succ ps k)
            have hzz := HPS.out k
            have hpz : (ps.getD k ⟨#[]⟩).size ≤ 1048576 := Nat.le_trans hzz HTS.out
            clear hzz hat
            generalize ps.getD k ⟨#[]⟩ = y at hcs HTN hpz
            go_wp2_with fail
            refine (PadTo.spec_any y 32 _ hpz).mono ?_
            rintro e w3 ⟨rfl, hb⟩
            have s3 := hb.size
            have HB3 := Lib.hid (HBX.out.trans (hb.mono hsx))
            have HO3 := Lib.hid (own_below HOW.out hb)
            have HC3 := Lib.hid (own_below HCO.out hb)
            clear hb
            generalize PadTo.padB y 32 = Y at HTN ⊢
            go_wp2_with (first | (at_builtin; refine wpList_append_own _ rfl _ _ 24 rfl w.heap.size 39 j0 (.agg #[.int .i64 0, .string ⟨#[]⟩]) 2 24 Try.underlying24 HJ.out HY0.out HY1.out HY2.out rfl (by decide) _ _ _ rfl (World.ownsRow.alloc HO3.out _) ⟨w3.heap.size, 0, none⟩ 1 1 [.int .i64 (2 + (k : Int)), .string Y] rfl rfl (Dk.cell_two_new _ _ _ _) (by simp [Value.oneCell']) ?c1 ?c2 ?c3 ?_))
            case c1 => unfold maxLen; omega
            case c2 => omega
            case c3 => simp only [World.size_alloc]; omega
            intro v9 w9 hown9 hg9 _
            have HB9 := Lib.hid ((HB3.out.alloc (by omega) _).grown hg9 (by simp only [World.size_alloc]; omega) (fun k hk => (HO3.out.lt k hk).1))
            have HC9 := Lib.hid (World.ownsRow.kept (World.ownsRow.alloc HC3.out _) hg9 (own_two' HC3.out HO3.out (by decide)))
            have HO9 := Lib.hid (own_cong (n' := k + 1) (xs' := wcells (tgtTo ps (k + 1))) hown9 rfl (by rw [HTN.out, Txn.wcells_snoc]; simp))
            clear hown9 hg9
            go_wp2_with fail
            go_roundw
            case rel => exact ⟨k + 1, by omega, by go_num, HO9.out, HC9.out, HB9.out⟩
            case measure => simp [intOf]; omega
          · have hkC : k = C := by omega
            have HKC := Lib.hid hkC
            clear hkC HCO
            have HT0 := Lib.hid (show wr.ownsRow w.heap.size 39 2 (.slice qa k qc) (C + 0) (wcells (tgtW l ++ payTo l 0)) from own_cong HOW.out (by rw [HKC.out]; rfl) (by rw [HKC.out, HTA.out]; simp [payTo]))
            go_wp2_with fail
            go_loopw [3, 50] (fun wv iv wx => ∃ j : Nat, j ≤ N ∧ iv = .int .i64 j ∧ wx.ownsRow w.heap.size 39 2 wv (C + j) (wcells (tgtW l ++ payTo l j)) ∧ Below w.heap.size w wx) (fun _ iv _ => N - (intOf iv).toNat)
            case atStart => exact ⟨0, Nat.zero_le _, rfl, HT0.out, HBX.out⟩
            case round =>
              obtain ⟨j, hjj, rfl, hown, hbel⟩ := hrel
              have HBY := Lib.hid hbel
              have HOY := Lib.hid hown
              have hsy := hbel.size
              obtain ⟨ra, rc, rfl⟩ := Dk.slice_of hown
              clear hbel hown HT0 HBX HOW
              by_cases hjl : j < N
              · obtain ⟨bw, ow, rfl, hbw, hc1, hc2⟩ := HC.out j (by rw [← HN.out]; exact hjl)
                rw [← HBY.out.cell (p := ⟨bw, _, none⟩) hbw] at hc1 hc2
                have HPN := Lib.hid (Txn.payTo_succ l j)
                generalize l.getD j d0 = x at hc1 hc2 HPN
                obtain ⟨z0, z1⟩ := Dk.Box.cells (show Box (wr.alloc (.cells #[.int .i64 x.1, .string x.2] 39)) wr.heap.size (.int .i64 x.1) (.string x.2) 39 from blk_new wr (.cells #[.int .i64 x.1, .string x.2] 39))
                have HBA := Lib.hid (HBY.out.alloc hsy (.cells #[.int .i64 x.1, .string x.2] 39))
                have HOA := Lib.hid (World.ownsRow.alloc HOY.out (.cells #[.int .i64 x.1, .string x.2] 39))
                have hsa : w.heap.size ≤ (wr.alloc (.cells #[.int .i64 x.1, .string x.2] 39)).heap.size := by simp; omega
                have hbk : (wr.alloc (.cells #[.int .i64 x.1, .string x.2] 39)).heap.size = wr.heap.size + 1 := by simp
                have HBK := Lib.hid hbk
                clear hbk
                go_wp2_with (first | (at_builtin; refine wpList_append_own _ rfl _ _ 24 rfl w.heap.size 39 j0 (.agg #[.int .i64 0, .string ⟨#[]⟩]) 2 24 Try.underlying24 HJ.out HY0.out HY1.out HY2.out rfl (by decide) _ _ _ rfl (World.ownsRow.alloc HOA.out _) ⟨wr.heap.size + 1, 0, none⟩ 1 1 [.int .i64 (6 + (j : Int)), .string x.2] rfl rfl (Dk.cell_two_at _ _ _ _ _ HBK.out.symm) (by simp [Value.oneCell']) ?c1 ?c2 ?c3 ?_))
                case c1 => unfold maxLen; omega
                case c2 => omega
                case c3 => simp only [World.size_alloc]; omega
                intro v9 w9 hown9 hg9 _
                have HB9 := Lib.hid ((HBA.out.alloc hsa _).grown hg9 (by simp only [World.size_alloc]; omega) (fun k hk => (HOA.out.lt k hk).1))
                have HO9 := Lib.hid (own_cong (n' := C + (j + 1)) (xs' := wcells (tgtW l ++ payTo l (j + 1))) hown9 (by omega) (by rw [HPN.out, ← List.append_assoc, Txn.wcells_snoc]; simp))
                clear hown9 hg9
                go_wp2_with fail
                go_roundw
                case rel => exact ⟨j + 1, by omega, by go_num, HO9.out, HB9.out⟩
                case measure => simp [intOf]; omega
              · have hjN : j = N := by omega
                have HO9 := Lib.hid (own_cong (n' := (jourV l).length) (xs' := wcells (jourV l)) HOY.out (by rw [HYES.out, List.length_append, ← HTA.out, Txn.tgtTo_len, Txn.payW_len, ← HN.out, hjN]) (by rw [HYES.out, hjN, HPA.out]))
                clear hjN
                go_wp2_with fail
                go_ret
                exact ⟨_, rfl, HO9.out, HBY.out⟩
  · have HDT := Lib.hid (show decide (Tgt l) = false from Commit.not_tgt ht)
    have HF := Lib.hid (Txn.jour_no (fun h => ht h.1))
    clear ht
    go_enter Try.func35, Try.ntmps35
    go_wp2_with fail
    refine (Commit.ok_any _ _ l h3 (Wr.holds_below (B := 0) HL.out HA.out)).mono ?_
    rw [HDT.out]
    rintro e w1 ⟨rfl, hb⟩
    go_wp2_with fail
    go_ret
    exact ⟨_, rfl, HNIL.out _ HF.out, HA.out.trans (hb.mono HA.out.size)⟩

/-- The program's answer, as the law wants it. -/
theorem impl_row (w : World) (lv : Value) (l : List Wt) (h3 : l.length ≤ 1073741824) (hl : Wr.Holds w lv l) :
    Calls Try.prog 24 #[lv] w fun e w' => ∃ v, e = .returned v ∧ w'.ownsRow w.heap.size 39 2 v (jourV l).length (wcells (jourV l)) ∧ Below w.heap.size w w' :=
  (impl_any w lv l h3 hl).mono fun e w' ⟨v, h1, h2, _, h4⟩ => ⟨v, h1, h2, h4⟩
end Go.Proofs.Ytgapjdkelkmdgaa.Journal
