/- Contract: the program's JournalWrites answers the journal's writes, in a row of its own. Condition: the length. -/
import Derived.Test.YtgapjdkelkmdgaaJournalF
import Derived.Test.YtgapjdkelkmdgaaCommit
import Derived.Test.YtgapjdkelkmdgaaApp
namespace Go.Proofs.Ytgapjdkelkmdgaa.Journal
open Go.ChangeShapes Go.WideShapes Go.ChangeAt Go.RowKit
open Wr (Wt d0 datas wcells wcells_length wrInfo)
open Dk (AtW atW AtS atS ret_bool blk_new blk_of blk_two RowIn Turned Box)
open Strs (total own_below)
open Txn (Tgt Full tgts payTo tgtTo jourV tgtW payW)
open IsTxn (all_snoc)
set_option linter.unusedVariables false

theorem own_wide {w : World} {lo lo' : Nat} {e : TypeId} {size : Nat} {v : Value} {n : Nat} {xs : List Value} (h : w.ownsRow lo e size v n xs) (hl : lo' ≤ lo) : w.ownsRow lo' e size v n xs :=
  ((RowIn.fresh h).wide hl (Nat.le_refl _)).1
theorem own_cong {w : World} {lo : Nat} {e : TypeId} {size : Nat} {v : Value} {n n' : Nat} {xs xs' : List Value} (h : w.ownsRow lo e size v n xs) (hn : n = n') (hx : xs = xs') : w.ownsRow lo e size v n' xs' := by subst hn; subst hx; exact h

set_option maxRecDepth 100000 in
set_option maxHeartbeats 3200000 in
theorem impl_any (w : World) (lv : Value) (l : List Wt) (h3 : l.length ≤ 1073741824) (hl : Wr.Holds w lv l) :
    Calls Try.prog 24 #[lv] w fun e w' => ∃ v, e = .returned v ∧ w'.ownsRow w.heap.size 39 2 v (jourV l).length (wcells (jourV l)) ∧ (jourV l = [] → v = .slice none 0 0) ∧ Below w.heap.size w w' := by
  obtain ⟨j0, hj, hy0, hy1, hy2⟩ := info_parts wrInfo
  have HJ := Lib.hid hj
  have HY0 := Lib.hid hy0
  have HY1 := Lib.hid hy1
  have HY2 := Lib.hid hy2
  clear hj hy0 hy1 hy2
  have HL := Lib.hid hl
  obtain ⟨c, cc, rfl, hc⟩ := atW hl
  have HC := Lib.hid hc
  clear hl hc
  have HNIL := Lib.hid (fun (w' : World) (h : jourV l = []) => (show w'.ownsRow w.heap.size 39 2 (.slice none 0 0) (jourV l).length (wcells (jourV l)) from own_cong (World.ownsRow_nil _ _ _ _) (by rw [h]; rfl) (by rw [h]; rfl)))
  by_cases ht : Tgt l
  · have HDT := Lib.hid (show decide (Tgt l) = true from decide_eq_true ht)
    have hn64 : l.length ≤ 64 := ht.1.2
    have HT := Lib.hid ht
    have HX := Lib.hid ht.2
    clear ht
    obtain ⟨N, hN⟩ : ∃ N, N = l.length := ⟨_, rfl⟩
    rw [← hN] at hn64 h3 HL ⊢
    have HN := Lib.hid hN
    clear hN
    go_enter Try.func24, Try.ntmps24
    go_wp2_with fail
    refine (Commit.has_any w _ l (by rw [← HN.out]; exact h3) HL.out).mono ?_
    rw [HDT.out]
    rintro e w1 ⟨rfl, hb⟩
    have HB1 := Lib.hid hb
    clear hb
    go_wp2_with fail
    go_loopw [3, 4, 15] (fun sv pv iv wr => ∃ i : Nat, i ≤ N ∧ iv = .int .i64 i ∧ sv = .string (tgts (l.take i)) ∧ wr.ownsRow w.heap.size 39 2 pv i (wcells (payTo l i)) ∧ (∀ k, k < i → (l.getD k d0).2.size = 32) ∧ Below w.heap.size w wr) (fun _ _ iv _ => N - (intOf iv).toNat)
    case atStart => exact ⟨0, Nat.zero_le _, rfl, rfl, World.ownsRow_nil _ _ _ _, fun j hj => absurd hj (Nat.not_lt_zero _), HB1.out⟩
    case round =>
      obtain ⟨i, hii, rfl, rfl, hown, hfull, hbel⟩ := hrel
      have HBEL := Lib.hid hbel
      have HO := Lib.hid hown
      have HFU := Lib.hid hfull
      have hsz := hbel.size
      obtain ⟨pa, pc, rfl⟩ := Dk.slice_of hown
      clear hbel HB1 hown hfull
      by_cases hlt : i < N
      · have hlx : i < l.length := by rw [← HN.out]; exact hlt
        obtain ⟨bw, ow, rfl, hbw, hc1, hc2⟩ := HC.out i hlx
        rw [← HBEL.out.cell (p := ⟨bw, _, none⟩) hbw] at hc1 hc2
        obtain ⟨hx0, hx4⟩ := HX.out i hlx
        have HP := Lib.hid (Txn.tgts_take l i hlx)
        have HPP := Lib.hid (Txn.payTo_succ l i)
        have hs1 : (tgts (l.take i)).size ≤ 400 := by have := Txn.tgts_size (l.take i); rw [List.length_take] at this; omega
        have hs2 := Txn.putB_size (l.getD i d0).1 2
        have HNO := Lib.hid (show ¬ (l.getD i d0).2.size = 32 → jourV l = [] from fun h => Txn.jour_no (fun hk => h (hk.2 i hlx)))
        have HFN := Lib.hid (show (l.getD i d0).2.size = 32 → ∀ k, k < i + 1 → (l.getD k d0).2.size = 32 from fun h => all_snoc HFU.out h)
        generalize l.getD i d0 = x at hc1 hc2 hx0 hx4 HP HPP hs2 HNO HFN
        generalize tgts (l.take i) = S1 at HP hs1 ⊢
        have BX := Lib.hid (show Box (wr.alloc (.cells #[.int .i64 x.1, .string x.2] 39)) wr.heap.size (.int .i64 x.1) (.string x.2) 39 from blk_new wr (.cells #[.int .i64 x.1, .string x.2] 39))
        obtain ⟨z0, z1⟩ := Dk.Box.cells BX.out
        have HB := Lib.hid (HBEL.out.alloc hsz (.cells #[.int .i64 x.1, .string x.2] 39))
        have HOA := Lib.hid (World.ownsRow.alloc HO.out (.cells #[.int .i64 x.1, .string x.2] 39))
        have hsa : w.heap.size ≤ (wr.alloc (.cells #[.int .i64 x.1, .string x.2] 39)).heap.size := by simp; omega
        by_cases h32 : x.2.size = 32
        · have HK := Lib.hid (HFN.out h32)
          go_wp2_with fail
          generalize wr.alloc (.cells #[.int .i64 x.1, .string x.2] 39) = wa at BX z0 z1 HB HOA hsa ⊢
          refine (Commit.put_any x wa hx0 hx4).mono ?_
          rintro e w2 ⟨rfl, hb⟩
          have s2 := hb.size
          replace HB := Lib.hid (HB.out.trans (hb.mono hsa))
          replace BX := Lib.hid (Dk.Box.below BX.out hb)
          replace HOA := Lib.hid (own_below HOA.out hb)
          clear hb z0 z1
          obtain ⟨z0, z1⟩ := Dk.Box.cells BX.out
          generalize Nums.putB x.1 2 = P at hs2 HP ⊢
          go_wp2_with (first | (at_builtin; refine wpList_append_own _ rfl _ _ 24 rfl w.heap.size 39 j0 (.agg #[.int .i64 0, .string ⟨#[]⟩]) 2 24 Try.underlying24 HJ.out HY0.out HY1.out HY2.out rfl (by decide) _ _ _ rfl (World.ownsRow.alloc HOA.out _) ⟨w2.heap.size, 0, none⟩ 1 1 [.int .i64 (6 + (i : Int)), .string x.2] rfl rfl (Dk.cell_two_new _ _ _ _) (by simp [Value.oneCell']) ?c1 ?c2 ?c3 ?_))
          case c1 => unfold maxLen; omega
          case c2 => omega
          case c3 => simp only [World.size_alloc]; omega
          intro v9 w9 hown9 hg9 _
          have HB9 := Lib.hid ((HB.out.alloc (by omega) _).grown hg9 (by simp only [World.size_alloc]; omega) (fun k hk => (HOA.out.lt k hk).1))
          have HO9 := Lib.hid (own_cong (n' := i + 1) (xs' := wcells (payTo l (i + 1))) hown9 rfl (by rw [HPP.out, Txn.wcells_snoc]; simp))
          clear hown9 hg9
          go_wp2_with fail
          go_roundw
          case rel => exact ⟨i + 1, by omega, by go_num, by rw [HP.out], HO9.out, HK.out, HB9.out⟩
          case measure => simp [intOf]; omega
        · have HF := Lib.hid (HNO.out h32)
          have hd3 : ((x.2.size : Int) != 32) = true := by simp; omega
          have hd4 : decide (x.2.size = 32) = false := decide_eq_false h32
          go_wp2_with fail
          go_ret
          exact ⟨_, rfl, HNIL.out _ HF.out, fun _ => rfl, HB.out⟩
      · have HE := Lib.hid (show l.take i = l by rw [show i = l.length from by rw [← HN.out]; omega]; exact List.take_of_length_le (Nat.le_refl _))
        have HFL := Lib.hid (show Full l from fun k hk => HFU.out k (by rw [← HN.out] at hk; omega))
        have hni : i = N := by omega
        have HNI := Lib.hid hni
        have HYES := Lib.hid (Txn.jour_yes HT.out HFL.out)
        have HNE := Lib.hid (Txn.jour_ne HT.out HFL.out)
        have hts : (tgts l).size ≤ 1048576 := by have := Txn.tgts_size l; rw [← HN.out] at this; omega
        have HTS := Lib.hid hts
        have HPS := Lib.hid (fun k => Txn.cut_get_le (tgts l) 32 (by decide) (by decide) k)
        rw [HE.out]
        have HCL := Lib.hid (show (CutAll.cutAll (tgts l) 32).length ≤ 400 by have := CutAll.cutAll_len (tgts l) 32; have := Txn.tgts_size l; rw [← HN.out] at this; omega)
        have HTA := Lib.hid (show tgtTo (CutAll.cutAll (tgts l) 32) (CutAll.cutAll (tgts l) 32).length = tgtW l from Txn.tgtTo_all l)
        have HPA := Lib.hid (show payTo l i = payW l by rw [HNI.out, HN.out]; exact Txn.payTo_all l)
        have HPL := Lib.hid (show (payW l).length = i by rw [Txn.payW_len, ← HN.out, HNI.out])
        generalize hts2 : tgts l = S1 at HTS HCL HPS HTA ⊢
        have HSS := Lib.hid hts2
        clear hts hni hts2
        go_wp2_with fail
        refine (CutAll.impl_any S1 32 wr HTS.out).mono ?_
        rintro e w2 ⟨cv, rfl, hcown, hb⟩
        have s2 := hb.size
        have HB2 := Lib.hid (HBEL.out.trans (hb.mono hsz))
        have HO2 := Lib.hid (own_below HO.out hb)
        have hcl := HCL.out
        generalize CutAll.cutAll S1 32 = ps at hcown hcl HPS HTA HCL
        obtain ⟨C, hC⟩ : ∃ C, C = ps.length := ⟨_, rfl⟩
        have hca := atS (Strs.holds_of_own hcown)
        rw [← hC] at hcl HTA hca
        obtain ⟨ca, cp, rfl, hcat⟩ := hca
        have HCC := Lib.hid hC
        have HAT := Lib.hid hcat
        clear hcown hb hC hcat
        go_wp2_with fail
        go_loopw [7, 40] (fun wv iv wx => ∃ k : Nat, k ≤ C ∧ iv = .int .i64 k ∧ wx.ownsRow w2.heap.size 39 2 wv k (wcells (tgtTo ps k)) ∧ Below w2.heap.size w2 wx) (fun _ iv _ => C - (intOf iv).toNat)
        case atStart => exact ⟨0, Nat.zero_le _, rfl, World.ownsRow_nil _ _ _ _, Below.refl _ _⟩
        case round =>
          obtain ⟨k, hkk, rfl, hown, hbel⟩ := hrel
          have HBX := Lib.hid hbel
          have HOW := Lib.hid hown
          have hsx := hbel.size
          obtain ⟨qa, qc, rfl⟩ := Dk.slice_of hown
          clear hbel hown
          by_cases hkl : k < C
          · obtain ⟨bs, os, rfl, hbs, hcs⟩ := HAT.out k (by rw [← HCC.out]; exact hkl)
            rw [← HBX.out.cell (p := ⟨bs, _, none⟩) hbs] at hcs
            have HTN := Lib.hid (Txn.tgtTo_succ ps k)
            have hzz := HPS.out k
            have hpz : (ps.getD k ⟨#[]⟩).size ≤ 1048576 := Nat.le_trans hzz HTS.out
            clear hzz
            generalize ps.getD k ⟨#[]⟩ = y at hcs HTN hpz
            go_wp2_with fail
            refine (PadTo.impl_any y 32 _ hpz (by decide)).mono ?_
            rintro e w3 ⟨rfl, hb⟩
            have s3 := hb.size
            have HB3 := Lib.hid (HBX.out.trans (hb.mono hsx))
            have HO3 := Lib.hid (own_below HOW.out hb)
            clear hb
            generalize PadTo.padB y 32 = Y at HTN ⊢
            go_wp2_with (first | (at_builtin; refine wpList_append_own _ rfl _ _ 24 rfl w2.heap.size 39 j0 (.agg #[.int .i64 0, .string ⟨#[]⟩]) 2 24 Try.underlying24 HJ.out HY0.out HY1.out HY2.out rfl (by decide) _ _ _ rfl (World.ownsRow.alloc HO3.out _) ⟨w3.heap.size, 0, none⟩ 1 1 [.int .i64 (2 + (k : Int)), .string Y] rfl rfl (Dk.cell_two_new _ _ _ _) (by simp [Value.oneCell']) ?c1 ?c2 ?c3 ?_))
            case c1 => unfold maxLen; omega
            case c2 => omega
            case c3 => simp only [World.size_alloc]; omega
            intro v9 w9 hown9 hg9 _
            have HB9 := Lib.hid ((HB3.out.alloc (by omega) _).grown hg9 (by simp only [World.size_alloc]; omega) (fun k hk => (HO3.out.lt k hk).1))
            have HO9 := Lib.hid (own_cong (n' := k + 1) (xs' := wcells (tgtTo ps (k + 1))) hown9 rfl (by rw [HTN.out, Txn.wcells_snoc]; simp))
            clear hown9 hg9
            go_wp2_with fail
            go_roundw
            case rel => exact ⟨k + 1, by omega, by go_num, HO9.out, HB9.out⟩
            case measure => simp [intOf]; omega
          · have hkC : k = C := by omega
            have HKC := Lib.hid hkC
            have HOP := Lib.hid (own_below HO2.out HBX.out)
            have HSRC := Lib.hid (show App.SrcRow wr 2 (.slice pa i pc) i (wcells (payTo l i)) from by
              have := App.src_wrs (Wr.holds_of_own HOP.out)
              rwa [Txn.payTo_len] at this)
            have HBW := Lib.hid (HB2.out.trans (HBX.out.mono HB2.out.size))
            clear hkC
            go_wp2_with (first | (at_builtin; refine App.wpList_append_src rfl _ _ 24 rfl w2.heap.size 39 j0 (.agg #[.int .i64 0, .string ⟨#[]⟩]) 2 24 Try.underlying24 HJ.out HY0.out HY1.out HY2.out rfl (by decide) _ _ _ rfl HOW.out _ _ HSRC.out ?c1 ?c2 ?c3 ?_))
            case c1 => unfold maxLen; omega
            case c2 => omega
            case c3 => exact hsx
            intro a9 c9 w9 hown9 hg9
            have HB9 := Lib.hid (HBW.out.grown hg9 (by omega) (fun k hk => Nat.le_trans (by omega) (HOW.out.lt k hk).1))
            have HO9 := Lib.hid (own_cong (n' := (jourV l).length) (xs' := wcells (jourV l)) (own_wide hown9 (show w.heap.size ≤ w2.heap.size by omega)) (by rw [HYES.out, List.length_append, HPL.out, ← HTA.out, Txn.tgtTo_len, HKC.out]) (by rw [HYES.out, Wr.wcells_append, HPA.out, HKC.out, HTA.out]))
            clear hown9 hg9
            go_wp2_with fail
            go_ret
            exact ⟨_, rfl, HO9.out, fun h => absurd h HNE.out, HB9.out⟩
  · have HDT := Lib.hid (show decide (Tgt l) = false from Commit.not_tgt ht)
    have HF := Lib.hid (Txn.jour_no (fun h => ht h.1))
    clear ht
    go_enter Try.func24, Try.ntmps24
    go_wp2_with fail
    refine (Commit.has_any w _ l h3 HL.out).mono ?_
    rw [HDT.out]
    rintro e w1 ⟨rfl, hb⟩
    go_wp2_with fail
    go_ret
    exact ⟨_, rfl, HNIL.out _ HF.out, fun _ => rfl, hb⟩
end Go.Proofs.Ytgapjdkelkmdgaa.Journal
