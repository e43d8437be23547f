/- Contracts: the model's l04Clear and TxnSteps: the steps of a transaction, in a row of their own. Conditions: the lengths. -/
import Derived.Test.YtgapjdkelkmdgaaStepsTwo
import Derived.Test.YtgapjdkelkmdgaaJournalSpec
namespace Go.Proofs.Ytgapjdkelkmdgaa.Steps
open Go.ChangeShapes Go.WideShapes Go.ChangeAt Go.RowKit
open Wr (Wt d0 datas wcells)
open Dk (AtW atW ret_bool blk_new blk_of blk_two RowIn Box)
open Strs (own_below total)
open Txn (St s0 fl zero endV jourV commitV stepsV)
open Sp (scells scell spInfo)
open Journal (own_wide own_cong own_fresh2 own_two')
set_option linter.unusedVariables false

theorem scells_one (l : List St) : ∀ u ∈ scells l, u.oneCell' = true := by
  intro u hu
  obtain ⟨x, _, hx⟩ := List.mem_flatMap.1 hu
  simp only [scell, List.mem_cons, List.not_mem_nil, or_false] at hx
  rcases hx with rfl | rfl | rfl <;> rfl

set_option maxRecDepth 100000 in
set_option maxHeartbeats 1600000 in
theorem clear_any (w : World) :
    Calls Try.prog 97 #[] w fun e w' => ∃ v, e = .returned v ∧ w'.ownsRow w.heap.size 88 3 v 3 (scells [fl, Txn.wr (1, zero), fl]) ∧ Below w.heap.size w w' := by
  have HZ := Lib.hid (show PadTo.padB ⟨#[]⟩ 32 = zero from rfl)
  go_enter Try.func97, Try.ntmps97
  go_wp2_with fail
  refine (PadTo.spec_any ⟨#[]⟩ 32 _ (by decide)).mono ?_
  rintro e w1 ⟨rfl, hb⟩
  rw [HZ.out]
  have HB := Lib.hid hb
  have s1 := hb.size
  clear hb
  generalize hz : zero = Z
  have HZZ := Lib.hid hz
  clear hz HZ
  have HO := Lib.hid (own_new w1 88 3 3 [.bool true, .int .i64 0, .string ⟨#[]⟩, .bool false, .int .i64 1, .string Z, .bool true, .int .i64 0, .string ⟨#[]⟩] (by unfold maxLen; omega) rfl)
  have HB2 := Lib.hid (HB.out.alloc s1 (.cells #[.bool true, .int .i64 0, .string ⟨#[]⟩, .bool false, .int .i64 1, .string Z, .bool true, .int .i64 0, .string ⟨#[]⟩] 88))
  go_wp2_with fail
  go_ret
  exact ⟨_, rfl, own_cong (own_wide HO.out s1) rfl (by rw [HZZ.out]; rfl), HB2.out⟩

set_option maxRecDepth 100000 in
set_option maxHeartbeats 6400000 in
theorem spec_any (w : World) (lv : Value) (seq : Int) (l : List Wt) (h3 : l.length ≤ 1048576) (hd : total (datas l) ≤ 1048576) (hl : Wr.Holds w lv l) :
    Calls Try.prog 40 #[.int .i64 seq, lv] w fun e w' => ∃ v, e = .returned v ∧ w'.ownsRow w.heap.size 88 3 v (stepsV seq l).length (scells (stepsV seq l)) ∧ Below w.heap.size w w' := by
  obtain ⟨j0, hj, hy0, hy1, hy2⟩ := info_parts spInfo
  have HJ := Lib.hid hj
  have HY0 := Lib.hid hy0
  have HY1 := Lib.hid hy1
  have HY2 := Lib.hid hy2
  clear hj hy0 hy1 hy2
  have HL := Lib.hid hl
  obtain ⟨c, cc, rfl, hc⟩ := atW hl
  have HC := Lib.hid hc
  clear hl hc
  have HNIL := Lib.hid (fun (w' : World) (h : stepsV seq l = []) => (show w'.ownsRow w.heap.size 88 3 (.slice none 0 0) (stepsV seq l).length (scells (stepsV seq l)) from own_cong (World.ownsRow_nil _ _ _ _) (by rw [h]; rfl) (by rw [h]; rfl)))
  have HSNO := Lib.hid (show jourV l = [] ∨ commitV seq l = ⟨#[]⟩ → stepsV seq l = [] from fun h => if_pos h)
  have HSYES := Lib.hid (show ¬ (jourV l = [] ∨ commitV seq l = ⟨#[]⟩) → stepsV seq l = (jourV l).map Txn.wr ++ [fl, Txn.wr (1, commitV seq l), fl] ++ endV l from fun h => if_neg h)
  have hjs := jour_small l
  obtain ⟨J, hJ⟩ : ∃ J, J = jourV l := ⟨_, rfl⟩
  obtain ⟨CV, hCV⟩ : ∃ C, C = commitV seq l := ⟨_, rfl⟩
  rw [← hJ, ← hCV] at HSNO HSYES
  rw [← hJ] at hjs
  have HJJ := Lib.hid hJ
  have HCV := Lib.hid hCV
  clear hJ hCV
  obtain ⟨N, hN⟩ : ∃ N, N = l.length := ⟨_, rfl⟩
  rw [← hN] at HL h3 ⊢
  have HN := Lib.hid hN
  clear hN
  have HOE := Lib.hid (own_fresh2 w 88 3)
  have HB := Lib.hid (Joins.below_alloc1 w (.cells #[] 88))
  have hse : w.heap.size < (w.alloc (.cells #[] 88)).heap.size := by simp
  go_enter Try.func40, Try.ntmps40
  go_wp2_with fail
  generalize w.alloc (.cells #[] 88) = w0 at HOE HB hse ⊢
  refine (Commit.spec_any w0 _ seq l (by rw [← HN.out]; omega) hd (Wr.holds_below (B := 0) HL.out HB.out)).mono ?_
  rintro e w1 ⟨rfl, hb⟩
  rw [← HCV.out]
  have s1 := hb.size
  replace HB := Lib.hid (HB.out.trans (hb.mono HB.out.size))
  replace HOE := Lib.hid (own_below HOE.out hb)
  clear hb
  go_wp2_with fail
  refine (Journal.spec_any w1 _ l (by rw [← HN.out]; omega) (Wr.holds_below (B := 0) HL.out HB.out)).mono ?_
  rintro e w2 ⟨v, rfl, hown, hb⟩
  rw [← HJJ.out] at hown
  have s2 := hb.size
  replace HB := Lib.hid (HB.out.trans (hb.mono HB.out.size))
  replace HOE := Lib.hid (own_below HOE.out hb)
  obtain ⟨M, hM⟩ : ∃ M, M = J.length := ⟨_, rfl⟩
  rw [← hM] at hown hjs
  have HM := Lib.hid hM
  have HP := Lib.hid hown
  obtain ⟨qa, qc, rfl⟩ := Dk.slice_of hown
  clear hown hb hM
  by_cases hC0 : CV = ⟨#[]⟩
  · have HZ := Lib.hid (HSNO.out (.inr hC0))
    have hce : CV.toList.isEmpty = true := by rw [hC0, ByteArray.toList_eq]; rfl
    clear hC0
    go_wp2_with fail
    go_ret
    exact ⟨_, rfl, HNIL.out _ HZ.out, HB.out⟩
  · have hce : CV.toList.isEmpty = false := by
      rw [ByteArray.toList_eq, List.isEmpty_eq_false_iff]
      intro hh
      exact hC0 (by apply ByteArray.ext; apply Array.toList_inj.1; simpa using hh)
    by_cases hJ0 : M ≤ 0
    · have HZ := Lib.hid (HSNO.out (.inl (List.eq_nil_of_length_eq_zero (by rw [← HM.out]; omega))))
      have hme : decide (M = 0) = true := decide_eq_true (by omega)
      have HME := Lib.hid (show M = 0 by omega)
      clear hC0 hJ0
      obtain rfl := HME.out
      go_wp2_with fail
      go_ret
      exact ⟨_, rfl, HNIL.out _ HZ.out, HB.out⟩
    · have hJn : J ≠ [] := fun h => hJ0 (by rw [HM.out, h]; simp)
      have HY := Lib.hid (HSYES.out (fun h => h.elim hJn hC0))
      have hnz : N ≤ 64 := by
        by_cases ht : Txn.Tgt l
        · have := ht.1.2; have := HN.out; omega
        · exact absurd (by rw [HJJ.out]; exact Txn.jour_no (fun h => ht h.1)) hJn
      have hme : ((M : Int) == 0) = false := by simp; omega
      have hM1 : 1 ≤ M := by omega
      clear hC0 hJ0 hJn
      go_wp2_with fail
      clear hce
      go_loopw [5, 27] (fun v iv wx => ∃ i : Nat, i ≤ M ∧ iv = .int .i64 i ∧ wx.ownsRow w.heap.size 88 3 v i (scells ((J.map Txn.wr).take i)) ∧ wx.ownsRow w1.heap.size 39 2 (.slice qa M qc) M (wcells J) ∧ Below w.heap.size w wx) (fun _ iv _ => M - (intOf iv).toNat)
      case atStart => exact ⟨0, Nat.zero_le _, rfl, HOE.out, HP.out, HB.out⟩
      case round =>
        obtain ⟨i, hii, rfl, hown, hpow, hbel⟩ := hrel
        have HO := Lib.hid hown
        replace HP := Lib.hid hpow
        replace HB := Lib.hid hbel
        have hsz := hbel.size
        obtain ⟨ra, rc, rfl⟩ := Dk.slice_of hown
        clear hown hpow hbel
        by_cases hlt : i < M
        · obtain ⟨aa, ap, he, hat⟩ := atW (Wr.holds_of_own HP.out)
          have e1 : qa = aa := (show qa = aa ∧ M = J.length ∧ qc = ap by simpa using he).1
          subst e1
          clear he
          have hlx : i < J.length := by rw [← HM.out]; exact hlt
          obtain ⟨bw, ow, rfl, hbw, hc1, hc2⟩ := hat i hlx
          have HT := Lib.hid (show scells ((J.map Txn.wr).take (i + 1)) = scells ((J.map Txn.wr).take i) ++ [.bool false, .int .i64 (J.getD i d0).1, .string (J.getD i d0).2] by
            rw [← List.map_take, ← List.map_take, Txn.take_snoc J i hlx, List.map_append, Sp.scells_append]; rfl)
          clear hat
          generalize J.getD i d0 = x at hc1 hc2 HT
          obtain ⟨z0, z1⟩ := Dk.Box.cells (show Box (wr.alloc (.cells #[.int .i64 x.1, .string x.2] 39)) wr.heap.size (.int .i64 x.1) (.string x.2) 39 from blk_new wr (.cells #[.int .i64 x.1, .string x.2] 39))
          have HPA := Lib.hid (World.ownsRow.alloc HP.out (.cells #[.int .i64 x.1, .string x.2] 39))
          have HBA := Lib.hid (HB.out.alloc hsz (.cells #[.int .i64 x.1, .string x.2] 39))
          have HOA := Lib.hid (World.ownsRow.alloc HO.out (.cells #[.int .i64 x.1, .string x.2] 39))
          have hsa : w.heap.size ≤ (wr.alloc (.cells #[.int .i64 x.1, .string x.2] 39)).heap.size := by simp; omega
          have HBK := Lib.hid (show wr.heap.size + 1 = (wr.alloc (.cells #[.int .i64 x.1, .string x.2] 39)).heap.size by simp)
          go_wp2_with (first | (at_builtin; refine wpList_append_own _ rfl _ _ 29 rfl w.heap.size 88 j0 (.agg #[.bool false, .int .i64 0, .string ⟨#[]⟩]) 3 32 Try.underlying29 HJ.out HY0.out HY1.out HY2.out rfl (by decide) _ _ _ rfl (World.ownsRow.alloc HOA.out _) ⟨wr.heap.size + 1, 0, none⟩ 1 1 [.bool false, .int .i64 x.1, .string x.2] rfl rfl (cells_new _ [.bool false, .int .i64 x.1, .string x.2] _ _ HBK.out) (by simp [Value.oneCell']) ?c1 ?c2 ?c3 ?_))
          case c1 => unfold maxLen; omega
          case c2 => omega
          case c3 => first | omega | (simp only [World.size_alloc]; omega)
          intro v9 w9 hown9 hg9 _
          have HB9 := Lib.hid ((HBA.out.alloc hsa _).grown hg9 (by simp only [World.size_alloc]; omega) (fun k hk => (HOA.out.lt k hk).1))
          have HP9 := Lib.hid (World.ownsRow.kept (World.ownsRow.alloc HPA.out _) hg9 (own_two' HPA.out HOA.out (by decide)))
          have HO9 := Lib.hid (own_cong (n' := i + 1) (xs' := scells ((J.map Txn.wr).take (i + 1))) hown9 rfl (by rw [HT.out]))
          clear hown9 hg9
          go_wp2_with fail
          go_roundw
          case rel => exact ⟨i + 1, by omega, by go_num, HO9.out, HP9.out, HB9.out⟩
          case measure => simp [intOf]; omega
        · have hiM : i = M := by omega
          have HIM := Lib.hid hiM
          have HE := Lib.hid (show (J.map Txn.wr).take i = J.map Txn.wr from List.take_of_length_le (by rw [List.length_map, ← HM.out]; omega))
          clear hiM HP
          go_wp2_with (first | (at_builtin; refine wpList_append_own _ rfl _ _ 29 rfl w.heap.size 88 j0 (.agg #[.bool false, .int .i64 0, .string ⟨#[]⟩]) 3 32 Try.underlying29 HJ.out HY0.out HY1.out HY2.out rfl (by decide) _ _ _ rfl (World.ownsRow.alloc HO.out _) ⟨wr.heap.size, 0, none⟩ 3 3 [.bool true, .int .i64 0, .string ⟨#[]⟩, .bool false, .int .i64 1, .string CV, .bool true, .int .i64 0, .string ⟨#[]⟩] rfl rfl (cells_new _ [.bool true, .int .i64 0, .string ⟨#[]⟩, .bool false, .int .i64 1, .string CV, .bool true, .int .i64 0, .string ⟨#[]⟩] _ _ rfl) (by simp [Value.oneCell']) ?c1 ?c2 ?c3 ?_))
          case c1 => unfold maxLen; omega
          case c2 => omega
          case c3 => first | omega | (simp only [World.size_alloc]; omega)
          intro v9 w9 hown9 hg9 _
          have HB9 := Lib.hid ((HB.out.alloc hsz _).grown hg9 (by simp only [World.size_alloc]; omega) (fun k hk => (HO.out.lt k hk).1))
          have HA9 := Lib.hid (own_cong (n' := M + 3 + 0) (xs' := scells (J.map Txn.wr ++ [fl, Txn.wr (1, CV), fl] ++ (l.map Txn.wr).take 0)) hown9 (by rw [HIM.out]) (by rw [HE.out, List.take_zero, List.append_nil, Sp.scells_append]; rfl))
          clear hown9 hg9 HE
          go_wp2_with fail
          go_loopw [5, 47] (fun v iv wx => ∃ j : Nat, j ≤ N ∧ iv = .int .i64 j ∧ wx.ownsRow w.heap.size 88 3 v (M + 3 + j) (scells (J.map Txn.wr ++ [fl, Txn.wr (1, CV), fl] ++ (l.map Txn.wr).take j)) ∧ Below w.heap.size w wx) (fun _ iv _ => N - (intOf iv).toNat)
          case atStart => exact ⟨0, Nat.zero_le _, rfl, HA9.out, HB9.out⟩
          case round =>
            obtain ⟨j, hjj, rfl, hown, hbel⟩ := hrel
            clear HO HB hsz
            have HO := Lib.hid hown
            have HB := Lib.hid hbel
            have hsz := hbel.size
            obtain ⟨ta, tc, rfl⟩ := Dk.slice_of hown
            clear hown hbel HA9 HB9
            by_cases hjl : j < N
            · have hlx : j < l.length := by rw [← HN.out]; exact hjl
              obtain ⟨bw, ow, rfl, hbw, hc1, hc2⟩ := HC.out j hlx
              rw [← HB.out.cell (p := ⟨bw, _, none⟩) hbw] at hc1 hc2
              have HT := Lib.hid (show scells (J.map Txn.wr ++ [fl, Txn.wr (1, CV), fl] ++ (l.map Txn.wr).take (j + 1)) = scells (J.map Txn.wr ++ [fl, Txn.wr (1, CV), fl] ++ (l.map Txn.wr).take j) ++ [.bool false, .int .i64 (l.getD j d0).1, .string (l.getD j d0).2] by
                rw [← List.map_take, ← List.map_take, Txn.take_snoc l j hlx, List.map_append, ← List.append_assoc, Sp.scells_append _ (List.map Txn.wr [l.getD j d0])]; rfl)
              generalize l.getD j d0 = x at hc1 hc2 HT
              obtain ⟨z0, z1⟩ := Dk.Box.cells (show Box (wr.alloc (.cells #[.int .i64 x.1, .string x.2] 39)) wr.heap.size (.int .i64 x.1) (.string x.2) 39 from blk_new wr (.cells #[.int .i64 x.1, .string x.2] 39))
              have HBA := Lib.hid (HB.out.alloc hsz (.cells #[.int .i64 x.1, .string x.2] 39))
              have HOA := Lib.hid (World.ownsRow.alloc HO.out (.cells #[.int .i64 x.1, .string x.2] 39))
              have hsa : w.heap.size ≤ (wr.alloc (.cells #[.int .i64 x.1, .string x.2] 39)).heap.size := by simp; omega
              have HBK := Lib.hid (show wr.heap.size + 1 = (wr.alloc (.cells #[.int .i64 x.1, .string x.2] 39)).heap.size by simp)
              go_wp2_with (first | (at_builtin; refine wpList_append_own _ rfl _ _ 29 rfl w.heap.size 88 j0 (.agg #[.bool false, .int .i64 0, .string ⟨#[]⟩]) 3 32 Try.underlying29 HJ.out HY0.out HY1.out HY2.out rfl (by decide) _ _ _ rfl (World.ownsRow.alloc HOA.out _) ⟨wr.heap.size + 1, 0, none⟩ 1 1 [.bool false, .int .i64 x.1, .string x.2] rfl rfl (cells_new _ [.bool false, .int .i64 x.1, .string x.2] _ _ HBK.out) (by simp [Value.oneCell']) ?c1 ?c2 ?c3 ?_))
              case c1 => unfold maxLen; omega
              case c2 => omega
              case c3 => first | omega | (simp only [World.size_alloc]; omega)
              intro v9 w9 hown9 hg9 _
              have HB9 := Lib.hid ((HBA.out.alloc hsa _).grown hg9 (by simp only [World.size_alloc]; omega) (fun k hk => (HOA.out.lt k hk).1))
              have HO9 := Lib.hid (own_cong (n' := M + 3 + (j + 1)) (xs' := scells (J.map Txn.wr ++ [fl, Txn.wr (1, CV), fl] ++ (l.map Txn.wr).take (j + 1))) hown9 (by omega) (by rw [HT.out]; simp))
              clear hown9 hg9
              go_wp2_with fail
              go_roundw
              case rel => exact ⟨j + 1, by omega, by go_num, HO9.out, HB9.out⟩
              case measure => simp [intOf]; omega
            · have hjN : j = N := by omega
              have HJN := Lib.hid hjN
              have HE := Lib.hid (show (l.map Txn.wr).take j = l.map Txn.wr from List.take_of_length_le (by rw [List.length_map, ← HN.out]; omega))
              clear hjN
              go_wp2_with fail
              refine (clear_any wr).mono ?_
              rintro e w10 ⟨v, rfl, hown, hb⟩
              have s10 := hb.size
              replace HB := Lib.hid (HB.out.trans (hb.mono hsz))
              replace HO := Lib.hid (own_below HO.out hb)
              have HS := Lib.hid (src_own hown (scells_one _) (by decide))
              obtain ⟨ua, uc, rfl⟩ := Dk.slice_of hown
              clear hown hb
              go_wp2_with (first | (at_builtin; refine App.wpList_append_src rfl _ _ 29 rfl w.heap.size 88 j0 (.agg #[.bool false, .int .i64 0, .string ⟨#[]⟩]) 3 32 Try.underlying29 HJ.out HY0.out HY1.out HY2.out rfl (by decide) _ _ _ rfl HO.out _ _ HS.out ?d1 ?d2 ?d3 ?_))
              case d1 => unfold maxLen; omega
              case d2 => omega
              case d3 => omega
              intro b9 e9 w11 hown9 hg9
              have s11 := hg9.size
              have HB9 := Lib.hid (HB.out.grown hg9 (by omega) (fun k hk => (HO.out.lt k hk).1))
              have HO9 := Lib.hid (own_cong (n' := (stepsV seq l).length) (xs' := scells (stepsV seq l)) hown9 (by rw [HY.out]; simp [endV]; rw [← HM.out, ← HN.out, HJN.out]; omega) (by rw [HY.out, HE.out, ← Sp.scells_append]; simp [endV]))
              clear hown9 hg9
              go_wp2_with fail
              go_ret
              exact ⟨_, rfl, HO9.out, HB9.out⟩
end Go.Proofs.Ytgapjdkelkmdgaa.Steps
