/- Contracts: RecoverySteps and RecoverDisk, the program's and the model's: the steps that complete what the journal holds, the disk behind them. Conditions: the lengths. -/
import Derived.Test.YtgapjdkelkmdgaaRunSpec
import Derived.Test.YtgapjdkelkmdgaaStepsSpec
import Derived.Test.YtgapjdkelkmdgaaReadJSpec
namespace Go.Proofs.Ytgapjdkelkmdgaa.Rec
open Go.ChangeShapes Go.WideShapes Go.ChangeAt Go.RowKit
open Wr (Wt d0 datas wcells)
open Dk (D Holds Ok Box RowIn blk_new AtW atW)
open Strs (own_below)
open Txn (St s0 fl zero endV recV recoverV runV runL busyB listV seqV)
open Sp (scells spInfo)
open Journal (own_wide own_cong own_fresh2)
open Go.Proofs.Ytgapjdkelkmdgaa.Steps (cells_new clear_any scells_one src_own completion_any stepsOf_own end_len end_fl)
set_option linter.unusedVariables false

set_option maxRecDepth 100000 in
set_option maxHeartbeats 3200000 in
theorem implS_any (w : World) (vs vp : Value) (d : D) (h1 : d.1.length ≤ 1073741824) (h2 : d.2.length ≤ 1073741824) (h : Holds w vs vp d) :
    Calls Try.prog 49 #[.agg #[vs, vp]] w fun e w' => ∃ v, e = .returned v ∧ w'.ownsRow w.heap.size 88 3 v (recV d).length (scells (recV d)) ∧ Below w.heap.size w w' := by
  have H := Lib.hid h
  clear h
  have HB := Lib.hid (Joins.below_alloc1 w (.cells #[vs, vp] 26))
  have BD := Lib.hid (show Box (w.alloc (.cells #[vs, vp] 26)) w.heap.size vs vp 26 from blk_new w _)
  have hs0 : w.heap.size < (w.alloc (.cells #[vs, vp] 26)).heap.size := by simp
  have HLL := Lib.hid (Txn.listV_len d)
  have HREC := Lib.hid (show busyB d = true → recV d = endV (listV d) from fun h => by
    by_cases hb : Txn.Busy d
    · exact Txn.rec_yes hb
    · rw [(Txn.busy_no hb).1] at h; cases h)
  have HRNO := Lib.hid (show busyB d = false → recV d = [] from fun h => by
    by_cases hb : Txn.Busy d
    · rw [(Txn.busy_yes hb).1] at h; cases h
    · exact Txn.rec_no hb)
  obtain ⟨b0, b1⟩ := Dk.Box.cells BD.out
  go_enter Try.func49, Try.ntmps49
  go_wp2_with fail
  generalize w.alloc (.cells #[vs, vp] 26) = w0 at HB BD hs0 b0 b1 ⊢
  refine (ReadJ.impl_any w0 vs vp d h1 h2 (H.out.below HB.out)).mono ?_
  rintro e w1 ⟨v, rfl, hown, hb⟩
  have s1 := hb.size
  replace HB := Lib.hid (HB.out.trans (hb.mono HB.out.size))
  obtain ⟨l, hl⟩ : ∃ l, l = listV d := ⟨_, rfl⟩
  rw [← hl] at hown HLL HREC
  clear hl
  obtain ⟨N, hN⟩ : ∃ N, N = l.length := ⟨_, rfl⟩
  have hNb : N ≤ 64 := by rw [hN]; exact HLL.out
  rw [← hN] at hown
  have HN := Lib.hid hN
  have HO := Lib.hid hown
  obtain ⟨qa, qc, rfl⟩ := Dk.slice_of hown
  clear hown hb hN b0 b1
  generalize seqV d = sq
  cases hbb : busyB d with
  | false =>
    have HZ := Lib.hid (HRNO.out hbb)
    clear hbb
    go_wp2_with fail
    go_ret
    exact ⟨_, rfl, own_cong (World.ownsRow_nil _ _ _ _) (by rw [HZ.out]; rfl) (by rw [HZ.out]; rfl), HB.out⟩
  | true =>
    have HY := Lib.hid (HREC.out hbb)
    clear hbb
    go_wp2_with fail
    refine (completion_any w1 _ l (by rw [← HN.out]; omega) (Wr.holds_of_own HO.out)).mono ?_
    rintro e w2 ⟨v, rfl, hown, hb⟩
    have s2 := hb.size
    replace HB := Lib.hid (HB.out.trans (hb.mono HB.out.size))
    have HP := Lib.hid hown
    clear hown hb
    go_wp2_with fail
    refine (stepsOf_own w2 _ _ _ (endV l) (by rw [end_len, ← HN.out]; omega) (end_fl l) HP.out).mono ?_
    rintro e w3 ⟨v, rfl, hown, hb⟩
    have HQ := Lib.hid (own_wide hown (show w.heap.size ≤ w2.heap.size by omega))
    replace HB := Lib.hid (HB.out.trans (hb.mono HB.out.size))
    clear hown hb
    go_wp2_with fail
    go_ret
    exact ⟨_, rfl, own_cong HQ.out (by rw [HY.out]) (by rw [HY.out]), HB.out⟩

set_option maxRecDepth 100000 in
set_option maxHeartbeats 3200000 in
theorem specS_any (w : World) (vs vp : Value) (d : D) (h1 : d.1.length ≤ 1073741824) (h2 : d.2.length ≤ 1073741824) (h : Holds w vs vp d) :
    Calls Try.prog 48 #[.agg #[vs, vp]] w fun e w' => ∃ v, e = .returned v ∧ w'.ownsRow w.heap.size 88 3 v (recV d).length (scells (recV d)) ∧ Below w.heap.size w w' := by
  obtain ⟨j0, hj, hy0, hy1, hy2⟩ := info_parts spInfo
  have HJ := Lib.hid hj
  have HY0 := Lib.hid hy0
  have HY1 := Lib.hid hy1
  have HY2 := Lib.hid hy2
  clear hj hy0 hy1 hy2
  have H := Lib.hid h
  clear h
  have HB := Lib.hid (Joins.below_alloc1 w (.cells #[vs, vp] 26))
  have BD := Lib.hid (show Box (w.alloc (.cells #[vs, vp] 26)) w.heap.size vs vp 26 from blk_new w _)
  have hs0 : w.heap.size < (w.alloc (.cells #[vs, vp] 26)).heap.size := by simp
  have HLL := Lib.hid (Txn.listV_len d)
  have HREC := Lib.hid (show busyB d = true → recV d = endV (listV d) from fun h => by
    by_cases hb : Txn.Busy d
    · exact Txn.rec_yes hb
    · rw [(Txn.busy_no hb).1] at h; cases h)
  have HRNO := Lib.hid (show busyB d = false → recV d = [] from fun h => by
    by_cases hb : Txn.Busy d
    · rw [(Txn.busy_yes hb).1] at h; cases h
    · exact Txn.rec_no hb)
  obtain ⟨b0, b1⟩ := Dk.Box.cells BD.out
  go_enter Try.func48, Try.ntmps48
  go_wp2_with fail
  generalize w.alloc (.cells #[vs, vp] 26) = w0 at HB BD hs0 b0 b1 ⊢
  refine (ReadJ.spec_any w0 vs vp d h1 h2 (H.out.below HB.out)).mono ?_
  rintro e w1 ⟨v, rfl, hown, hb⟩
  have s1 := hb.size
  replace HB := Lib.hid (HB.out.trans (hb.mono HB.out.size))
  obtain ⟨l, hl⟩ : ∃ l, l = listV d := ⟨_, rfl⟩
  rw [← hl] at hown HLL HREC
  clear hl
  obtain ⟨N, hN⟩ : ∃ N, N = l.length := ⟨_, rfl⟩
  have hNb : N ≤ 64 := by rw [hN]; exact HLL.out
  rw [← hN] at hown
  have HN := Lib.hid hN
  have HO := Lib.hid hown
  obtain ⟨qa, qc, rfl⟩ := Dk.slice_of hown
  clear hown hb hN b0 b1
  generalize seqV d = sq
  cases hbb : busyB d with
  | false =>
    have HZ := Lib.hid (HRNO.out hbb)
    clear hbb
    go_wp2_with fail
    go_ret
    exact ⟨_, rfl, own_cong (World.ownsRow_nil _ _ _ _) (by rw [HZ.out]; rfl) (by rw [HZ.out]; rfl), HB.out⟩
  | true =>
    have HY := Lib.hid (HREC.out hbb)
    clear hbb
    have HOE := Lib.hid (own_wide (own_fresh2 w1 88 3) (show w.heap.size ≤ w1.heap.size by omega))
    have HLI := Lib.hid (World.ownsRow.alloc HO.out (.cells #[] 88))
    replace HB := Lib.hid (HB.out.alloc (by omega) (.cells #[] 88))
    have hs1 : w1.heap.size < (w1.alloc (.cells #[] 88)).heap.size := by simp
    go_wp2_with fail
    generalize w1.alloc (.cells #[] 88) = w2 at HOE HLI HB hs1 ⊢
    go_loopw [6, 20] (fun v iv wx => ∃ i : Nat, i ≤ N ∧ iv = .int .i64 i ∧ wx.ownsRow w.heap.size 88 3 v i (scells ((l.map Txn.wr).take i)) ∧ wx.ownsRow w0.heap.size 39 2 (.slice qa N qc) N (wcells l) ∧ Below w.heap.size w wx) (fun _ iv _ => N - (intOf iv).toNat)
    case atStart => exact ⟨0, Nat.zero_le _, rfl, HOE.out, HLI.out, HB.out⟩
    case round =>
      obtain ⟨i, hii, rfl, hown, hpow, hbel⟩ := hrel
      clear HB HOE HLI HO
      have HO := Lib.hid hown
      have HP := Lib.hid hpow
      have HB := Lib.hid hbel
      have hsz := hbel.size
      obtain ⟨ra, rc, rfl⟩ := Dk.slice_of hown
      clear hown hpow hbel
      by_cases hlt : i < N
      · obtain ⟨aa, ap, he, hat⟩ := atW (Wr.holds_of_own HP.out)
        have e1 : qa = aa := (show qa = aa ∧ N = l.length ∧ qc = ap by simpa using he).1
        subst e1
        clear he
        have hlx : i < l.length := by rw [← HN.out]; exact hlt
        obtain ⟨bw, ow, rfl, hbw, hc1, hc2⟩ := hat i hlx
        have HT := Lib.hid (show scells ((l.map Txn.wr).take (i + 1)) = scells ((l.map Txn.wr).take i) ++ [.bool false, .int .i64 (l.getD i d0).1, .string (l.getD i d0).2] by
          rw [← List.map_take, ← List.map_take, Txn.take_snoc l i hlx, List.map_append, Sp.scells_append]; rfl)
        clear hat
        generalize l.getD i d0 = x at hc1 hc2 HT
        obtain ⟨z0, z1⟩ := Dk.Box.cells (show Box (wr.alloc (.cells #[.int .i64 x.1, .string x.2] 39)) wr.heap.size (.int .i64 x.1) (.string x.2) 39 from blk_new wr (.cells #[.int .i64 x.1, .string x.2] 39))
        have HPA := Lib.hid (World.ownsRow.alloc HP.out (.cells #[.int .i64 x.1, .string x.2] 39))
        have HBA := Lib.hid (HB.out.alloc hsz (.cells #[.int .i64 x.1, .string x.2] 39))
        have HOA := Lib.hid (World.ownsRow.alloc HO.out (.cells #[.int .i64 x.1, .string x.2] 39))
        have hsa : w.heap.size ≤ (wr.alloc (.cells #[.int .i64 x.1, .string x.2] 39)).heap.size := by simp; omega
        have HBK := Lib.hid (show wr.heap.size + 1 = (wr.alloc (.cells #[.int .i64 x.1, .string x.2] 39)).heap.size by simp)
        go_wp2_with (first | (at_builtin; refine wpList_append_own _ rfl _ _ 29 rfl w.heap.size 88 j0 (.agg #[.bool false, .int .i64 0, .string ⟨#[]⟩]) 3 32 Try.underlying29 HJ.out HY0.out HY1.out HY2.out rfl (by decide) _ _ _ rfl (World.ownsRow.alloc HOA.out _) ⟨wr.heap.size + 1, 0, none⟩ 1 1 [.bool false, .int .i64 x.1, .string x.2] rfl rfl (cells_new _ [.bool false, .int .i64 x.1, .string x.2] _ _ HBK.out) (by simp [Value.oneCell']) ?c1 ?c2 ?c3 ?_))
        case c1 => unfold maxLen; omega
        case c2 => omega
        case c3 => first | omega | (simp only [World.size_alloc]; omega)
        intro v9 w9 hown9 hg9 _
        have HB9 := Lib.hid ((HBA.out.alloc hsa _).grown hg9 (by simp only [World.size_alloc]; omega) (fun k hk => (HOA.out.lt k hk).1))
        have HP9 := Lib.hid (World.ownsRow.kept (World.ownsRow.alloc HPA.out _) hg9 (Journal.own_two' HPA.out HOA.out (by decide)))
        have HO9 := Lib.hid (own_cong (n' := i + 1) (xs' := scells ((l.map Txn.wr).take (i + 1))) hown9 rfl (by rw [HT.out]))
        clear hown9 hg9
        go_wp2_with fail
        go_roundw
        case rel => exact ⟨i + 1, by omega, by go_num, HO9.out, HP9.out, HB9.out⟩
        case measure => simp [intOf]; omega
      · have hiN : i = N := by omega
        have HIN := Lib.hid hiN
        have HE := Lib.hid (show (l.map Txn.wr).take i = l.map Txn.wr from List.take_of_length_le (by rw [List.length_map, ← HN.out]; omega))
        clear hiN
        go_wp2_with fail
        refine (clear_any wr).mono ?_
        rintro e w10 ⟨v, rfl, hown, hb⟩
        have s10 := hb.size
        replace HB := Lib.hid (HB.out.trans (hb.mono hsz))
        replace HO := Lib.hid (own_below HO.out hb)
        have HS := Lib.hid (src_own hown (scells_one _) (by decide))
        obtain ⟨ua, uc, rfl⟩ := Dk.slice_of hown
        clear hown hb
        go_wp2_with (first | (at_builtin; refine App.wpList_append_src rfl _ _ 29 rfl w.heap.size 88 j0 (.agg #[.bool false, .int .i64 0, .string ⟨#[]⟩]) 3 32 Try.underlying29 HJ.out HY0.out HY1.out HY2.out rfl (by decide) _ _ _ rfl HO.out _ _ HS.out ?d1 ?d2 ?d3 ?_))
        case d1 => unfold maxLen; omega
        case d2 => omega
        case d3 => omega
        intro b9 e9 w11 hown9 hg9
        have s11 := hg9.size
        have HB9 := Lib.hid (HB.out.grown hg9 (by omega) (fun k hk => (HO.out.lt k hk).1))
        have HO9 := Lib.hid (own_cong (n' := (recV d).length) (xs' := scells (recV d)) hown9 (by rw [HY.out, end_len, HIN.out, HN.out]) (by rw [HY.out, HE.out, ← Sp.scells_append]; rfl))
        clear hown9 hg9
        go_wp2_with fail
        go_ret
        exact ⟨_, rfl, HO9.out, HB9.out⟩

theorem recover_eq (d : D) : runV d (recV d) ((recV d).length : Int) = recoverV d := by
  unfold runV recoverV
  rw [Int.toNat_natCast, List.take_of_length_le (Nat.le_refl _)]
theorem rec_len (d : D) : (recV d).length ≤ 67 := by
  by_cases hb : Txn.Busy d
  · rw [Txn.rec_yes hb, end_len]
    have := Txn.listV_len d
    omega
  · rw [Txn.rec_no hb]; exact Nat.zero_le _
theorem rec_sz (d : D) : ∀ x ∈ recV d, x.2.2.size ≤ 1073741824 := by
  intro x hx
  by_cases hb : Txn.Busy d
  · rw [Txn.rec_yes hb, (Txn.busy_yes hb).2.2] at hx
    simp only [endV, List.mem_append, List.mem_map, List.mem_cons, List.not_mem_nil, or_false] at hx
    have hz := Steps.zero_size
    rcases hx with ⟨y, hy, rfl⟩ | rfl | rfl | rfl
    · obtain ⟨k, _, rfl⟩ := List.mem_map.1 hy
      have := Txn.readF_size d ((6 + k : Nat) : Int)
      show (ReadS.readF d ((6 + k : Nat) : Int)).size ≤ _
      omega
    · show (0 : Nat) ≤ _
      omega
    · show zero.size ≤ _
      omega
    · show (0 : Nat) ≤ _
      omega
  · rw [Txn.rec_no hb] at hx
    cases hx

set_option maxRecDepth 100000 in
set_option maxHeartbeats 3200000 in
theorem implD_any (w : World) (vs vp : Value) (d : D) (h1 : d.1.length ≤ 1073741824) (h2 : d.2.length ≤ 1073741824) (h : Holds w vs vp d) :
    Calls Try.prog 18 #[.agg #[vs, vp]] w fun e w' => ∃ us up, e = .returned (.agg #[us, up]) ∧ Dk.Own w' w.heap.size w'.heap.size us up (recoverV d) ∧ Below w.heap.size w w' := by
  have H := Lib.hid h
  clear h
  have HB := Lib.hid ((Below.refl w.heap.size w).alloc (Nat.le_refl _) (.cells #[vs, vp] 26) |>.alloc (by simp) (.cells #[.slice none 0 0, .slice none 0 0] 26))
  have BD := Lib.hid (show Box ((w.alloc (.cells #[vs, vp] 26)).alloc (.cells #[.slice none 0 0, .slice none 0 0] 26)) w.heap.size vs vp 26 from Dk.blk_alloc (Dk.blk_new w _) _)
  have BR := Lib.hid (show Box ((w.alloc (.cells #[vs, vp] 26)).alloc (.cells #[.slice none 0 0, .slice none 0 0] 26)) (w.heap.size + 1) (.slice none 0 0) (.slice none 0 0) 26 from by have hk := Dk.blk_new (w.alloc (.cells #[vs, vp] 26)) (.cells #[.slice none 0 0, .slice none 0 0] 26); simp only [World.size_alloc] at hk; exact hk)
  have hs0 : w.heap.size + 1 + 1 ≤ ((w.alloc (.cells #[vs, vp] 26)).alloc (.cells #[.slice none 0 0, .slice none 0 0] 26)).heap.size := by simp
  obtain ⟨b0, b1⟩ := Dk.Box.cells BD.out
  go_enter Try.func18, Try.ntmps18
  go_wp2_with fail
  generalize (w.alloc (.cells #[vs, vp] 26)).alloc (.cells #[.slice none 0 0, .slice none 0 0] 26) = w0 at HB BD BR hs0 b0 b1 ⊢
  refine (implS_any w0 vs vp d h1 h2 (H.out.below HB.out)).mono ?_
  rintro e w2 ⟨v, rfl, hown, hb⟩
  have s1 := hb.size
  replace HB := Lib.hid (HB.out.trans (hb.mono HB.out.size))
  replace BD := Lib.hid (Dk.Box.below BD.out hb)
  replace BR := Lib.hid (Dk.Box.below BR.out hb)
  have HO := Lib.hid hown
  obtain ⟨qa, qc, rfl⟩ := Dk.slice_of hown
  clear hown hb b0 b1
  obtain ⟨b0, b1⟩ := Dk.Box.cells BD.out
  go_wp2_with fail
  refine (Run.impl_own w2 vs vp _ d (recV d) _ _ _ h1 h2 (by have := rec_len d; omega) (rec_sz d) (H.out.below HB.out) HO.out).mono ?_
  rintro e w3 ⟨_, _, rfl, hown, hb⟩
  rw [recover_eq] at hown
  obtain ⟨⟨ua, un, uc, rfl⟩, ⟨ub, um, ud, rfl⟩⟩ := hown.forms
  have s2 := hb.size
  replace HB := Lib.hid (HB.out.trans (hb.mono HB.out.size))
  replace BR := Lib.hid (Dk.Box.below BR.out hb)
  have HD := Lib.hid hown
  clear hown hb b0 b1 HO
  obtain ⟨r0, r1, r2, r3⟩ := Dk.Box.four BR.out
  go_wp2
  obtain ⟨hO, hF, hS⟩ := Dk.Own.into HD.out BR.out
  have hBB := Dk.below_into (b := w.heap.size + 1) HB.out (by omega) (.slice ua un uc) (.slice ub um ud)
  generalize (w3.setCell ⟨w.heap.size + 1, 0, none⟩ (.slice ua un uc)).setCell ⟨w.heap.size + 1, 1, none⟩ (.slice ub um ud) = wf at hO hF hS hBB ⊢
  obtain ⟨c0, c1, _, _⟩ := Dk.Box.four hF
  exact bodyPost_ret (v := .agg #[.slice ua un uc, .slice ub um ud]) (by simp [results, Try.results18, go_sem, c0, c1]) rfl ⟨_, _, rfl, hO.wide (by omega) (by rw [hS]; exact Nat.le_refl _), hBB⟩

set_option maxRecDepth 100000 in
set_option maxHeartbeats 3200000 in
theorem specD_any (w : World) (vs vp : Value) (d : D) (h1 : d.1.length ≤ 1073741824) (h2 : d.2.length ≤ 1073741824) (h : Holds w vs vp d) :
    Calls Try.prog 50 #[.agg #[vs, vp]] w fun e w' => ∃ us up, e = .returned (.agg #[us, up]) ∧ Dk.Own w' w.heap.size w'.heap.size us up (recoverV d) ∧ Below w.heap.size w w' := by
  have H := Lib.hid h
  clear h
  have HB := Lib.hid ((Below.refl w.heap.size w).alloc (Nat.le_refl _) (.cells #[vs, vp] 26) |>.alloc (by simp) (.cells #[.slice none 0 0, .slice none 0 0] 26))
  have BD := Lib.hid (show Box ((w.alloc (.cells #[vs, vp] 26)).alloc (.cells #[.slice none 0 0, .slice none 0 0] 26)) w.heap.size vs vp 26 from Dk.blk_alloc (Dk.blk_new w _) _)
  have BR := Lib.hid (show Box ((w.alloc (.cells #[vs, vp] 26)).alloc (.cells #[.slice none 0 0, .slice none 0 0] 26)) (w.heap.size + 1) (.slice none 0 0) (.slice none 0 0) 26 from by have hk := Dk.blk_new (w.alloc (.cells #[vs, vp] 26)) (.cells #[.slice none 0 0, .slice none 0 0] 26); simp only [World.size_alloc] at hk; exact hk)
  have hs0 : w.heap.size + 1 + 1 ≤ ((w.alloc (.cells #[vs, vp] 26)).alloc (.cells #[.slice none 0 0, .slice none 0 0] 26)).heap.size := by simp
  obtain ⟨b0, b1⟩ := Dk.Box.cells BD.out
  go_enter Try.func50, Try.ntmps50
  go_wp2_with fail
  generalize (w.alloc (.cells #[vs, vp] 26)).alloc (.cells #[.slice none 0 0, .slice none 0 0] 26) = w0 at HB BD BR hs0 b0 b1 ⊢
  refine (specS_any w0 vs vp d h1 h2 (H.out.below HB.out)).mono ?_
  rintro e w2 ⟨v, rfl, hown, hb⟩
  have s1 := hb.size
  replace HB := Lib.hid (HB.out.trans (hb.mono HB.out.size))
  replace BD := Lib.hid (Dk.Box.below BD.out hb)
  replace BR := Lib.hid (Dk.Box.below BR.out hb)
  have HO := Lib.hid hown
  obtain ⟨qa, qc, rfl⟩ := Dk.slice_of hown
  clear hown hb b0 b1
  obtain ⟨b0, b1⟩ := Dk.Box.cells BD.out
  go_wp2_with fail
  refine (Run.spec_any w2 vs vp _ d (recV d) _ h1 h2 (by have := rec_len d; omega) (rec_sz d) (H.out.below HB.out) (Sp.holds_of_own HO.out)).mono ?_
  rintro e w3 ⟨_, _, rfl, hown, hb⟩
  rw [recover_eq] at hown
  obtain ⟨⟨ua, un, uc, rfl⟩, ⟨ub, um, ud, rfl⟩⟩ := hown.forms
  have s2 := hb.size
  replace HB := Lib.hid (HB.out.trans (hb.mono HB.out.size))
  replace BR := Lib.hid (Dk.Box.below BR.out hb)
  have HD := Lib.hid hown
  clear hown hb b0 b1 HO
  obtain ⟨r0, r1, r2, r3⟩ := Dk.Box.four BR.out
  go_wp2
  obtain ⟨hO, hF, hS⟩ := Dk.Own.into HD.out BR.out
  have hBB := Dk.below_into (b := w.heap.size + 1) HB.out (by omega) (.slice ua un uc) (.slice ub um ud)
  generalize (w3.setCell ⟨w.heap.size + 1, 0, none⟩ (.slice ua un uc)).setCell ⟨w.heap.size + 1, 1, none⟩ (.slice ub um ud) = wf at hO hF hS hBB ⊢
  obtain ⟨c0, c1, _, _⟩ := Dk.Box.four hF
  exact bodyPost_ret (v := .agg #[.slice ua un uc, .slice ub um ud]) (by simp [results, Try.results50, go_sem, c0, c1]) rfl ⟨_, _, rfl, hO.wide (by omega) (by rw [hS]; exact Nat.le_refl _), hBB⟩
end Go.Proofs.Ytgapjdkelkmdgaa.Rec
