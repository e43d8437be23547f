/- Proved: for every drawn code, the law FnCommit returns true and leaves its argument as it was: the program's ReadJournal returns the transaction that was written with JournalWrites and CommitSector. No condition beyond the row's own. -/
import Derived.Test.YtgapjdkelkmdgaaDrawBase
import Derived.Test.YtgapjdkelkmdgaaReadJ
import Derived.Test.YtgapjdkelkmdgaaSame
namespace Go.Proofs.Ytgapjdkelkmdgaa.FnCommit
open Go.ChangeShapes Go.WideShapes Go.ChangeAt Go.RowKit
open Go.ChangeMaps (open_string shut_string)
open Dk (D Holds Ok In Own cost costOf cost_pos cost_neg cost_len sz_any to_any eq_any mark_all held_all)
open Cur (CodeIn)
open JFThree (base_of write_step write_commit read_facts total_of)
set_option linter.unusedVariables false

set_option maxRecDepth 100000 in
set_option maxHeartbeats 8000000 in
theorem law_any (cv : Value) (ns : List Nat) (w : World) (hc : CodeIn w w.heap.size cv ns) :
    Calls Try.prog 4 #[cv] w fun e w' => e = .returned (.bool true) ∧ Below w.heap.size w w' := by
  have HCD := Lib.hid hc
  have hlen := hc.choose_spec.choose_spec.2.1
  obtain ⟨a, cap, rfl⟩ : ∃ a cap, cv = .slice a ns.length cap := ⟨_, _, hc.choose_spec.choose_spec.1⟩
  clear hc
  have hl2 : ¬ (1048576 : Int) < (ns.length : Int) := by omega
  go_enter Try.func4, Try.ntmps4
  have HB := Lib.hid (Below.refl w.heap.size w)
  go_wp2_with fail
  refine (JDraw.makeDisk_any _ _ ns HCD.out).mono ?_
  rintro e w1 ⟨_, _, ss, rfl, hf, hown, hb⟩
  have s1 := hb.size
  obtain ⟨⟨ta, tn, tc, rfl⟩, ⟨tb, tm, td, rfl⟩⟩ := hown.forms
  have HD := Lib.hid hown
  clear hown
  replace HB := Lib.hid (HB.out.trans (hb.mono HB.out.size))
  clear hb
  have HFF := Lib.hid hf
  clear hf
  have hb := Joins.below_alloc1 w1 (.cells #[.slice ta tn tc, .slice tb tm td] 26)
  replace HB := Lib.hid (HB.out.trans (hb.mono HB.out.size))
  replace HD := Lib.hid (HD.out.below hb)
  have BT := Lib.hid (show Dk.Box (w1.alloc (.cells #[.slice ta tn tc, .slice tb tm td] 26)) (w1.heap.size) _ _ 26 from Dk.blk_new w1 (.cells #[.slice ta tn tc, .slice tb tm td] 26))
  clear hb
  obtain ⟨vBT0, vBT1, vBT2, vBT3⟩ := BT.out.four
  go_wp2_with fail
  refine (JDraw.makeTxn_any _ _ ns (Draw.code_at HCD.out HB.out)).mono ?_
  rintro e w2 ⟨lv, l, rfl, hp, hown, hb⟩
  have s2 := hb.size
  simp only [World.size_alloc] at s2
  clear vBT0 vBT1 vBT2 vBT3
  have HL := Lib.hid (Dk.RowIn.fresh hown)
  clear hown
  replace HB := Lib.hid (HB.out.trans (hb.mono HB.out.size))
  replace BT := Lib.hid (BT.out.below hb)
  replace HD := Lib.hid (HD.out.below hb)
  clear hb
  have HBS := Lib.hid (base_of HFF.out hp)
  clear hp
  obtain ⟨N, hN⟩ : ∃ N, N = l.length := ⟨_, rfl⟩
  have hN4 : N ≤ 64 := by rw [hN]; exact HBS.out.l2
  rw [← hN] at HL
  have HN := Lib.hid hN
  clear hN
  obtain ⟨la, lc, rfl⟩ := Dk.slice_of HL.out.1
  obtain ⟨vBT0, vBT1, vBT2, vBT3⟩ := BT.out.four
  go_wp2_with fail
  refine (Journal.impl_row _ _ l (by rw [← HN.out]; omega) (Wr.holds_of_own HL.out.1)).mono ?_
  rintro e w3 ⟨jv, rfl, hown, hb⟩
  have s3 := hb.size
  clear vBT0 vBT1 vBT2 vBT3
  have HJ := Lib.hid (Dk.RowIn.fresh hown)
  clear hown
  replace HB := Lib.hid (HB.out.trans (hb.mono HB.out.size))
  replace BT := Lib.hid (BT.out.below hb)
  replace HD := Lib.hid (HD.out.below hb)
  replace HL := Lib.hid (HL.out.below hb)
  clear hb
  obtain ⟨J, hJ⟩ : ∃ J, J = Txn.jourV l := ⟨_, rfl⟩
  rw [← hJ] at HJ
  have HJJ := Lib.hid hJ
  clear hJ
  obtain ⟨M, hM⟩ : ∃ M, M = J.length := ⟨_, rfl⟩
  have hM68 : M ≤ 68 := by rw [hM, HJJ.out]; exact HBS.out.jlen
  rw [← hM] at HJ
  have HM := Lib.hid hM
  clear hM
  obtain ⟨ja, jc, rfl⟩ := Dk.slice_of HJ.out.1
  obtain ⟨vBT0, vBT1, vBT2, vBT3⟩ := BT.out.four
  have HD1 := Lib.hid (show Dk.Own w3 w.heap.size w3.heap.size (.slice ta tn tc) (.slice tb tm td) (ss, J.take 0) from HD.out.wide (Nat.le_refl _) (by omega))
  go_wp2_with fail
  have HJB := Lib.hid (show w3.heap.size ≤ w3.heap.size from Nat.le_refl _)
  clear vBT0 vBT1 vBT2 vBT3
  go_loopw [26] (fun iv wr => ∃ (k : Nat) (us up : Value), k ≤ M ∧ iv = .int .i64 k ∧ Dk.Box wr w1.heap.size us up 26 ∧ Dk.Own wr w.heap.size wr.heap.size us up (ss, J.take k) ∧ wr.ownsRow w2.heap.size 39 2 (.slice ja M jc) M (Wr.wcells J) ∧ wr.ownsRow (w1.heap.size + 1) 39 2 (.slice la N lc) N (Wr.wcells l) ∧ Below w.heap.size w wr ∧ w1.heap.size < wr.heap.size) (fun iv _ => M - (intOf iv).toNat)
  case atStart => exact ⟨0, _, _, Nat.zero_le _, rfl, BT.out, HD1.out, HJ.out.1, by have := HL.out.1; simpa using this, HB.out, by omega⟩
  case round =>
    clear HB BT HD HD1 HL HJ HJB
    obtain ⟨k, us, up, hk, rfl, hbt, hown, hj, hl, hbel, hs1⟩ := hrel
    obtain ⟨⟨va, vn, vc, rfl⟩, ⟨vb, vm, vd, rfl⟩⟩ := hown.forms
    have HB := Lib.hid hbel
    have BT := Lib.hid hbt
    have HD := Lib.hid hown
    have HJ := Lib.hid hj
    have HL := Lib.hid hl
    clear hbt hown hj hl hbel
    obtain ⟨b0, b1, b2, b3⟩ := Dk.Box.four BT.out
    by_cases hlt : k < M
    · obtain ⟨aa, ap, he, hat⟩ := Dk.atW (Wr.holds_of_own HJ.out)
      have e1 : ja = aa := (show ja = aa ∧ M = J.length ∧ jc = ap by simpa using he).1
      subst e1
      clear he
      have hlx : k < J.length := by rw [← HM.out]; exact hlt
      obtain ⟨bw, ow, rfl, hbw, hc1, hc2⟩ := hat k hlx
      have HW := Lib.hid (write_step HBS.out (show k < (Txn.jourV l).length by rw [← HJJ.out]; exact hlx))
      rw [← HJJ.out] at HW
      clear hat
      have hx32 : (J.getD k Wr.d0).2.size ≤ 1073741824 := by
        have := (HBS.out.jfit (J.getD k Wr.d0) (by rw [← HJJ.out]; exact JF.getD_mem hlx)).2
        omega
      generalize J.getD k Wr.d0 = x at hc1 hc2 HW hx32
      have hb := Joins.below_alloc1 wr (.cells #[.int .i64 x.1, .string x.2] 39)
      have BX := Lib.hid (show Dk.Box (wr.alloc (.cells #[.int .i64 x.1, .string x.2] 39)) wr.heap.size (.int .i64 x.1) (.string x.2) 39 from Dk.blk_new wr _)
      replace HB := Lib.hid (HB.out.trans (hb.mono HB.out.size))
      replace BT := Lib.hid (Dk.Box.below BT.out hb)
      replace HD := Lib.hid ((Dk.Own.below HD.out hb).wide (Nat.le_refl _) hb.size)
      replace HJ := Lib.hid (Strs.own_below HJ.out hb)
      replace HL := Lib.hid (Strs.own_below HL.out hb)
      have s4 := hb.size
      clear hb b0 b1 b2 b3
      obtain ⟨b0, b1, b2, b3⟩ := Dk.Box.four BT.out
      obtain ⟨z0, z1⟩ := Dk.Box.cells BX.out
      have hss : ss.length = 73 := HFF.out.1
      have hD2 : (J.take k).length ≤ 1073741824 := by rw [List.length_take]; omega
      have HSS := Lib.hid hss
      clear hss
      go_wp2_with fail
      generalize wr.alloc (.cells #[.int .i64 x.1, .string x.2] 39) = wa at HB BT HD HJ HL BX b0 b1 b2 b3 z0 z1 s4 ⊢
      refine (WriteS.impl_any wa _ _ (ss, J.take k) x.1 x.2 (by show ss.length ≤ _; rw [HSS.out]; omega) hD2 hx32 HD.out.holds).mono ?_
      rintro e w5 ⟨_, _, rfl, hown, hb⟩
      rw [HW.out] at hown ⊢
      dsimp only at hown
      obtain ⟨⟨ua, un, uc, rfl⟩, ⟨ub, um, ud, rfl⟩⟩ := hown.forms
      have s5 := hb.size
      replace HB := Lib.hid (HB.out.trans (hb.mono HB.out.size))
      replace BT := Lib.hid (Dk.Box.below BT.out hb)
      replace HJ := Lib.hid (Strs.own_below HJ.out hb)
      replace HL := Lib.hid (Strs.own_below HL.out hb)
      have HE := Lib.hid (hown.wide (show w.heap.size ≤ wa.heap.size by omega) (Nat.le_refl _))
      clear hb hown b0 b1 b2 b3 z0 z1
      have hb := Joins.below_alloc1 w5 (.cells #[.slice ua un uc, .slice ub um ud] 26)
      replace HB := Lib.hid (HB.out.trans (hb.mono HB.out.size))
      replace BT := Lib.hid (Dk.Box.below BT.out hb)
      replace HJ := Lib.hid (Strs.own_below HJ.out hb)
      replace HL := Lib.hid (Strs.own_below HL.out hb)
      replace HE := Lib.hid ((Dk.Own.below HE.out hb).wide (Nat.le_refl _) hb.size)
      have BY := Lib.hid (show Dk.Box (w5.alloc (.cells #[.slice ua un uc, .slice ub um ud] 26)) w5.heap.size (.slice ua un uc) (.slice ub um ud) 26 from Dk.blk_new w5 _)
      have s6 := hb.size
      clear hb
      obtain ⟨b0, b1, b2, b3⟩ := Dk.Box.four BT.out
      obtain ⟨y0, y1⟩ := Dk.Box.cells BY.out
      go_wp2
      generalize w5.alloc (.cells #[.slice ua un uc, .slice ub um ud] 26) = w6 at HB BT HJ HL HE BY b0 b1 b2 b3 y0 y1 s6 ⊢
      have hO2 := Dk.Own.set (i := 1) (u := .slice ub um ud) (Dk.Own.set (i := 0) (u := .slice ua un uc) HE.out BT.out) (Dk.Box.set0 (u := .slice ua un uc) BT.out)
      have hJ2 := Dk.row_set (i := 1) (u := .slice ub um ud) (Dk.row_set (i := 0) (u := .slice ua un uc) HJ.out BT.out (by decide)) (Dk.Box.set0 (u := .slice ua un uc) BT.out) (by decide)
      have hL2 := Dk.row_set (i := 1) (u := .slice ub um ud) (Dk.row_set (i := 0) (u := .slice ua un uc) HL.out BT.out (by decide)) (Dk.Box.set0 (u := .slice ua un uc) BT.out) (by decide)
      have hD3 := Dk.Box.set1 (u := .slice ub um ud) (Dk.Box.set0 (u := .slice ua un uc) BT.out)
      have hB2 := Dk.below_into (b := w1.heap.size) HB.out (by omega) (.slice ua un uc) (.slice ub um ud)
      have hs2 : ((w6.setCell ⟨w1.heap.size, 0, none⟩ (.slice ua un uc)).setCell ⟨w1.heap.size, 1, none⟩ (.slice ub um ud)).heap.size = w6.heap.size := by simp only [World.size_setCell]
      generalize (w6.setCell ⟨w1.heap.size, 0, none⟩ (.slice ua un uc)).setCell ⟨w1.heap.size, 1, none⟩ (.slice ub um ud) = w7 at hO2 hJ2 hL2 hD3 hB2 hs2 ⊢
      have HO7 := Lib.hid (show Dk.Own w7 w.heap.size w7.heap.size (.slice ua un uc) (.slice ub um ud) (ss, J.take (k + 1)) by rw [hs2]; exact hO2)
      have hs7 : w1.heap.size < w7.heap.size := by omega
      have HJ7 := Lib.hid hJ2
      have HL7 := Lib.hid hL2
      have HD7 := Lib.hid hD3
      have HB7 := Lib.hid hB2
      clear hO2 hJ2 hL2 hD3 hB2 hs2
      go_wp2
      go_roundw
      case rel => exact ⟨k + 1, _, _, by omega, by go_num, HD7.out, HO7.out, HJ7.out, HL7.out, HB7.out, hs7⟩
      case measure => simp [intOf]; omega
    · have hkM : k = M := by omega
      replace HD := Lib.hid (show Dk.Own wr w.heap.size wr.heap.size (.slice va vn vc) (.slice vb vm vd) (ss, J) by
        have := HD.out
        rwa [List.take_of_length_le (by rw [← HM.out]; omega)] at this)
      clear hkM
      have hss : ss.length = 73 := HFF.out.1
      have HSS := Lib.hid hss
      clear hss
      have hd : Strs.total (Wr.datas l) ≤ 1048576 := total_of HBS.out
      have HTD := Lib.hid hd
      clear hd
      have HWC := Lib.hid (write_commit HBS.out)
      rw [← HJJ.out] at HWC
      have h32 : (Txn.commitV 9 l).size ≤ 1073741824 := by have h9 := HBS.out.cm32 (q := 9) (by decide); rw [show ((9 : Nat) : Int) = 9 from rfl] at h9; omega
      have HRJ := Lib.hid (read_facts HBS.out)
      rw [← HJJ.out] at HRJ
      generalize hCV : Txn.commitV 9 l = CV at HWC h32 HRJ
      have HCV := Lib.hid hCV
      clear hCV
      have hJM : J.length ≤ 1073741824 := by rw [← HM.out]; omega
      have HJM := Lib.hid hJM
      clear hJM
      go_wp2
      go_region_held3 (fun w' => w'.cell? ⟨w1.heap.size, 0, none⟩ = some (.slice va vn vc) ∧ w'.cell? ⟨w1.heap.size, 1, none⟩ = some (.slice vb vm vd)) (first | exact ⟨hk0, hk1⟩ | go_keep) (first | (go_at_call 25; have HZ0 := Dk.Box.four BZ.out; clear HZ0; refine (WriteS.impl_any _ _ _ (ss, J) 1 CV (by show ss.length ≤ _; rw [HSS.out]; omega) HJM.out h32 HD.out.holds).mono ?_; rintro e w6 ⟨_, _, rfl, hown, hb⟩; rw [HWC.out] at hown ⊢; dsimp only at hown; obtain ⟨⟨ua, un, uc, rfl⟩, ⟨ub, um, ud, rfl⟩⟩ := hown.forms; have s6 := hb.size; replace HB := Lib.hid (HB.out.trans (hb.mono HB.out.size)); replace HL := Lib.hid (Strs.own_below HL.out hb); replace BT := Lib.hid (Dk.Box.below BT.out hb); replace BZ := Lib.hid (Dk.Box.below BZ.out hb); have HE := Lib.hid hown; clear hb hown; obtain ⟨f0, f1, f2, f3⟩ := Dk.Box.four BT.out; obtain ⟨g0, g1, g2, g3⟩ := Dk.Box.four BZ.out; have hk0 : ((w6.setCell ⟨wr.heap.size, 0, none⟩ (.slice ua un uc)).setCell ⟨wr.heap.size, 1, none⟩ (.slice ub um ud)).cell? ⟨w1.heap.size, 0, none⟩ = some (.slice va vn vc) := (by rw [World.cell?_setCell_far _ _ _ _ (show wr.heap.size ≠ w1.heap.size by omega), World.cell?_setCell_far _ _ _ _ (show wr.heap.size ≠ w1.heap.size by omega)]; exact (Dk.Box.cells BT.out).1); have hk1 : ((w6.setCell ⟨wr.heap.size, 0, none⟩ (.slice ua un uc)).setCell ⟨wr.heap.size, 1, none⟩ (.slice ub um ud)).cell? ⟨w1.heap.size, 1, none⟩ = some (.slice vb vm vd) := (by rw [World.cell?_setCell_far _ _ _ _ (show wr.heap.size ≠ w1.heap.size by omega), World.cell?_setCell_far _ _ _ _ (show wr.heap.size ≠ w1.heap.size by omega)]; exact (Dk.Box.cells BT.out).2)) | (go_at_call 26; refine (Commit.impl_any _ _ 9 l (by rw [← HN.out]; omega) HTD.out (Wr.holds_of_own (show wr.drew.ownsRow _ _ _ _ _ _ from HL.out))).mono ?_; rintro e w5 ⟨rfl, hb⟩; rw [HCV.out]; have s5 := hb.size; simp only [World.size_drew] at s5; replace HB := Lib.hid (HB.out.drew.trans (hb.mono HB.out.drew.size)); replace BT := Lib.hid (Dk.Box.below (show Dk.Box wr.drew _ _ _ _ from BT.out) hb); replace HD := Lib.hid ((Dk.Own.below (show Dk.Own wr.drew _ _ _ _ _ from HD.out) hb).wide (Nat.le_refl _) hb.size); replace HL := Lib.hid (Strs.own_below (show wr.drew.ownsRow _ _ _ _ _ _ from HL.out) hb); clear hb; obtain ⟨d0, d1, d2, d3⟩ := Dk.Box.four BT.out) | (go_at_call 25; refine (WriteS.impl_any _ _ _ (ss, J) 1 CV (by show ss.length ≤ _; rw [HSS.out]; omega) HJM.out h32 HD.out.holds).mono ?_; rintro e w6 ⟨_, _, rfl, hown, hb⟩; rw [HWC.out] at hown ⊢; dsimp only at hown; obtain ⟨⟨ua, un, uc, rfl⟩, ⟨ub, um, ud, rfl⟩⟩ := hown.forms; have s6 := hb.size; replace HB := Lib.hid (HB.out.trans (hb.mono HB.out.size)); replace HL := Lib.hid (Strs.own_below HL.out hb); replace BT := Lib.hid (Dk.Box.below BT.out hb); have HE := Lib.hid hown; clear hb hown; obtain ⟨f0, f1, f2, f3⟩ := Dk.Box.four BT.out) | (go_at_call 25; have hb := Joins.below_alloc1 w5 (.cells #[.slice none 0 0, .slice none 0 0] 26); replace HB := Lib.hid (HB.out.trans (hb.mono HB.out.size)); replace BT := Lib.hid (Dk.Box.below BT.out hb); replace HD := Lib.hid (Dk.Own.below HD.out hb); replace HL := Lib.hid (Strs.own_below HL.out hb); have BZ := Lib.hid (show Dk.Box (w5.alloc (.cells #[.slice none 0 0, .slice none 0 0] 26)) w5.heap.size (.slice none 0 0) (.slice none 0 0) 26 from Dk.blk_new w5 _); clear hb; refine (WriteS.impl_any _ _ _ (ss, J) 1 CV (by show ss.length ≤ _; rw [HSS.out]; omega) HJM.out h32 HD.out.holds).mono ?_; rintro e w6 ⟨_, _, rfl, hown, hb⟩; rw [HWC.out] at hown ⊢; dsimp only at hown; obtain ⟨⟨ua, un, uc, rfl⟩, ⟨ub, um, ud, rfl⟩⟩ := hown.forms; have s6 := hb.size; simp only [World.size_alloc] at s6; replace HB := Lib.hid (HB.out.trans (hb.mono HB.out.size)); replace HL := Lib.hid (Strs.own_below HL.out hb); replace BT := Lib.hid (Dk.Box.below BT.out hb); replace BZ := Lib.hid (Dk.Box.below BZ.out hb); have HE := Lib.hid hown; clear hb hown; obtain ⟨f0, f1, f2, f3⟩ := Dk.Box.four BT.out; obtain ⟨g0, g1, g2, g3⟩ := Dk.Box.four BZ.out; have hk0 : ((w6.setCell ⟨w5.heap.size, 0, none⟩ (.slice ua un uc)).setCell ⟨w5.heap.size, 1, none⟩ (.slice ub um ud)).cell? ⟨w1.heap.size, 0, none⟩ = some (.slice va vn vc) := (by rw [World.cell?_setCell_far _ _ _ _ (show w5.heap.size ≠ w1.heap.size by omega), World.cell?_setCell_far _ _ _ _ (show w5.heap.size ≠ w1.heap.size by omega)]; exact (Dk.Box.cells BT.out).1); have hk1 : ((w6.setCell ⟨w5.heap.size, 0, none⟩ (.slice ua un uc)).setCell ⟨w5.heap.size, 1, none⟩ (.slice ub um ud)).cell? ⟨w1.heap.size, 1, none⟩ = some (.slice vb vm vd) := (by rw [World.cell?_setCell_far _ _ _ _ (show w5.heap.size ≠ w1.heap.size by omega), World.cell?_setCell_far _ _ _ _ (show w5.heap.size ≠ w1.heap.size by omega)]; exact (Dk.Box.cells BT.out).2)) | (go_at_call 26; have hb0 := Joins.below_alloc1 wr.drew (.cells #[.slice none 0 0, .slice none 0 0] 26); have HB0 := Lib.hid (HB.out.drew.trans (hb0.mono HB.out.drew.size)); have BT0 := Lib.hid (Dk.Box.below (show Dk.Box wr.drew _ _ _ _ from BT.out) hb0); have HD0 := Lib.hid (Dk.Own.below (show Dk.Own wr.drew _ _ _ _ _ from HD.out) hb0); have HL0 := Lib.hid (Strs.own_below (show wr.drew.ownsRow _ _ _ _ _ _ from HL.out) hb0); have BZ := Lib.hid (show Dk.Box (wr.drew.alloc (.cells #[.slice none 0 0, .slice none 0 0] 26)) wr.heap.size (.slice none 0 0) (.slice none 0 0) 26 from Dk.blk_new wr.drew _); clear hb0; refine (Commit.impl_any _ _ 9 l (by rw [← HN.out]; omega) HTD.out (Wr.holds_of_own HL0.out)).mono ?_; rintro e w5 ⟨rfl, hb⟩; rw [HCV.out]; have s5 := hb.size; simp only [World.size_alloc, World.size_drew] at s5; replace HB := Lib.hid (HB0.out.trans (hb.mono HB0.out.size)); replace BT := Lib.hid (Dk.Box.below BT0.out hb); replace HD := Lib.hid ((Dk.Own.below HD0.out hb).wide (Nat.le_refl _) (show wr.heap.size ≤ w5.heap.size by omega)); replace HL := Lib.hid (Strs.own_below HL0.out hb); replace BZ := Lib.hid (Dk.Box.below BZ.out hb); clear hb HB0 BT0 HD0 HL0; obtain ⟨d0, d1, d2, d3⟩ := Dk.Box.four BT.out; obtain ⟨e0, e1, e2, e3⟩ := Dk.Box.four BZ.out))
      all_goals
        clear b0 b1 b2 b3
        first
        | (clear e0 e1 e2 e3 g0 g1 g2 g3 hk0 hk1
           have hI := Dk.Own.into HE.out BZ.out
           have hL2 := Dk.row_set (i := 1) (u := .slice ub um ud) (Dk.row_set (i := 0) (u := .slice ua un uc) HL.out BZ.out (by decide)) (Dk.Box.set0 (u := .slice ua un uc) BZ.out) (by decide)
           have hB2 := Dk.below_into (b := wr.heap.size) HB.out (by omega) (.slice ua un uc) (.slice ub um ud)
           generalize (w6.setCell ⟨wr.heap.size, 0, none⟩ (.slice ua un uc)).setCell ⟨wr.heap.size, 1, none⟩ (.slice ub um ud) = w7 at hI hL2 hB2 ⊢
           replace HE := Lib.hid hI.1
           have BE := Lib.hid hI.2.1
           replace HL := Lib.hid hL2
           replace HB := Lib.hid hB2
           clear hI hL2 hB2
           obtain ⟨y0, y1⟩ := Dk.Box.cells BE.out
           go_wp2_with fail)
        | (clear g0 g1 g2 g3 hk0 hk1
           have hI := Dk.Own.into HE.out BZ.out
           have hL2 := Dk.row_set (i := 1) (u := .slice ub um ud) (Dk.row_set (i := 0) (u := .slice ua un uc) HL.out BZ.out (by decide)) (Dk.Box.set0 (u := .slice ua un uc) BZ.out) (by decide)
           have hB2 := Dk.below_into (b := w5.heap.size) HB.out (by omega) (.slice ua un uc) (.slice ub um ud)
           generalize (w6.setCell ⟨w5.heap.size, 0, none⟩ (.slice ua un uc)).setCell ⟨w5.heap.size, 1, none⟩ (.slice ub um ud) = w7 at hI hL2 hB2 ⊢
           replace HE := Lib.hid hI.1
           have BE := Lib.hid hI.2.1
           replace HL := Lib.hid hL2
           replace HB := Lib.hid hB2
           clear hI hL2 hB2
           obtain ⟨y0, y1⟩ := Dk.Box.cells BE.out
           go_wp2_with fail)
        | (have hb := Joins.below_alloc1 w6 (.cells #[.slice ua un uc, .slice ub um ud] 26)
           replace HB := Lib.hid (HB.out.trans (hb.mono HB.out.size))
           replace HL := Lib.hid (Strs.own_below HL.out hb)
           replace HE := Lib.hid (Dk.Own.below HE.out hb)
           have BE := Lib.hid (show Dk.Box (w6.alloc (.cells #[.slice ua un uc, .slice ub um ud] 26)) w6.heap.size (.slice ua un uc) (.slice ub um ud) 26 from Dk.blk_new w6 _)
           clear hb
           obtain ⟨y0, y1⟩ := Dk.Box.cells BE.out
           go_wp2_with fail
           generalize w6.alloc (.cells #[.slice ua un uc, .slice ub um ud] 26) = w7 at HB HL HE BE y0 y1 ⊢)
        refine (ReadJ.impl_any w7 _ _ (ss, J ++ [(1, CV)]) (by show ss.length ≤ _; rw [HSS.out]; omega) (by show (J ++ [_]).length ≤ _; rw [List.length_append]; have := HJM.out; have := HM.out; simp; omega) HE.out.holds).mono ?_
        rintro e w8 ⟨v, rfl, hown, hb⟩
        rw [HRJ.out.2.1, HRJ.out.2.2]
        rw [HRJ.out.1] at hown
        rw [← HN.out] at hown
        replace HB := Lib.hid (HB.out.trans (hb.mono HB.out.size))
        replace HL := Lib.hid (Strs.own_below HL.out hb)
        have HR := Lib.hid hown
        obtain ⟨ra, rc, rfl⟩ := Dk.slice_of hown
        clear hb hown y0 y1
        go_wp2
        go_loopw [75] (fun iv wx => ∃ k : Nat, k ≤ N ∧ iv = .int .i64 k ∧ Below w8.heap.size w8 wx) (fun iv _ => N - (intOf iv).toNat)
        case atStart => exact ⟨0, Nat.zero_le _, rfl, Below.refl _ _⟩
        case round =>
          obtain ⟨i, hi, rfl, hbel⟩ := hrel
          have HBE := Lib.hid hbel
          have hsz := hbel.size
          clear hbel
          by_cases hlt2 : i < N
          · have hlx : i < l.length := by rw [← HN.out]; exact hlt2
            obtain ⟨aa, ap, he, hat⟩ := Dk.atW (Wr.holds_of_own (Strs.own_below HL.out HBE.out))
            have e1 : la = aa := (show la = aa ∧ N = l.length ∧ lc = ap by simpa using he).1
            subst e1
            obtain ⟨bw, ow, rfl, hbw, hc1, hc2⟩ := hat i hlx
            obtain ⟨ab, bp, he2, hat2⟩ := Dk.atW (Wr.holds_of_own (Strs.own_below HR.out HBE.out))
            have e2 : ra = ab := (show ra = ab ∧ N = l.length ∧ rc = bp by simpa using he2).1
            subst e2
            obtain ⟨bv, ov, rfl, hbv, hd1, hd2⟩ := hat2 i hlx
            clear he he2 hat hat2
            generalize l.getD i Wr.d0 = x at hc1 hc2 hd1 hd2
            have hb := Joins.below_alloc1 wr (.cells #[.int .i64 x.1, .string x.2] 39)
            have HBX := Lib.hid (HBE.out.trans (hb.mono HBE.out.size))
            obtain ⟨z0, z1⟩ := Dk.Box.cells (show Dk.Box (wr.alloc (.cells #[.int .i64 x.1, .string x.2] 39)) wr.heap.size (.int .i64 x.1) (.string x.2) 39 from Dk.blk_new wr _)
            have hd1' := hd1
            have hd2' := hd2
            rw [← hb.cell (p := ⟨bv, _, none⟩) hbv] at hd1' hd2'
            have hnq := Same.neq_wr x x
            simp only [decide_true, Bool.not_true] at hnq
            clear hb
            go_wp2
            generalize wr.alloc (.cells #[.int .i64 x.1, .string x.2] 39) = wa at HBX z0 z1 hd1' hd2' ⊢
            go_quiet (fail)
            go_wp2
            go_roundw
            case rel => exact ⟨i + 1, by omega, by go_num, SplitAny.below_drewN HBX.out _⟩
            case measure => simp [intOf]; omega
          · go_wp2
            go_ret
            exact ⟨rfl, HB.out.trans (HBE.out.mono HB.out.size)⟩


theorem law_big (a0 : Option Addr) (len0 cap0 : Nat) (w : World) (h : 1048576 < len0) :
    Calls Try.prog 4 #[.slice a0 len0 cap0] w fun e w' => e = .returned (.bool true) ∧ Below w.heap.size w w' := by
  have h2 : (1048576 : Int) < (len0 : Int) := by omega
  go_enter Try.func4, Try.ntmps4
  go_wp2_with fail
  go_ret
  exact ⟨rfl, Below.refl _ _⟩

set_option maxRecDepth 100000 in
theorem lifted (os : Os) (started : os.Started) (H : Type) (enc : TypeId × Value → H) :
    ReturnsInHanded {} Try.checked os 4 .any (Rows.fnCommitSpec.pre6 enc Try.prog Try.f4 Rows.fnCommitRow.domain false) (Rows.fnCommitSpec.post enc Try.prog Try.f4 false true false false) := by
  refine returnsInHanded_of_change (C := Try.checked) Kit.own started (by kernel_rfl) Try.func4
    (ChangeSpec.witness6 (enc := enc) (C := Try.checked) false ⟨#[], #[.slice none 0 0], []⟩ 8 (by kernel_rfl) (by kernel_rfl) (by kernel_rfl) (by kernel_rfl)) ?_
  intro W base args ds gs before hval0 hW hcnd _
  have hval : ∀ (j : Nat) t v, Try.f4.params[j]? = some t → args[j]? = some v → Value.okWide Try.prog W .any base t v := hval0
  have hW' := hW
  obtain ⟨p, q, hA0, hV, rfl, hfz, hnd⟩ := hW
  have hA : DataW.TrodAll enc Try.prog W 0 (fun _ => true) true Try.f4.params.toList args.toList ds p := hA0
  rw [Try.params4] at hA hval
  obtain ⟨v0, d0, rfl, rfl, h0⟩ := trodAll_one hA
  obtain ⟨a0, len0, cap0, rfl⟩ := okWide_slice Try.underlying22 (hval 0 22 v0 rfl rfl)
  have hlaw : Calls Try.prog 4 #[.slice a0 len0 cap0] W fun e w' => e = .returned (.bool true) ∧ Below W.heap.size W w' := by
    by_cases hbig : 1048576 < len0
    · exact law_big _ _ _ W hbig
    · obtain ⟨ns, hns, hcode⟩ := Cur.open_code h0 (by omega)
      exact law_any _ ns W hcode
  refine hlaw.mono fun e W' ⟨he, hb⟩ => ?_
  subst he
  exact ⟨_, rfl, Kit.law_post Kit.laidOut (by kernel_rfl) Try.underlying4 rfl rfl (fun H ds hl => by match ds, hl with | [d0], _ => rfl) hW' hb⟩

theorem holds : Rows.FnCommitSaid :=
  OpenClaim.holds_of_wide 4 Try.f4 rfl rfl rfl rfl rfl rfl rfl ⟨rfl, rfl, rfl, rfl, rfl⟩ rfl rfl rfl rfl rfl (by kernel_rfl) Try.func4 (by kernel_rfl)
    (of_decide_eq_true (by kernel_rfl)) (by unfold Func.isWrapper; first | (rw [if_pos (by decide +kernel)]; kernel_rfl) | (rw [if_neg (by decide +kernel)]; exact ⟨rfl, rfl⟩))
    (fun os started H enc _ => lifted os started H enc)
#print axioms holds
end Go.Proofs.Ytgapjdkelkmdgaa.FnCommit
