/- Proved: for every drawn code, the law FnJournal returns true and leaves its argument as it was: after a crash at any step of a transaction, recovery yields all of its writes or none, and the journal is free. No condition beyond the row's own. -/
import Derived.Test.YtgapjdkelkmdgaaDrawBase
import Derived.Test.YtgapjdkelkmdgaaRec
namespace Go.Proofs.Ytgapjdkelkmdgaa.FnJournal
open Go.ChangeShapes Go.WideShapes Go.ChangeAt Go.RowKit
open Go.ChangeMaps (open_string shut_string)
open Dk (D Holds Ok In Own cost costOf cost_pos cost_neg cost_len sz_any to_any eq_any mark_all held_all)
open Cur (CodeIn)
open JFThree (base_of total_of own_lens steps_len steps_sz txn_ok journal_facts want_succ)
set_option linter.unusedVariables false

set_option maxRecDepth 100000 in
set_option maxHeartbeats 16000000 in
theorem law_any (cv : Value) (ns : List Nat) (w : World) (hc : CodeIn w w.heap.size cv ns) :
    Calls Try.prog 3 #[cv] w fun e w' => e = .returned (.bool true) ∧ Below w.heap.size w w' := by
  have HCD := Lib.hid hc
  have hlen := hc.choose_spec.choose_spec.2.1
  obtain ⟨a, cap, rfl⟩ : ∃ a cap, cv = .slice a ns.length cap := ⟨_, _, hc.choose_spec.choose_spec.1⟩
  clear hc
  have hl2 : ¬ (1048576 : Int) < (ns.length : Int) := by omega
  go_enter Try.func3, Try.ntmps3
  have HB := Lib.hid (Below.refl w.heap.size w)
  go_wp2_with fail
  refine (JDraw.makeDisk_any _ _ ns HCD.out).mono ?_
  rintro e w1 ⟨_, _, ss, rfl, hf, hown, hb⟩
  have s1 := hb.size
  obtain ⟨⟨ta, tn, tc, rfl⟩, ⟨tb, tm, td, rfl⟩⟩ := hown.forms
  have HD := Lib.hid hown
  clear hown
  replace HB := Lib.hid (HB.out.trans (hb.mono HB.out.size))
  clear hb
  have HFF := Lib.hid hf
  obtain ⟨e1, e2⟩ := own_lens HD.out
  rw [show ((ss, []) : D).1.length = 73 from hf.1] at e1
  rw [show ((ss, []) : D).2.length = 0 from rfl] at e2
  subst e1
  subst e2
  clear hf
  have hb := Joins.below_alloc1 w1 (.cells #[.slice ta 73 tc, .slice tb 0 td] 26)
  replace HB := Lib.hid (HB.out.trans (hb.mono HB.out.size))
  replace HD := Lib.hid (HD.out.below hb)
  have BT := Lib.hid (show Dk.Box (w1.alloc (.cells #[.slice ta 73 tc, .slice tb 0 td] 26)) (w1.heap.size) _ _ 26 from Dk.blk_new w1 (.cells #[.slice ta 73 tc, .slice tb 0 td] 26))
  clear hb
  obtain ⟨vBT0, vBT1⟩ := BT.out.cells
  go_wp2_with fail
  refine (JDraw.makeTxn_any _ _ ns (Draw.code_at HCD.out HB.out)).mono ?_
  rintro e w2 ⟨lv, l, rfl, hp, hown, hb⟩
  have s2 := hb.size
  simp only [World.size_alloc] at s2
  clear vBT0 vBT1
  have HL := Lib.hid (Dk.RowIn.fresh hown)
  clear hown
  replace HB := Lib.hid (HB.out.trans (hb.mono HB.out.size))
  replace BT := Lib.hid (BT.out.below hb)
  replace HD := Lib.hid (HD.out.below hb)
  clear hb
  have HBS := Lib.hid (base_of HFF.out hp)
  clear hp
  obtain ⟨N, hN⟩ : ∃ N, N = l.length := ⟨_, rfl⟩
  have hN4 : N ≤ 64 := by rw [hN]; exact HBS.out.l2
  rw [← hN] at HL
  have HN := Lib.hid hN
  clear hN
  obtain ⟨la, lc, rfl⟩ := Dk.slice_of HL.out.1
  have HTD := Lib.hid (total_of HBS.out)
  have HL73 := Lib.hid (show ss.length = 73 from HFF.out.1)
  obtain ⟨vBT0, vBT1⟩ := BT.out.cells
  go_wp2_with fail
  refine (Steps.impl_any _ _ 7 l (by rw [← HN.out]; omega) HTD.out (Wr.holds_of_own HL.out.1)).mono ?_
  rintro e w3 ⟨sv, rfl, hown, hb⟩
  have s3 := hb.size
  clear vBT0 vBT1
  have HS := Lib.hid (Dk.RowIn.fresh hown)
  clear hown
  replace HB := Lib.hid (HB.out.trans (hb.mono HB.out.size))
  replace BT := Lib.hid (BT.out.below hb)
  replace HD := Lib.hid (HD.out.below hb)
  replace HL := Lib.hid (HL.out.below hb)
  clear hb
  have HSL := Lib.hid (steps_len HBS.out)
  have HSZ := Lib.hid (steps_sz HBS.out)
  have HJF := Lib.hid (fun k bs => journal_facts HBS.out k bs)
  obtain ⟨S, hS⟩ : ∃ S, S = Txn.stepsV 7 l := ⟨_, rfl⟩
  rw [← hS] at HS HSL HSZ HJF
  clear hS
  obtain ⟨M, hM⟩ : ∃ M, M = S.length := ⟨_, rfl⟩
  have hM1 : 1 ≤ M := by rw [hM]; exact HSL.out.1
  have hM2 : M ≤ 200 := by rw [hM]; exact HSL.out.2
  rw [← hM] at HS HJF
  have HM := Lib.hid hM
  clear hM
  obtain ⟨sa, sc, rfl⟩ := Dk.slice_of HS.out.1
  have hme : ((M : Int) == 0) = false := by simp; omega
  have HOKY := Lib.hid (show decide (Txn.Okay (ss, []) l) = true from decide_eq_true (txn_ok HBS.out))
  obtain ⟨vBT0, vBT1⟩ := BT.out.cells
  go_wp2_with fail
  refine (IsTxn.impl_any _ (.slice ta 73 tc) (.slice tb 0 td) (.slice la N lc) (ss, []) l (by show ss.length ≤ _; rw [HL73.out]; omega) (by show (0 : Nat) ≤ _; omega) (by rw [← HN.out]; omega) HD.out.holds (Wr.holds_of_own HL.out.1)).mono ?_
  rintro e w4 ⟨rfl, hb⟩
  have s4 := hb.size
  clear vBT0 vBT1
  replace HB := Lib.hid (HB.out.trans (hb.mono HB.out.size))
  replace BT := Lib.hid (BT.out.below hb)
  replace HD := Lib.hid (HD.out.below hb)
  replace HL := Lib.hid (HL.out.below hb)
  replace HS := Lib.hid (HS.out.below hb)
  clear hb
  rw [HOKY.out]
  obtain ⟨vBT0, vBT1⟩ := BT.out.cells
  go_wp2_with fail
  refine (Make.num_any _ _ ns 3 (by omega) (Draw.code_at HCD.out HB.out)).mono ?_
  rintro e w5 ⟨nm, hnm, rfl, hb⟩
  have s5 := hb.size
  clear vBT0 vBT1
  replace HB := Lib.hid (HB.out.trans (hb.mono HB.out.size))
  replace BT := Lib.hid (BT.out.below hb)
  replace HD := Lib.hid (HD.out.below hb)
  replace HL := Lib.hid (HL.out.below hb)
  replace HS := Lib.hid (HS.out.below hb)
  clear hb
  obtain ⟨vBT0, vBT1⟩ := BT.out.cells
  have hrem : (nm : Int) % ((M : Int) + 1) = ((nm % (M + 1) : Nat) : Int) := by simp
  have hrem2 : (nm : Int).tmod ((M : Int) + 1) = ((nm % (M + 1) : Nat) : Int) := by rw [Int.tmod_eq_emod_of_nonneg (by omega)]; simp
  have hkM : nm % (M + 1) < M + 1 := Nat.mod_lt _ (by omega)
  have HREM := Lib.hid hrem
  obtain ⟨kk, hkk⟩ : ∃ k, k = nm % (M + 1) := ⟨_, rfl⟩
  rw [← hkk] at hrem hrem2 hkM HREM
  clear hkk hrem2
  go_wp2_with fail
  try rw [HREM.out]
  clear hrem
  go_wp2_with fail
  refine (Run.impl_own _ (.slice ta 73 tc) (.slice tb 0 td) _ (ss, []) S (kk : Int) _ _ (by show ss.length ≤ _; rw [HL73.out]; omega) (by show (0 : Nat) ≤ _; omega) (by rw [← HM.out]; omega) HSZ.out HD.out.holds HS.out.1).mono ?_
  rintro e w6 ⟨_, _, rfl, hown, hb⟩
  have s6 := hb.size
  clear vBT0 vBT1
  obtain ⟨⟨xa, xn, xc, rfl⟩, ⟨xb, xm, xd, rfl⟩⟩ := hown.forms
  have HX := Lib.hid hown
  clear hown
  replace HB := Lib.hid (HB.out.trans (hb.mono HB.out.size))
  replace BT := Lib.hid (BT.out.below hb)
  replace HD := Lib.hid (HD.out.below hb)
  replace HL := Lib.hid (HL.out.below hb)
  replace HS := Lib.hid (HS.out.below hb)
  clear hb
  obtain ⟨X, hX⟩ : ∃ X, X = Txn.runV (ss, []) S (kk : Int) := ⟨_, rfl⟩
  have hlx := Run.run_len (ss, []) (S.take ((kk : Int)).toNat)
  have hX1 : X.1.length = 73 := by rw [hX]; exact hlx.1.trans HL73.out
  have hX2 : X.2.length ≤ 400 := by rw [hX]; exact Nat.le_trans hlx.2 (show max 0 400 ≤ 400 by decide)
  rw [← hX] at HX
  have HXX := Lib.hid hX
  have HX1 := Lib.hid hX1
  clear hlx hX hX1
  obtain ⟨vBT0, vBT1⟩ := BT.out.cells
  go_wp2_with fail
  refine (JDraw.makeKeep_any _ _ ns 30 (by omega) (Draw.code_at HCD.out HB.out)).mono ?_
  rintro e w7 ⟨kv, bs, rfl, hbl, hown, hb⟩
  have s7 := hb.size
  clear vBT0 vBT1
  have HKP := Lib.hid (Dk.RowIn.fresh hown)
  clear hown
  replace HB := Lib.hid (HB.out.trans (hb.mono HB.out.size))
  replace BT := Lib.hid (BT.out.below hb)
  replace HD := Lib.hid (HD.out.below hb)
  replace HL := Lib.hid (HL.out.below hb)
  replace HS := Lib.hid (HS.out.below hb)
  replace HX := Lib.hid (HX.out.below hb)
  clear hb
  obtain ⟨vBT0, vBT1⟩ := BT.out.cells
  go_wp2_with fail
  refine (Flush.impl_keep _ (.slice xa xn xc) (.slice xb xm xd) bs kv X (by rw [HX1.out]; omega) (by omega) (by omega) (Bl.holds_of_own HKP.out.1) HX.out.holds).mono ?_
  rintro e w8 ⟨_, _, rfl, hown, hb⟩
  have s8 := hb.size
  clear vBT0 vBT1
  obtain ⟨⟨ca, cn, cc, rfl⟩, ⟨cb, cm, cd, rfl⟩⟩ := hown.forms
  have HCR := Lib.hid hown
  clear hown
  replace HB := Lib.hid (HB.out.trans (hb.mono HB.out.size))
  replace BT := Lib.hid (BT.out.below hb)
  replace HD := Lib.hid (HD.out.below hb)
  replace HL := Lib.hid (HL.out.below hb)
  replace HS := Lib.hid (HS.out.below hb)
  replace HX := Lib.hid (HX.out.below hb)
  replace HKP := Lib.hid (HKP.out.below hb)
  clear hb
  obtain ⟨Y, hY⟩ : ∃ Y, Y = Store.storeV (Store.keepP bs) X := ⟨_, rfl⟩
  have hly := FlushLaw.store_len (Store.keepP bs) X
  have hY1 : Y.1.length ≤ 1073741824 := by rw [hY, hly.1, HX1.out]; omega
  have hY2 : Y.2.length ≤ 1073741824 := by rw [hY]; have := hly.2; omega
  rw [← hY] at HCR
  have HYY := Lib.hid hY
  clear hly hY
  obtain ⟨vBT0, vBT1⟩ := BT.out.cells
  go_wp2_with fail
  refine (Rec.implD_any _ (.slice ca cn cc) (.slice cb cm cd) Y hY1 hY2 HCR.out.holds).mono ?_
  rintro e w9 ⟨_, _, rfl, hown, hb⟩
  have s9 := hb.size
  clear vBT0 vBT1
  obtain ⟨⟨ra, rn, rc, rfl⟩, ⟨rb, rm, rd, rfl⟩⟩ := hown.forms
  have HR := Lib.hid hown
  clear hown
  replace HB := Lib.hid (HB.out.trans (hb.mono HB.out.size))
  replace BT := Lib.hid (BT.out.below hb)
  replace HD := Lib.hid (HD.out.below hb)
  replace HL := Lib.hid (HL.out.below hb)
  replace HS := Lib.hid (HS.out.below hb)
  replace HX := Lib.hid (HX.out.below hb)
  replace HKP := Lib.hid (HKP.out.below hb)
  replace HCR := Lib.hid (HCR.out.below hb)
  clear hb
  obtain ⟨rs, hr1, hr2, hr3, hr4, hr5⟩ := HJF.out kk bs
  rw [← HXX.out, ← HYY.out] at hr1
  rw [hr1] at HR
  obtain ⟨PO, hPO⟩ : ∃ P, P = JFThree.PO ss rs := ⟨_, rfl⟩
  obtain ⟨PA, hPA⟩ : ∃ P, P = JFThree.PA ss l rs := ⟨_, rfl⟩
  have HPO := Lib.hid (show PO → ∀ i : Nat, JF.Out 73 i → ReadS.readF (rs, []) (i : Int) = ss.getD i ⟨#[]⟩ from fun h => by rw [hPO] at h; exact h)
  have HPA := Lib.hid (show PA → ∀ i : Nat, JF.Out 73 i → ReadS.readF (rs, []) (i : Int) = JF.wantF (ss.getD i ⟨#[]⟩) l i from fun h => by rw [hPA] at h; exact h)
  have HFIN := Lib.hid (show PA ∨ (PO ∧ kk < M) from by
    rw [hPO, hPA]
    rcases Nat.lt_or_ge kk M with hk | hk
    · exact hr4.elim (fun h => .inr ⟨h, hk⟩) .inl
    · exact .inl (hr5 hk))
  have HRL := Lib.hid hr2
  have HNB := Lib.hid hr3
  clear hr1 hr2 hr3 hr4 hr5 hPO hPA
  obtain ⟨vBT0, vBT1⟩ := BT.out.cells
  clear HX HKP HCR HS
  clear vBT0 vBT1
  have hb := Joins.below_alloc1 w9 (.cells #[.slice ra rn rc, .slice rb rm rd] 26)
  replace HB := Lib.hid (HB.out.trans (hb.mono HB.out.size))
  replace BT := Lib.hid (BT.out.below hb)
  replace HD := Lib.hid (HD.out.below hb)
  replace HL := Lib.hid (HL.out.below hb)
  replace HR := Lib.hid (HR.out.below hb)
  have BR := Lib.hid (show Dk.Box (w9.alloc (.cells #[.slice ra rn rc, .slice rb rm rd] 26)) (w9.heap.size) _ _ 26 from Dk.blk_new w9 (.cells #[.slice ra rn rc, .slice rb rm rd] 26))
  clear hb
  obtain ⟨vBT0, vBT1⟩ := BT.out.cells
  obtain ⟨vBR0, vBR1⟩ := BR.out.cells
  clear hme
  go_wp2_with fail
  clear vBT0 vBT1 vBR0 vBR1
  have hsz0 : w9.heap.size < ((w9.alloc (.cells #[.slice ra rn rc, .slice rb rm rd] 26))).heap.size := Dk.Box.lt BR.out
  generalize (w9.alloc (.cells #[.slice ra rn rc, .slice rb rm rd] 26)) = wL at HB BT BR HD HL HR hsz0 ⊢
  go_loopw [8, 9, 52] (fun ov av iv wx => ∃ (i : Nat) (ob ab : Bool), i ≤ 73 ∧ iv = .int .i64 i ∧ ov = .bool ob ∧ av = .bool ab ∧ (PO → ob = true) ∧ (PA → ab = true) ∧ Below wL.heap.size wL wx) (fun _ _ iv _ => 73 - (intOf iv).toNat)
  case atStart => exact ⟨0, true, true, Nat.zero_le _, rfl, rfl, rfl, fun _ => rfl, fun _ => rfl, Below.refl _ _⟩
  case round =>
    obtain ⟨i, ob, ab, hi, rfl, rfl, rfl, hpo, hpa, hbel⟩ := hrel
    have HBE := Lib.hid hbel
    have HO := Lib.hid hpo
    have HAA := Lib.hid hpa
    have hsz := hbel.size
    clear hbel hpo hpa
    have BT1 := Lib.hid (Dk.Box.below BT.out HBE.out)
    have BR1 := Lib.hid (Dk.Box.below BR.out HBE.out)
    obtain ⟨t0, t1⟩ := Dk.Box.cells BT1.out
    obtain ⟨r0, r1⟩ := Dk.Box.cells BR1.out
    by_cases hlt : i < 73
    · by_cases h1 : 1 ≤ i
      · by_cases h70 : i < 70
        · go_wp2
          go_roundw
          case rel => exact ⟨i + 1, ob, ab, by omega, by go_num, rfl, rfl, HO.out, HAA.out, HBE.out⟩
          case measure => simp [intOf]; omega
        · have hout : JF.Out 73 i := ⟨hlt, by omega⟩
          have HRI := Lib.hid (fun h => HPO.out h i hout)
          have HWI := Lib.hid (fun h => HPA.out h i hout)
          obtain ⟨a0', c0', he0, hat0⟩ := Dk.atS (HD.out.below HBE.out).holds.1
          have e0 : ta = a0' := (show ta = a0' ∧ 73 = ss.length ∧ tc = c0' by simpa using he0).1
          subst e0
          obtain ⟨bs', os', rfl, hbs', hcs⟩ := hat0 i (by show i < ss.length; rw [HL73.out]; exact hlt)
          clear he0 hat0 hout
          obtain ⟨SV, hSV⟩ : ∃ v, v = ss.getD i ⟨#[]⟩ := ⟨_, rfl⟩
          rw [show ((ss, []) : D).1 = ss from rfl, ← hSV] at hcs
          rw [← hSV] at HRI HWI
          have HSVV := Lib.hid hSV.symm
          clear hSV
          go_wp2
          go_loopw [11, 68] (fun vv jv wx => ∃ (j : Nat) (v : ByteArray), j ≤ N ∧ jv = .int .i64 j ∧ vv = .string v ∧ v = JF.wantF SV (l.take j) i ∧ Below wL.heap.size wL wx) (fun _ jv _ => N - (intOf jv).toNat)
          case atStart => exact ⟨0, SV, Nat.zero_le _, rfl, rfl, rfl, HBE.out⟩
          case round =>
            clear HBE BT1 BR1 t0 t1 r0 r1 hcs hbs' hsz
            obtain ⟨j, v, hj, rfl, rfl, hv, hbel⟩ := hrel
            have HBE := Lib.hid hbel
            have HV := Lib.hid hv
            have hsz := hbel.size
            clear hbel hv
            by_cases hjl : j < N
            · have hlx : j < l.length := by rw [← HN.out]; exact hjl
              obtain ⟨aa, ap, he, hat⟩ := Dk.atW (Wr.holds_of_own (HL.out.below HBE.out).1)
              have e1 : la = aa := (show la = aa ∧ N = l.length ∧ lc = ap by simpa using he).1
              subst e1
              obtain ⟨bw, ow, rfl, hbw, hc1, hc2⟩ := hat j hlx
              clear he hat
              have HW := Lib.hid (want_succ SV l i j hlx)
              rw [← HV.out] at HW
              generalize l.getD j Wr.d0 = x at hc1 hc2 HW
              obtain ⟨z0, z1⟩ := Dk.Box.cells (show Dk.Box (wr.alloc (.cells #[.int .i64 x.1, .string x.2] 39)) wr.heap.size (.int .i64 x.1) (.string x.2) 39 from Dk.blk_new wr _)
              have HBX := Lib.hid (HBE.out.trans ((Joins.below_alloc1 wr (.cells #[.int .i64 x.1, .string x.2] 39)).mono hsz))
              by_cases hxi : x.1 = (i : Int)
              · have hq : (x.1 == (i : Int)) = true := by simpa using hxi
                have HW2 := Lib.hid (show x.2 = JF.wantF SV (l.take (j + 1)) i by rw [HW.out, if_pos hxi])
                clear hxi
                go_wp2
                go_roundw
                case rel => exact ⟨j + 1, x.2, by omega, by go_num, rfl, HW2.out, HBX.out⟩
                case measure => simp [intOf]; omega
              · have hq : (x.1 == (i : Int)) = false := by simpa using hxi
                have HW2 := Lib.hid (show v = JF.wantF SV (l.take (j + 1)) i by rw [HW.out, if_neg hxi])
                clear hxi
                go_wp2
                go_roundw
                case rel => exact ⟨j + 1, v, by omega, by go_num, rfl, HW2.out, HBX.out⟩
                case measure => simp [intOf]; omega
            · have HV2 := Lib.hid (show v = JF.wantF SV l i by rw [HV.out, List.take_of_length_le (by rw [← HN.out]; omega)])
              rw [← HV2.out] at HWI
              have BT1 := Lib.hid (Dk.Box.below BT.out HBE.out)
              have BR1 := Lib.hid (Dk.Box.below BR.out HBE.out)
              obtain ⟨t0, t1⟩ := Dk.Box.cells BT1.out
              obtain ⟨r0, r1⟩ := Dk.Box.cells BR1.out
              obtain ⟨aa, ap, he, hat⟩ := Dk.atS (HD.out.below HBE.out).holds.1
              have e1 : (some ⟨bs', os', none⟩ : Option Addr) = aa := (show (some ⟨bs', os', none⟩ : Option Addr) = aa ∧ 73 = ss.length ∧ tc = ap by simpa using he).1
              subst e1
              obtain ⟨bs2, os2, he2, hbs2, hcs⟩ := hat i (by show i < ss.length; rw [HL73.out]; exact hlt)
              obtain ⟨e3, e4⟩ : bs' = bs2 ∧ os' = os2 := by simpa using he2
              subst e3
              subst e4
              clear he hat he2
              rw [show ((ss, []) : D).1 = ss from rfl, HSVV.out] at hcs
              obtain ⟨R, hR⟩ : ∃ R, R = ReadS.readF (rs, []) (i : Int) := ⟨_, rfl⟩
              rw [← hR] at HRI HWI
              have HRR := Lib.hid hR
              clear hR
              obtain ⟨b1, hb1⟩ : ∃ b, (R.toList == SV.toList) = b := ⟨_, rfl⟩
              obtain ⟨b2, hb2⟩ : ∃ b, (R.toList == v.toList) = b := ⟨_, rfl⟩
              have HB1 := Lib.hid (show PO → b1 = true from fun h => by rw [← hb1, HRI.out h]; simp)
              have HB2 := Lib.hid (show PA → b2 = true from fun h => by rw [← hb2, HWI.out h]; simp)
              cases ob with
              | true =>
                go_wp2
                go_region_law (go_simp; go_at_call 22; refine (ReadI.impl_any _ (.slice ra rn rc) (.slice rb rm rd) (rs, []) (i : Int) (by show rs.length ≤ _; rw [HRL.out]; omega) (by show (0 : Nat) ≤ _; omega) (HR.out.below HBE.out.drew).holds).mono ?_; rintro e w5 ⟨rfl, hb⟩; rw [← HRR.out]; have s5 := hb.size; simp only [World.size_drew] at s5; have HBF := Lib.hid (HBE.out.drew.trans (hb.mono HBE.out.drew.size)); obtain ⟨p0, p1⟩ := Dk.Box.cells (Dk.Box.below (show Dk.Box wr.drew _ _ _ _ from BT1.out) hb); have p2 : w5.cell? ⟨bs', os' + i, none⟩ = some (.string SV) := (by rw [hb.cell (p := ⟨bs', os' + i, none⟩) hbs2]; exact hcs); clear hb)
                all_goals
                  clear t0 t1 r0 r1
                  have BR2 := Lib.hid (Dk.Box.below BR.out HBF.out)
                  obtain ⟨q0, q1⟩ := Dk.Box.cells BR2.out
                  cases ab with
                  | true =>
                    go_wp2_with fail
                    refine (ReadI.impl_any _ (.slice ra rn rc) (.slice rb rm rd) (rs, []) (i : Int) (by show rs.length ≤ _; rw [HRL.out]; omega) (by show (0 : Nat) ≤ _; omega) (HR.out.below HBF.out).holds).mono ?_
                    rintro e w6 ⟨rfl, hb⟩
                    rw [← HRR.out]
                    have HBG := Lib.hid (HBF.out.trans (hb.mono HBF.out.size))
                    clear hb
                    go_wp2
                    go_roundw
                    case rel => exact ⟨i + 1, b1, b2, by omega, by go_num, rfl, rfl, HB1.out, HB2.out, HBG.out⟩
                    case measure => simp [intOf]; omega
                  | false =>
                    go_wp2
                    go_roundw
                    case rel => exact ⟨i + 1, b1, false, by omega, by go_num, rfl, rfl, HB1.out, HAA.out, HBF.out⟩
                    case measure => simp [intOf]; omega
              | false =>
                cases ab with
                | true =>
                  go_wp2
                  go_quiet (fail)
                  have HBF := Lib.hid (SplitAny.below_drewN HBE.out nq)
                  go_wp2_with fail
                  refine (ReadI.impl_any _ (.slice ra rn rc) (.slice rb rm rd) (rs, []) (i : Int) (by show rs.length ≤ _; rw [HRL.out]; omega) (by show (0 : Nat) ≤ _; omega) (HR.out.below HBF.out).holds).mono ?_
                  rintro e w6 ⟨rfl, hb⟩
                  rw [← HRR.out]
                  have HBG := Lib.hid (HBF.out.trans (hb.mono HBF.out.size))
                  clear hb
                  go_wp2
                  go_roundw
                  case rel => exact ⟨i + 1, false, b2, by omega, by go_num, rfl, rfl, HO.out, HB2.out, HBG.out⟩
                  case measure => simp [intOf]; omega
                | false =>
                  go_wp2
                  go_quiet (fail)
                  have HBF := Lib.hid (SplitAny.below_drewN HBE.out nq)
                  go_wp2
                  go_roundw
                  case rel => exact ⟨i + 1, false, false, by omega, by go_num, rfl, rfl, HO.out, HAA.out, HBF.out⟩
                  case measure => simp [intOf]; omega
      · have h70 : i < 70 := by omega
        have hout : JF.Out 73 i := ⟨hlt, by omega⟩
        have HRI := Lib.hid (fun h => HPO.out h i hout)
        have HWI := Lib.hid (fun h => HPA.out h i hout)
        obtain ⟨a0', c0', he0, hat0⟩ := Dk.atS (HD.out.below HBE.out).holds.1
        have e0 : ta = a0' := (show ta = a0' ∧ 73 = ss.length ∧ tc = c0' by simpa using he0).1
        subst e0
        obtain ⟨bs', os', rfl, hbs', hcs⟩ := hat0 i (by show i < ss.length; rw [HL73.out]; exact hlt)
        clear he0 hat0 hout
        obtain ⟨SV, hSV⟩ : ∃ v, v = ss.getD i ⟨#[]⟩ := ⟨_, rfl⟩
        rw [show ((ss, []) : D).1 = ss from rfl, ← hSV] at hcs
        rw [← hSV] at HRI HWI
        have HSVV := Lib.hid hSV.symm
        clear hSV
        go_wp2
        go_loopw [11, 68] (fun vv jv wx => ∃ (j : Nat) (v : ByteArray), j ≤ N ∧ jv = .int .i64 j ∧ vv = .string v ∧ v = JF.wantF SV (l.take j) i ∧ Below wL.heap.size wL wx) (fun _ jv _ => N - (intOf jv).toNat)
        case atStart => exact ⟨0, SV, Nat.zero_le _, rfl, rfl, rfl, HBE.out⟩
        case round =>
          clear HBE BT1 BR1 t0 t1 r0 r1 hcs hbs' hsz
          obtain ⟨j, v, hj, rfl, rfl, hv, hbel⟩ := hrel
          have HBE := Lib.hid hbel
          have HV := Lib.hid hv
          have hsz := hbel.size
          clear hbel hv
          by_cases hjl : j < N
          · have hlx : j < l.length := by rw [← HN.out]; exact hjl
            obtain ⟨aa, ap, he, hat⟩ := Dk.atW (Wr.holds_of_own (HL.out.below HBE.out).1)
            have e1 : la = aa := (show la = aa ∧ N = l.length ∧ lc = ap by simpa using he).1
            subst e1
            obtain ⟨bw, ow, rfl, hbw, hc1, hc2⟩ := hat j hlx
            clear he hat
            have HW := Lib.hid (want_succ SV l i j hlx)
            rw [← HV.out] at HW
            generalize l.getD j Wr.d0 = x at hc1 hc2 HW
            obtain ⟨z0, z1⟩ := Dk.Box.cells (show Dk.Box (wr.alloc (.cells #[.int .i64 x.1, .string x.2] 39)) wr.heap.size (.int .i64 x.1) (.string x.2) 39 from Dk.blk_new wr _)
            have HBX := Lib.hid (HBE.out.trans ((Joins.below_alloc1 wr (.cells #[.int .i64 x.1, .string x.2] 39)).mono hsz))
            by_cases hxi : x.1 = (i : Int)
            · have hq : (x.1 == (i : Int)) = true := by simpa using hxi
              have HW2 := Lib.hid (show x.2 = JF.wantF SV (l.take (j + 1)) i by rw [HW.out, if_pos hxi])
              clear hxi
              go_wp2
              go_roundw
              case rel => exact ⟨j + 1, x.2, by omega, by go_num, rfl, HW2.out, HBX.out⟩
              case measure => simp [intOf]; omega
            · have hq : (x.1 == (i : Int)) = false := by simpa using hxi
              have HW2 := Lib.hid (show v = JF.wantF SV (l.take (j + 1)) i by rw [HW.out, if_neg hxi])
              clear hxi
              go_wp2
              go_roundw
              case rel => exact ⟨j + 1, v, by omega, by go_num, rfl, HW2.out, HBX.out⟩
              case measure => simp [intOf]; omega
          · have HV2 := Lib.hid (show v = JF.wantF SV l i by rw [HV.out, List.take_of_length_le (by rw [← HN.out]; omega)])
            rw [← HV2.out] at HWI
            have BT1 := Lib.hid (Dk.Box.below BT.out HBE.out)
            have BR1 := Lib.hid (Dk.Box.below BR.out HBE.out)
            obtain ⟨t0, t1⟩ := Dk.Box.cells BT1.out
            obtain ⟨r0, r1⟩ := Dk.Box.cells BR1.out
            obtain ⟨aa, ap, he, hat⟩ := Dk.atS (HD.out.below HBE.out).holds.1
            have e1 : (some ⟨bs', os', none⟩ : Option Addr) = aa := (show (some ⟨bs', os', none⟩ : Option Addr) = aa ∧ 73 = ss.length ∧ tc = ap by simpa using he).1
            subst e1
            obtain ⟨bs2, os2, he2, hbs2, hcs⟩ := hat i (by show i < ss.length; rw [HL73.out]; exact hlt)
            obtain ⟨e3, e4⟩ : bs' = bs2 ∧ os' = os2 := by simpa using he2
            subst e3
            subst e4
            clear he hat he2
            rw [show ((ss, []) : D).1 = ss from rfl, HSVV.out] at hcs
            obtain ⟨R, hR⟩ : ∃ R, R = ReadS.readF (rs, []) (i : Int) := ⟨_, rfl⟩
            rw [← hR] at HRI HWI
            have HRR := Lib.hid hR
            clear hR
            obtain ⟨b1, hb1⟩ : ∃ b, (R.toList == SV.toList) = b := ⟨_, rfl⟩
            obtain ⟨b2, hb2⟩ : ∃ b, (R.toList == v.toList) = b := ⟨_, rfl⟩
            have HB1 := Lib.hid (show PO → b1 = true from fun h => by rw [← hb1, HRI.out h]; simp)
            have HB2 := Lib.hid (show PA → b2 = true from fun h => by rw [← hb2, HWI.out h]; simp)
            cases ob with
            | true =>
              go_wp2
              go_region_law (go_simp; go_at_call 22; refine (ReadI.impl_any _ (.slice ra rn rc) (.slice rb rm rd) (rs, []) (i : Int) (by show rs.length ≤ _; rw [HRL.out]; omega) (by show (0 : Nat) ≤ _; omega) (HR.out.below HBE.out.drew).holds).mono ?_; rintro e w5 ⟨rfl, hb⟩; rw [← HRR.out]; have s5 := hb.size; simp only [World.size_drew] at s5; have HBF := Lib.hid (HBE.out.drew.trans (hb.mono HBE.out.drew.size)); obtain ⟨p0, p1⟩ := Dk.Box.cells (Dk.Box.below (show Dk.Box wr.drew _ _ _ _ from BT1.out) hb); have p2 : w5.cell? ⟨bs', os' + i, none⟩ = some (.string SV) := (by rw [hb.cell (p := ⟨bs', os' + i, none⟩) hbs2]; exact hcs); clear hb)
              all_goals
                clear t0 t1 r0 r1
                have BR2 := Lib.hid (Dk.Box.below BR.out HBF.out)
                obtain ⟨q0, q1⟩ := Dk.Box.cells BR2.out
                cases ab with
                | true =>
                  go_wp2_with fail
                  refine (ReadI.impl_any _ (.slice ra rn rc) (.slice rb rm rd) (rs, []) (i : Int) (by show rs.length ≤ _; rw [HRL.out]; omega) (by show (0 : Nat) ≤ _; omega) (HR.out.below HBF.out).holds).mono ?_
                  rintro e w6 ⟨rfl, hb⟩
                  rw [← HRR.out]
                  have HBG := Lib.hid (HBF.out.trans (hb.mono HBF.out.size))
                  clear hb
                  go_wp2
                  go_roundw
                  case rel => exact ⟨i + 1, b1, b2, by omega, by go_num, rfl, rfl, HB1.out, HB2.out, HBG.out⟩
                  case measure => simp [intOf]; omega
                | false =>
                  go_wp2
                  go_roundw
                  case rel => exact ⟨i + 1, b1, false, by omega, by go_num, rfl, rfl, HB1.out, HAA.out, HBF.out⟩
                  case measure => simp [intOf]; omega
            | false =>
              cases ab with
              | true =>
                go_wp2
                go_quiet (fail)
                have HBF := Lib.hid (SplitAny.below_drewN HBE.out nq)
                go_wp2_with fail
                refine (ReadI.impl_any _ (.slice ra rn rc) (.slice rb rm rd) (rs, []) (i : Int) (by show rs.length ≤ _; rw [HRL.out]; omega) (by show (0 : Nat) ≤ _; omega) (HR.out.below HBF.out).holds).mono ?_
                rintro e w6 ⟨rfl, hb⟩
                rw [← HRR.out]
                have HBG := Lib.hid (HBF.out.trans (hb.mono HBF.out.size))
                clear hb
                go_wp2
                go_roundw
                case rel => exact ⟨i + 1, false, b2, by omega, by go_num, rfl, rfl, HO.out, HB2.out, HBG.out⟩
                case measure => simp [intOf]; omega
              | false =>
                go_wp2
                go_quiet (fail)
                have HBF := Lib.hid (SplitAny.below_drewN HBE.out nq)
                go_wp2
                go_roundw
                case rel => exact ⟨i + 1, false, false, by omega, by go_num, rfl, rfl, HO.out, HAA.out, HBF.out⟩
                case measure => simp [intOf]; omega
    · clear t0 t1
      obtain ⟨t0, t1⟩ := Dk.Box.cells BR1.out
      go_wp2_with fail
      refine (ReadJ.impl_any wr (.slice ra rn rc) (.slice rb rm rd) (rs, []) (by show rs.length ≤ _; rw [HRL.out]; omega) (by show (0 : Nat) ≤ _; omega) (HR.out.below HBE.out).holds).mono ?_
      rintro e w9 ⟨v, rfl, hown, hb⟩
      rw [HNB.out]
      have HB9 := Lib.hid (HB.out.trans ((HBE.out.trans (hb.mono hsz)).mono HB.out.size))
      clear hown hb t0 t1
      generalize Txn.seqV (rs, []) = sq
      rcases HFIN.out with hpa | ⟨hpo, hkl⟩
      · have hab := HAA.out hpa
        subst hab
        clear HAA HO
        cases ob with
        | true =>
          go_wp2 <;> (go_ret; exact ⟨by first | rfl | simp, HB9.out⟩)
        | false =>
          go_wp2 <;> (go_ret; exact ⟨by first | rfl | simp, HB9.out⟩)
      · have hob := HO.out hpo
        subst hob
        clear HAA HO
        have hkl2 : (kk : Int) < (M : Int) := by omega
        cases ab with
        | true =>
          go_wp2
          go_ret
          exact ⟨by first | rfl | simp, HB9.out⟩
        | false =>
          go_wp2
          go_ret
          exact ⟨by first | rfl | simp, HB9.out⟩


theorem law_big (a0 : Option Addr) (len0 cap0 : Nat) (w : World) (h : 1048576 < len0) :
    Calls Try.prog 3 #[.slice a0 len0 cap0] w fun e w' => e = .returned (.bool true) ∧ Below w.heap.size w w' := by
  have h2 : (1048576 : Int) < (len0 : Int) := by omega
  go_enter Try.func3, Try.ntmps3
  go_wp2_with fail
  go_ret
  exact ⟨rfl, Below.refl _ _⟩

set_option maxRecDepth 100000 in
theorem lifted (os : Os) (started : os.Started) (H : Type) (enc : TypeId × Value → H) :
    ReturnsInHanded {} Try.checked os 3 .any (Rows.fnJournalSpec.pre6 enc Try.prog Try.f3 Rows.fnJournalRow.domain false) (Rows.fnJournalSpec.post enc Try.prog Try.f3 false true false false) := by
  refine returnsInHanded_of_change (C := Try.checked) Kit.own started (by kernel_rfl) Try.func3
    (ChangeSpec.witness6 (enc := enc) (C := Try.checked) false ⟨#[], #[.slice none 0 0], []⟩ 8 (by kernel_rfl) (by kernel_rfl) (by kernel_rfl) (by kernel_rfl)) ?_
  intro W base args ds gs before hval0 hW hcnd _
  have hval : ∀ (j : Nat) t v, Try.f3.params[j]? = some t → args[j]? = some v → Value.okWide Try.prog W .any base t v := hval0
  have hW' := hW
  obtain ⟨p, q, hA0, hV, rfl, hfz, hnd⟩ := hW
  have hA : DataW.TrodAll enc Try.prog W 0 (fun _ => true) true Try.f3.params.toList args.toList ds p := hA0
  rw [Try.params3] at hA hval
  obtain ⟨v0, d0, rfl, rfl, h0⟩ := trodAll_one hA
  obtain ⟨a0, len0, cap0, rfl⟩ := okWide_slice Try.underlying22 (hval 0 22 v0 rfl rfl)
  have hlaw : Calls Try.prog 3 #[.slice a0 len0 cap0] W fun e w' => e = .returned (.bool true) ∧ Below W.heap.size W w' := by
    by_cases hbig : 1048576 < len0
    · exact law_big _ _ _ W hbig
    · obtain ⟨ns, hns, hcode⟩ := Cur.open_code h0 (by omega)
      exact law_any _ ns W hcode
  refine hlaw.mono fun e W' ⟨he, hb⟩ => ?_
  subst he
  exact ⟨_, rfl, Kit.law_post Kit.laidOut (by kernel_rfl) Try.underlying4 rfl rfl (fun H ds hl => by match ds, hl with | [d0], _ => rfl) hW' hb⟩

theorem holds : Rows.FnJournalSaid :=
  OpenClaim.holds_of_wide 3 Try.f3 rfl rfl rfl rfl rfl rfl rfl ⟨rfl, rfl, rfl, rfl, rfl⟩ rfl rfl rfl rfl rfl (by kernel_rfl) Try.func3 (by kernel_rfl)
    (of_decide_eq_true (by kernel_rfl)) (by unfold Func.isWrapper; first | (rw [if_pos (by decide +kernel)]; kernel_rfl) | (rw [if_neg (by decide +kernel)]; exact ⟨rfl, rfl⟩))
    (fun os started H enc _ => lifted os started H enc)
#print axioms holds
end Go.Proofs.Ytgapjdkelkmdgaa.FnJournal
