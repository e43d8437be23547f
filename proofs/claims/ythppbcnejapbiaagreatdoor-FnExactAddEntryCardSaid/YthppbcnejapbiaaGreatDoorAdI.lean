/- Helper texts joined, one behind another (a claim has at most 60 files): what each proves, its own head says: YthppbcnejapbiaaGreatDoorFsS. -/
import Derived.Test.YthppbcnejapbiaaGreatDoorAdF
import Derived.Test.YthppbcnejapbiaaGreatDoorAdH

-- YthppbcnejapbiaaGreatDoorFsS
/- A part. -/
namespace Go.Proofs.YthppbcnejapbiaaGreatDoor.FsS
open Go.ChangeShapes Go.WideShapes Go.ChangeAt Go.RowKit
open Foot Bx
open InoV (I usedV hasB needV)
open FsV (F allB ownB beyond zB freeB elseB okF partsB quB tickB rootB allTo rangeTo)
open Dk (ret_bool)
open FsB (Fit)
set_option linter.unusedVariables false
theorem zeroes_spec (s : ByteArray) (w : World) (h : s.size <= maxLen) : Calls Tryz.prog 132 #[.string s] w fun e w' => e = .returned (.bool (zB s)) /\ w = w' := IsZeroes.spec_any s w h
theorem ok_no_parts {f : F} (h : partsB f = false) : okF f = false := by rw [okF, h]; simp
theorem ok_no_tick {f : F} (h : tickB f = false) : okF f = false := by rw [okF, h]; rfl
theorem ok_no_root {f : F} (h : rootB f = false) : okF f = false := by rw [okF, h]; simp
theorem ok_no_own {f : F} (h : ownB f.inodes = false) : okF f = false := by rw [okF, h]; simp
theorem ok_no_else {f : F} (h : elseB f = false) : okF f = false := by rw [okF, h]; simp
theorem ok_yes {f : F} (h1 : tickB f = true) (h2 : partsB f = true) (h3 : rootB f = true) (h4 : ownB f.inodes = true) (h5 : elseB f = true) : okF f = true := by rw [okF, h1, h2, h3, h4, h5]; rfl
theorem in_any (x lo hi : Int) {A : Bool} (h : (decide (lo <= x) && decide (x <= hi)) = A) (w : World) : Calls Tryz.prog 103 #[.int .i64 x, .int .i64 lo, .int .i64 hi] w fun e w' => e = .returned (.bool A) /\ w = w' := by
 have := AclS.in_any x lo hi w; rw [h] at this; exact this
theorem last_zero {f : F} {n : I} (h : n.blocks.length = 0) : zB (beyond f n) = true := by rw [FsB.beyond_none h]; rfl
theorem last_hole {f : F} {n : I} {L : Nat} (hL : n.blocks.length = L + 1) (h : n.blocks.getD L 0 = -1) : zB (beyond f n) = true := by rw [FsB.beyond_hole hL h]; rfl
set_option maxRecDepth 100000 in
set_option maxHeartbeats 12800000 in
theorem is_spec (w : World) (v : Value) (f : F) (hc : FsF.cost f <= 1073741824) (hl : FsF.Lim f) (h : FsF.Holds w v f) :
  Calls Tryz.prog 73 #[v] w fun e w' => e = .returned (.bool (okF f)) /\ Below w.heap.size w w' := by
 have HFS := Lib.hid h
 have HCA := Lib.hid (fun i (hi : i < f.inodes.length) => FsP.cost_at hc hi)
 have HSA := Lib.hid (fun i (hi : i < f.data.length) => FsP.size_at hl hi)
 have HCC := Lib.hid hc
 obtain ⟨r0, r1, r2, rfl, g0, g1, g2⟩ := h
 obtain ⟨qa, qc, rfl, hQ⟩ := Qt.atL g0
 obtain ⟨ia, ic, rfl, _, hI⟩ := IF.atL g1
 obtain ⟨da, dc, rfl, hD⟩ := g2
 have HQ := Lib.hid hQ
 have HI := Lib.hid hI
 have HD := Lib.hid (show ∀ i, i < f.data.length -> ∃ b o, da = some ⟨b, o, none⟩ /\ b < w.heap.size /\ w.cell? ⟨b, o + i, none⟩ = some (.string (f.data.getD i ⟨#[]⟩)) from fun i hi => by
  obtain ⟨b, o, e, hlt, hcell⟩ := hD (by intro e; rw [e] at hi; simp at hi)
  exact ⟨b, o, e, hlt, hcell i hi⟩)
 have hlq : f.quotas.length <= 1073741824 := Nat.le_trans (FsF.le_quotas f) hc
 have hli : f.inodes.length <= 1073741824 := Nat.le_trans (Nat.le_trans (Nat.le_add_right _ _) (FsF.le_inodes f)) hc
 have hld : f.data.length <= 1073741824 := Nat.le_trans (Nat.le_trans (Nat.le_add_right _ _) (FsF.le_data f)) hc
 clear g0 g1 hQ hI hD hc hl
 have HN1 := Lib.hid (fun h => ok_no_parts (FsP.parts_quo (f := f) h))
 have HN2 := Lib.hid (fun h => ok_no_parts (FsP.parts_ino (f := f) h))
 have HN3 := Lib.hid (fun h => ok_no_parts (FsP.parts_dat (f := f) h))
 obtain ⟨A, hA⟩ : ∃ A, tickB f = A := ⟨_, rfl⟩
 have hin := in_any f.tick 0 1000000000 hA
 have HTK := Lib.hid hA
 have HIN := Lib.hid hin
 obtain ⟨T, hT⟩ : ∃ T, T = f.tick := ⟨_, rfl⟩
 rw [<- hT] at HIN HFS ⊢
 clear hT hA hin
 by_cases h1 : f.quotas.length = 4
 ·by_cases h2 : f.inodes.length = 20
  ·by_cases h3 : f.data.length = 56
   ·have HL1 := Lib.hid h1
    have HL2 := Lib.hid h2
    have HL3 := Lib.hid h3
    rw [h1, h2, h3] at HFS ⊢
    clear h1 h2 h3 hlq hli hld
    have HB0 := Lib.hid ((Below.refl w.heap.size w).alloc (Nat.le_refl _) (.cells #[.int .i64 T, .slice qa 4 qc, .slice ia 20 ic, .slice da 56 dc] 33))
    have HX0 := Lib.hid (new w #[.int .i64 T, .slice qa 4 qc, .slice ia 20 ic, .slice da 56 dc] 33)
    cases A
    ·have HF := Lib.hid (ok_no_tick HTK.out)
     go_enter Tryz.func73, Tryz.ntmps73
     go_wp2_with fail
     refine (HIN.out _).mono ?_
     rintro e w1 ⟨rfl, rfl⟩
     go_wp2
     go_ret
     exact ⟨ret_bool HF.out.symm, HB0.out⟩
    go_enter Tryz.func73, Tryz.ntmps73
    go_wp2_with fail
    refine (HIN.out _).mono ?_
    rintro e w1 ⟨rfl, rfl⟩
    go_wp2
    go_loopw [39] (fun iv wr => ∃ k : Nat, k <= 4 /\ iv = .int .i64 k /\ Bk wr w.heap.size #[.int .i64 T, .slice qa 4 qc, .slice ia 20 ic, .slice da 56 dc] 33 /\ Below w.heap.size w wr /\ allTo quB f.quotas k = true) (fun iv _ => 4 - (intOf iv).toNat)
    case atStart => exact ⟨0, Nat.zero_le _, rfl, HX0.out, HB0.out, FsV.allTo_zero _ _⟩
    case round =>
     obtain ⟨k, hk, rfl, hx, hbel, hr⟩ := hrel
     have HB := Lib.hid hbel
     have HX := Lib.hid hx
     have HR := Lib.hid hr
     have hsz := hbel.size
     clear hx hbel hr HB0 HX0 HIN
     by_cases hlt : k < 4
     ·have hkl : k < f.quotas.length := by rw [HL1.out]; exact hlt
      obtain ⟨b, o, rfl, hb, hC⟩ := HQ.out k hkl
      obtain ⟨c0, c1⟩ := hC.below hb HB.out
      have hq := FsV.allTo_succ quB f.quotas Qt.a0 k hkl
      have HNO := Lib.hid (fun h => HN1.out (FsV.all_no (z := Qt.a0) hkl h))
      have HRQ := Lib.hid hq
      clear hC hq hkl
      generalize f.quotas.getD k Qt.a0 = q at c0 c1 HNO HRQ
      have HN := Lib.hid (HB.out.alloc hsz (.cells #[.int .i64 q.1, .int .i64 q.2] 113))
      have HXN := Lib.hid (HX.out.alloc (.cells #[.int .i64 q.1, .int .i64 q.2] 113))
      obtain ⟨B, hB⟩ : ∃ B, (decide (0 <= q.1) && decide (q.1 <= 5)) = B := ⟨_, rfl⟩
      obtain ⟨C, hC⟩ : ∃ C, (decide (0 <= q.2) && decide (q.2 <= 14)) = C := ⟨_, rfl⟩
      have HI1 := Lib.hid (in_any q.1 0 5 hB)
      have HI2 := Lib.hid (in_any q.2 0 14 hC)
      have HQB := Lib.hid (show quB q = (B && C) from by rw [quB, hB, hC])
      clear hB hC
      cases B
      ·have HF := Lib.hid (HNO.out (by rw [HQB.out]; rfl))
       go_wp2_with fail
       refine (HI1.out _).mono ?_
       rintro e w1 ⟨rfl, rfl⟩
       go_wp2
       go_ret
       exact ⟨ret_bool HF.out.symm, HN.out⟩
      ·cases C
       ·have HF := Lib.hid (HNO.out (by rw [HQB.out]; rfl))
        go_wp2_with fail
        refine (HI1.out _).mono ?_
        rintro e w1 ⟨rfl, rfl⟩
        go_wp2_with fail
        refine (HI2.out _).mono ?_
        rintro e w1 ⟨rfl, rfl⟩
        go_wp2
        go_ret
        exact ⟨ret_bool HF.out.symm, HN.out⟩
       ·have HS := Lib.hid (show allTo quB f.quotas (k + 1) = true by rw [HRQ.out, HR.out, HQB.out]; rfl)
        go_wp2_with fail
        refine (HI1.out _).mono ?_
        rintro e w1 ⟨rfl, rfl⟩
        go_wp2_with fail
        refine (HI2.out _).mono ?_
        rintro e w1 ⟨rfl, rfl⟩
        go_wp2
        go_roundw
        case rel => exact ⟨k + 1, by omega, by go_num, HXN.out, HN.out, HS.out⟩
        case measure => simp [intOf]; omega
     ·obtain rfl : k = 4 := by omega
      rw [show ((4 : Nat) : Int) = 4 from rfl]
      have HQA := Lib.hid (show f.quotas.all quB = true by rw [<- FsV.allTo_end quB f.quotas 4 HL1.out.symm]; exact HR.out)
      have x2 := HX.out.cell 2
      dsimp at x2
      go_wp2
      clear x2
      go_loopw [57] (fun iv wr => ∃ k : Nat, k <= 20 /\ iv = .int .i64 k /\ Bk wr w.heap.size #[.int .i64 T, .slice qa 4 qc, .slice ia 20 ic, .slice da 56 dc] 33 /\ Below w.heap.size w wr /\ allTo InoV.okI f.inodes k = true) (fun iv _ => 20 - (intOf iv).toNat)
      case atStart => exact ⟨0, Nat.zero_le _, rfl, HX.out, HB.out, FsV.allTo_zero _ _⟩
      case round =>
       obtain ⟨k, hk, rfl, hx, hbel, hr⟩ := hrel
       replace HB := Lib.hid hbel
       replace HX := Lib.hid hx
       replace HR := Lib.hid hr
       have hsz := hbel.size
       clear hx hbel hr
       by_cases hlt : k < 20
       ·have hkl : k < f.inodes.length := by rw [HL2.out]; exact hlt
        obtain ⟨b, o, rfl, hb, r0, r1, r2, hC, hP⟩ := HI.out k hkl
        have HP := Lib.hid (IF.parts_holds (IF.parts_below hP HB.out))
        obtain ⟨p0, p1, p2⟩ := hP
        obtain ⟨a0, d0, rfl⟩ := NiF.form p0
        obtain ⟨a1, d1, rfl⟩ := AeF.form p1
        obtain ⟨a2, d2, rfl⟩ := AeF.form p2
        obtain ⟨c0, c1, c2, c3, c4, c5, c6, c7, c8, c9⟩ := hC.below hb HB.out
        have hq := FsV.allTo_succ InoV.okI f.inodes IF.z0 k hkl
        have HNO := Lib.hid (fun h => HN2.out (FsV.all_no (z := IF.z0) hkl h))
        have HRQ := Lib.hid hq
        have hcx := HCA.out k hkl
        clear hC p0 p1 p2 hq hkl
        rw [show InoV.zero = IF.z0 from rfl] at hcx
        generalize f.inodes.getD k IF.z0 = n at c0 c1 c2 c3 c4 c5 c6 c7 c8 c9 HNO HRQ hcx HP
        have HW := Lib.hid ((Below.refl wr.heap.size wr).alloc (Nat.le_refl _) (.cells #[.int .i64 n.kind, .int .i64 n.mode, .int .i64 n.uid, .int .i64 n.gid, .int .i64 n.links, .int .i64 n.size, .int .i64 n.tick, .slice a0 n.blocks.length d0, .slice a1 n.acl.length d1, .slice a2 n.dflt.length d2] 89))
        have HN := Lib.hid (HB.out.trans (HW.out.mono hsz))
        have HXN := Lib.hid (HX.out.alloc (.cells #[.int .i64 n.kind, .int .i64 n.mode, .int .i64 n.uid, .int .i64 n.gid, .int .i64 n.links, .int .i64 n.size, .int .i64 n.tick, .slice a0 n.blocks.length d0, .slice a1 n.acl.length d1, .slice a2 n.dflt.length d2] 89))
        have HPN := Lib.hid (In.holds_below HP.out HW.out)
        go_wp2_with fail
        refine (InOs.is_any _ _ n hcx HPN.out).mono ?_
        rintro e w1 ⟨rfl, hb1⟩
        replace HN := Lib.hid (HN.out.trans (hb1.mono HN.out.size))
        replace HXN := Lib.hid (HXN.out.all hb1)
        clear hb1 c0 c1 c2 c3 c4 c5 c6 c7 c8 c9
        cases hq : InoV.okI n
        ·have HF := Lib.hid (HNO.out hq)
         clear hq
         go_wp2
         go_ret
         exact ⟨ret_bool HF.out.symm, HN.out⟩
        ·have HS := Lib.hid (show allTo InoV.okI f.inodes (k + 1) = true by rw [HRQ.out, HR.out, hq]; rfl)
         clear hq
         go_wp2
         go_roundw
         case rel => exact ⟨k + 1, by omega, by go_num, HXN.out, HN.out, HS.out⟩
         case measure => simp [intOf]; omega
       ·obtain rfl : k = 20 := by omega
        rw [show ((20 : Nat) : Int) = 20 from rfl]
        have HIA := Lib.hid (show f.inodes.all InoV.okI = true by rw [<- FsV.allTo_end InoV.okI f.inodes 20 HL2.out.symm]; exact HR.out)
        have HUID := Lib.hid (show ∀ n ∈ f.inodes, 0 <= n.uid from fun n hn => (InoV.ok_nums (List.all_eq_true.1 HIA.out n hn)).2.2.2.2.1)
        obtain ⟨b, o, rfl, hb, r0, r1, r2, hC, hPt⟩ := HI.out 0 (by rw [HL2.out]; omega)
        have c0 := (hC.below hb HB.out).1
        have HRB := Lib.hid (show rootB f = decide ((f.inodes.getD 0 IF.z0).kind = 2) from rfl)
        rw [Nat.zero_mul, Nat.add_zero] at c0
        clear hC hPt
        generalize (f.inodes.getD 0 IF.z0).kind = K at c0 HRB
        obtain ⟨x0, x1, x2, x3⟩ := Bk.c4 HX.out
        by_cases hk2 : K = 2
        ·have k1 : (K == 2) = true := by simpa using hk2
         have k2 : (K != 2) = false := by simpa using hk2
         have HRT := Lib.hid (show rootB f = true by rw [HRB.out]; exact decide_eq_true hk2)
         clear hk2
         go_wp2_with fail
         refine (FsK.used_any _ _ f HCC.out HUID.out (FsF.holds_below HFS.out HB.out)).mono ?_
         rintro e w2 ⟨y, rfl, hrow, hb2⟩
         have HB2 := Lib.hid (HB.out.trans (hb2.mono HB.out.size))
         have HX2 := Lib.hid (HX.out.all hb2)
         have HROW := Lib.hid hrow
         clear hb2 x0 x1 x2 x3 c0 k1 k2 hrow
         cases ho : ownB f.inodes
         ·have HF := Lib.hid (ok_no_own ho)
          clear ho
          go_wp2
          go_ret
          exact ⟨ret_bool HF.out.symm, HB2.out⟩
         ·have HO := Lib.hid ho
          obtain ⟨g, rfl, hrow⟩ := HROW.out ho
          have HRW := Lib.hid hrow
          clear ho hrow HROW
          have x3 := HX2.out.cell 3
          dsimp at x3
          go_wp2
          clear x3
          obtain ⟨W0, hW0⟩ : ∃ W0, W0 = wr.heap.size := ⟨_, rfl⟩
          have HRW2 := Lib.hid (show w2.ownsRow W0 4 1 (.slice (some ⟨g, 0, none⟩) 56 56) 56 (FsK.bl (allB f.inodes)) from by rw [hW0]; exact HRW.out)
          clear hW0 HRW
          go_loopw [81] (fun iv wr => ∃ k : Nat, k <= 56 /\ iv = .int .i64 k /\ Bk wr w.heap.size #[.int .i64 T, .slice qa 4 qc, .slice (some ⟨b, o, none⟩) 20 ic, .slice da 56 dc] 33 /\ wr.ownsRow W0 4 1 (.slice (some ⟨g, 0, none⟩) 56 56) 56 (FsK.bl (allB f.inodes)) /\ Below w.heap.size w wr /\ allTo (fun s => decide (s.size = 32)) f.data k = true /\ rangeTo (freeB f) k = true) (fun iv _ => 56 - (intOf iv).toNat)
          case atStart => exact ⟨0, Nat.zero_le _, rfl, HX2.out, HRW2.out, HB2.out, FsV.allTo_zero _ _, rfl⟩
          case round =>
           obtain ⟨k, hk, rfl, hx, hrow, hbel, hr, hr2⟩ := hrel
           replace HB := Lib.hid hbel
           replace HX := Lib.hid hx
           replace HR := Lib.hid hr
           have HR2 := Lib.hid hr2
           have HRW := Lib.hid hrow
           have hsz := hbel.size
           clear hx hbel hr hr2 hrow HRW2 HX2 HB2
           by_cases hlt : k < 56
           ·have hkl : k < f.data.length := by rw [HL3.out]; exact hlt
            obtain ⟨b2, o2, rfl, hb2, c0⟩ := HD.out k hkl
            rw [<- HB.out.cell (p := ⟨b2, _, none⟩) hb2] at c0
            have hcx := HSA.out k hkl
            have HSU1 := Lib.hid (FsV.allTo_succ (fun s => decide (s.size = 32)) f.data ⟨#[]⟩ k hkl)
            have HSU2 := Lib.hid (FsV.rangeTo_succ (freeB f) k)
            have HNO1 := Lib.hid (fun h => HN3.out (FsV.all_no (z := ⟨#[]⟩) hkl h))
            have HNO2 := Lib.hid (fun h => ok_no_else (FsE.else_no1 (f := f) hlt h))
            have hfree : freeB f k = (hasB (allB f.inodes) k || zB (f.data.getD k ⟨#[]⟩)) := rfl
            have hrw := HRW.out.cellAt k (by omega)
            rw [FsK.bl_at _ k hlt] at hrw
            generalize f.data.getD k ⟨#[]⟩ = s at c0 hcx hfree HSU1 HNO1
            generalize hasB (allB f.inodes) (k : Int) = A at hrw hfree
            have HFR := Lib.hid hfree
            have HCX := Lib.hid hcx
            clear hfree hkl
            unfold maxLen at hcx
            by_cases hs : s.size = 32
            ·have HS1 := Lib.hid (show allTo (fun s => decide (s.size = 32)) f.data (k + 1) = true by rw [HSU1.out, HR.out, decide_eq_true hs]; rfl)
             have q1 : ((s.size : Int) != 32) = false := by simp [hs]
             have q2 : ((s.size : Int) == 32) = true := by simp [hs]
             clear hs
             cases A
             ·go_wp2_with fail
              refine (zeroes_spec s _ HCX.out).mono ?_
              rintro e w3 ⟨rfl, rfl⟩
              cases hz : zB s
              ·have HF := Lib.hid (HNO2.out (by rw [HFR.out, hz]; rfl))
               clear hz
               go_wp2
               go_ret
               exact ⟨ret_bool HF.out.symm, HB.out⟩
              ·have HS2 := Lib.hid (show rangeTo (freeB f) (k + 1) = true by rw [HSU2.out, HR2.out, HFR.out, hz]; rfl)
               clear hz
               go_wp2
               go_roundw
               case rel => exact ⟨k + 1, by omega, by go_num, HX.out, HRW.out, HB.out, HS1.out, HS2.out⟩
               case measure => simp [intOf]; omega
             ·have HS2 := Lib.hid (show rangeTo (freeB f) (k + 1) = true by rw [HSU2.out, HR2.out, HFR.out]; rfl)
              go_wp2
              go_roundw
              case rel => exact ⟨k + 1, by omega, by go_num, HX.out, HRW.out, HB.out, HS1.out, HS2.out⟩
              case measure => simp [intOf]; omega
            ·have HF := Lib.hid (HNO1.out (decide_eq_false hs))
             have q1 : ((s.size : Int) != 32) = true := by simp; omega
             have q2 : ((s.size : Int) == 32) = false := by simp; omega
             clear hs
             go_wp2
             go_ret
             exact ⟨ret_bool HF.out.symm, HB.out⟩
           ·obtain rfl : k = 56 := by omega
            rw [show ((56 : Nat) : Int) = 56 from rfl]
            have HRA := Lib.hid (show (List.range 56).all (freeB f) = true from HR2.out)
            have HPT := Lib.hid (FsV.parts_mk HL1.out HL2.out HL3.out HQA.out HIA.out (by rw [<- FsV.allTo_end (fun s => decide (s.size = 32)) f.data 56 HL3.out.symm]; exact HR.out))
            have HFIT := Lib.hid (fun i hi => FsE.fit_of (i := i) HPT.out HO.out hi)
            have HNL := Lib.hid (fun i hi h => ok_no_else (FsE.else_no2 (f := f) (i := i) hi h))
            have x2 := HX.out.cell 2
            dsimp at x2
            go_wp2
            clear x2
            go_loopw [105] (fun iv wr => ∃ k : Nat, k <= 20 /\ iv = .int .i64 k /\ Bk wr w.heap.size #[.int .i64 T, .slice qa 4 qc, .slice (some ⟨b, o, none⟩) 20 ic, .slice da 56 dc] 33 /\ Below w.heap.size w wr /\ allTo (fun n => zB (beyond f n)) f.inodes k = true) (fun iv _ => 20 - (intOf iv).toNat)
            case atStart => exact ⟨0, Nat.zero_le _, rfl, HX.out, HB.out, FsV.allTo_zero _ _⟩
            case round =>
             obtain ⟨k, hk, rfl, hx, hbel, hr⟩ := hrel
             replace HB := Lib.hid hbel
             replace HX := Lib.hid hx
             replace HR := Lib.hid hr
             have hsz := hbel.size
             clear hx hbel hr HRW HR2
             by_cases hlt : k < 20
             ·have hkl : k < f.inodes.length := by rw [HL2.out]; exact hlt
              obtain ⟨b', o', e1, hb1, r0, r1, r2, hC, hP⟩ := HI.out k hkl
              simp only [Option.some.injEq, Addr.mk.injEq, and_true] at e1
              obtain ⟨rfl, rfl⟩ := e1
              obtain ⟨p0, p1, p2⟩ := hP
              obtain ⟨a0, d0, rfl, _, hbat⟩ := p0
              obtain ⟨a1, d1, rfl⟩ := AeF.form p1
              obtain ⟨a2, d2, rfl⟩ := AeF.form p2
              obtain ⟨c0, c1, c2, c3, c4, c5, c6, c7, c8, c9⟩ := hC.below hb1 HB.out
              have HBL := Lib.hid hbat
              have HSU := Lib.hid (FsV.allTo_succ (fun n => zB (beyond f n)) f.inodes IF.z0 k hkl)
              have HNO := Lib.hid (HNL.out k hkl)
              have HFI := Lib.hid (HFIT.out k hkl)
              rw [show InoV.zero = IF.z0 from rfl] at HNO HFI
              clear hC p1 p2 hkl hbat
              generalize f.inodes.getD k IF.z0 = n at c0 c1 c2 c3 c4 c5 c6 c7 c8 c9 HNO HSU HFI HBL
              rcases Nat.eq_zero_or_pos n.blocks.length with h0 | hpos
              ·have HS := Lib.hid (show allTo (fun n => zB (beyond f n)) f.inodes (k + 1) = true by rw [HSU.out, HR.out, last_zero h0]; rfl)
               rw [h0] at c7
               clear h0
               have HN := Lib.hid (HB.out.alloc hsz (.cells #[.int .i64 n.kind, .int .i64 n.mode, .int .i64 n.uid, .int .i64 n.gid, .int .i64 n.links, .int .i64 n.size, .int .i64 n.tick, .slice a0 0 d0, .slice a1 n.acl.length d1, .slice a2 n.dflt.length d2] 89))
               have HXN := Lib.hid (HX.out.alloc (.cells #[.int .i64 n.kind, .int .i64 n.mode, .int .i64 n.uid, .int .i64 n.gid, .int .i64 n.links, .int .i64 n.size, .int .i64 n.tick, .slice a0 0 d0, .slice a1 n.acl.length d1, .slice a2 n.dflt.length d2] 89))
               have HXI := Lib.hid (new wr #[.int .i64 n.kind, .int .i64 n.mode, .int .i64 n.uid, .int .i64 n.gid, .int .i64 n.links, .int .i64 n.size, .int .i64 n.tick, .slice a0 0 d0, .slice a1 n.acl.length d1, .slice a2 n.dflt.length d2] 89)
               go_wp2
               clear c0 c1 c2 c3 c4 c5 c6 c7 c8 c9
               refine Fam.region (by kernel_rfl) (by kernel_rfl) ?_
               repeat (go_big_quiet_step (fail))
               refine wpQuiet_nil ?_
               intro _ hw'
               obtain ⟨nq, hw''⟩ := hw'
               subst hw''
               have hbq := Fam.wld_below _ nq
               generalize Fam.wld _ nq = w9 at hbq ⊢
               have HB9 := Lib.hid (HN.out.trans (hbq.mono HN.out.size))
               have HX9 := Lib.hid (HXN.out.all hbq)
               clear hbq
               go_wp2
               go_roundw
               case rel => exact ⟨k + 1, by omega, by go_num, HX9.out, HB9.out, HS.out⟩
               case measure => simp [intOf]; omega
              ·obtain ⟨L, hL⟩ : ∃ L, n.blocks.length = L + 1 := ⟨n.blocks.length - 1, by omega⟩
               obtain ⟨X, hX, hX32, hL7⟩ := HFI.out.x hL
               obtain ⟨b1, o1, rfl, hlt1, gB⟩ := HBL.out L (by omega)
               have HHO := Lib.hid (fun h => last_hole (f := f) hL h)
               have HAT := Lib.hid (fun k h => FsB.beyond_at (f := f) (k := k) hL h hX)
               have hbk := HFI.out.blk _ (show n.blocks.getD L 0 ∈ n.blocks from FsV.mem_getD (by omega))
               have HSZ := Lib.hid HFI.out.size
               rw [hL] at c7
               rw [hX] at c5
               clear hL hX hpos HFI HBL
               rw [<- HB.out.cell (p := ⟨b1, o1 + L, none⟩) hlt1] at gB
               have hl1 : b1 < wr.heap.size := by omega
               generalize n.blocks.getD L 0 = bl at gB hbk HHO HAT
               have HN := Lib.hid (HB.out.alloc hsz (.cells #[.int .i64 n.kind, .int .i64 n.mode, .int .i64 n.uid, .int .i64 n.gid, .int .i64 n.links, .int .i64 (↑X + ↑L * 32), .int .i64 n.tick, .slice (some ⟨b1, o1, none⟩) (L + 1) d0, .slice a1 n.acl.length d1, .slice a2 n.dflt.length d2] 89))
               have HXN := Lib.hid (HX.out.alloc (.cells #[.int .i64 n.kind, .int .i64 n.mode, .int .i64 n.uid, .int .i64 n.gid, .int .i64 n.links, .int .i64 (↑X + ↑L * 32), .int .i64 n.tick, .slice (some ⟨b1, o1, none⟩) (L + 1) d0, .slice a1 n.acl.length d1, .slice a2 n.dflt.length d2] 89))
               have HXI := Lib.hid (new wr #[.int .i64 n.kind, .int .i64 n.mode, .int .i64 n.uid, .int .i64 n.gid, .int .i64 n.links, .int .i64 (↑X + ↑L * 32), .int .i64 n.tick, .slice (some ⟨b1, o1, none⟩) (L + 1) d0, .slice a1 n.acl.length d1, .slice a2 n.dflt.length d2] 89)
               have HWA := Lib.hid ((Below.refl wr.heap.size wr).alloc (Nat.le_refl _) (.cells #[.int .i64 n.kind, .int .i64 n.mode, .int .i64 n.uid, .int .i64 n.gid, .int .i64 n.links, .int .i64 (↑X + ↑L * 32), .int .i64 n.tick, .slice (some ⟨b1, o1, none⟩) (L + 1) d0, .slice a1 n.acl.length d1, .slice a2 n.dflt.length d2] 89))
               by_cases hm : bl = -1
               ·subst hm
                have HS := Lib.hid (show allTo (fun n => zB (beyond f n)) f.inodes (k + 1) = true by rw [HSU.out, HR.out, HHO.out rfl]; rfl)
                clear hbk HSZ HAT HHO
                go_wp2
                clear c0 c1 c2 c3 c4 c5 c6 c7 c8 c9
                have gB2 := HWA.out.cell (p := ⟨b1, o1 + L, none⟩) hl1
                rw [gB] at gB2
                have y7 := HXI.out.cell 7
                dsimp at y7
                clear gB
                generalize wr.alloc (.cells #[.int .i64 n.kind, .int .i64 n.mode, .int .i64 n.uid, .int .i64 n.gid, .int .i64 n.links, .int .i64 (↑X + ↑L * 32), .int .i64 n.tick, .slice (some ⟨b1, o1, none⟩) (L + 1) d0, .slice a1 n.acl.length d1, .slice a2 n.dflt.length d2] 89) = w0 at *
                have hsz0 := HWA.out.size
                have z7 := Fam.cell (W := w0) (p := ⟨wr.heap.size, 7, none⟩) HXI.out.lt y7
                have zb := Fam.cell (W := w0) (p := ⟨b1, o1 + L, none⟩) (by show b1 < _; omega) gB2
                clear y7 gB2
                refine Fam.region (by kernel_rfl) (by kernel_rfl) ?_
                repeat (go_big_quiet_step (fail))
                refine wpQuiet_nil ?_
                intro _ hw'
                obtain ⟨nq, hw''⟩ := hw'
                subst hw''
                have hbq := Fam.wld_below _ nq
                generalize Fam.wld _ nq = w9 at hbq ⊢
                have HB9 := Lib.hid (HN.out.trans (hbq.mono HN.out.size))
                have HX9 := Lib.hid (HXN.out.all hbq)
                clear hbq z7 zb
                go_wp2
                go_roundw
                case rel => exact ⟨k + 1, by omega, by go_num, HX9.out, HB9.out, HS.out⟩
                case measure => simp [intOf]; omega
               ·obtain ⟨j, rfl⟩ : ∃ j : Nat, bl = j := ⟨bl.toNat, by omega⟩
                have hj : j < 56 := by omega
                obtain ⟨b2, o2, rfl, hlt2, gD⟩ := HD.out j (by rw [HL3.out]; exact hj)
                rw [<- HB.out.cell (p := ⟨b2, o2 + j, none⟩) hlt2] at gD
                have hl2 : b2 < wr.heap.size := by omega
                have HV := Lib.hid (HAT.out j rfl)
                have hsz2 : (f.data.getD j ⟨#[]⟩).size = 32 := HSZ.out _ (FsV.mem_getD (by rw [HL3.out]; exact hj))
                have hm1 : ((j : Int) == -1) = false := by simp
                have hm2 : ((j : Int) != -1) = true := by simp
                clear hbk hm HHO HAT HSZ
                generalize f.data.getD j ⟨#[]⟩ = s at gD hsz2 HV
                have hs1 : (s.size : Int) = 32 := by omega
                have HZL := Lib.hid (show (s.extract X 32).size <= maxLen from by unfold maxLen; rw [ByteArray.size_extract]; omega)
                have HZC := Lib.hid (fun W => zeroes_spec (s.extract X 32) W HZL.out)
                obtain ⟨Z, hZ⟩ : ∃ Z, zB (s.extract X 32) = Z := ⟨_, rfl⟩
                have HZ := Lib.hid hZ
                rw [hZ] at HZC
                clear hZ
                go_wp2
                clear c0 c1 c2 c3 c4 c5 c6 c7 c8 c9
                have gB2 := HWA.out.cell (p := ⟨b1, o1 + L, none⟩) hl1
                rw [gB] at gB2
                have gD2 := HWA.out.cell (p := ⟨b2, o2 + j, none⟩) hl2
                rw [gD] at gD2
                have y7 := HXI.out.cell 7
                have y5 := HXI.out.cell 5
                have y3 := HXN.out.cell 3
                dsimp at y7 y5 y3
                clear gB gD
                generalize wr.alloc (.cells #[.int .i64 n.kind, .int .i64 n.mode, .int .i64 n.uid, .int .i64 n.gid, .int .i64 n.links, .int .i64 (↑X + ↑L * 32), .int .i64 n.tick, .slice (some ⟨b1, o1, none⟩) (L + 1) d0, .slice a1 n.acl.length d1, .slice a2 n.dflt.length d2] 89) = w0 at *
                have hsz0 := HWA.out.size
                have z7 := Fam.cell (W := w0) (p := ⟨wr.heap.size, 7, none⟩) HXI.out.lt y7
                have z5 := Fam.cell (W := w0) (p := ⟨wr.heap.size, 5, none⟩) HXI.out.lt y5
                have z3 := Fam.cell (W := w0) (p := ⟨w.heap.size, 3, none⟩) HXN.out.lt y3
                have zb := Fam.cell (W := w0) (p := ⟨b1, o1 + L, none⟩) (by show b1 < _; omega) gB2
                have zd := Fam.cell (W := w0) (p := ⟨b2, o2 + j, none⟩) (by show b2 < _; omega) gD2
                clear y7 y5 y3 gB2 gD2
                refine Fam.region (by kernel_rfl) (by kernel_rfl) ?_
                cases Z
                ·repeat (go_big_quiet_step (first | (go_at_call 132; with_reducible refine Fam.calls_same (HZC.out _))))
                 refine wpQuiet_nil ?_
                 intro _ hw'
                 obtain ⟨nq, hw''⟩ := hw'
                 subst hw''
                 have hbq := Fam.wld_below _ nq
                 generalize Fam.wld _ nq = w9 at hbq ⊢
                 have HB9 := Lib.hid (HN.out.trans (hbq.mono HN.out.size))
                 have HF := Lib.hid (HNO.out (by rw [HV.out]; exact HZ.out))
                 clear hbq z7 z5 z3 zb zd
                 go_wp2
                 go_ret
                 exact ⟨ret_bool HF.out.symm, HB9.out⟩
                ·repeat (go_big_quiet_step (first | (go_at_call 132; with_reducible refine Fam.calls_same (HZC.out _))))
                 refine wpQuiet_nil ?_
                 intro _ hw'
                 obtain ⟨nq, hw''⟩ := hw'
                 subst hw''
                 have hbq := Fam.wld_below _ nq
                 generalize Fam.wld _ nq = w9 at hbq ⊢
                 have HB9 := Lib.hid (HN.out.trans (hbq.mono HN.out.size))
                 have HX9 := Lib.hid (HXN.out.all hbq)
                 have HS := Lib.hid (show allTo (fun n => zB (beyond f n)) f.inodes (k + 1) = true by rw [HSU.out, HR.out, HV.out, HZ.out]; rfl)
                 clear hbq z7 z5 z3 zb zd
                 go_wp2
                 go_roundw
                 case rel => exact ⟨k + 1, by omega, by go_num, HX9.out, HB9.out, HS.out⟩
                 case measure => simp [intOf]; omega
             ·obtain rfl : k = 20 := by omega
              have HEL := Lib.hid (show elseB f = true by rw [elseB, HRA.out, <- FsV.allTo_end (fun n => zB (beyond f n)) f.inodes 20 HL2.out.symm, HR.out]; rfl)
              have HF := Lib.hid (ok_yes HTK.out HPT.out HRT.out HO.out HEL.out)
              go_wp2
              go_ret
              exact ⟨ret_bool HF.out.symm, HB.out⟩
        ·have k1 : (K == 2) = false := by simpa using hk2
         have k2 : (K != 2) = true := by simpa using hk2
         have HF := Lib.hid (ok_no_root (f := f) (by rw [HRB.out, decide_eq_false hk2]))
         clear hk2
         go_wp2
         go_ret
         exact ⟨ret_bool HF.out.symm, HB.out⟩
   ·have HF := Lib.hid (ok_no_parts (f := f) (by simp [partsB, h3]))
    rw [h1, h2]
    have q1 : ((f.data.length : Int) != 56) = true := by simp; omega
    have q2 : ((f.data.length : Int) == 56) = false := by simp; omega
    clear h1 h2 h3 HFS
    generalize f.data.length = M at *
    cases A
    all_goals
     go_enter Tryz.func73, Tryz.ntmps73
     go_wp2_with fail
     refine (HIN.out _).mono ?_
     rintro e w1 ⟨rfl, rfl⟩
     go_wp2
     go_ret
     exact ⟨ret_bool HF.out.symm, (Below.refl w.heap.size w).alloc (Nat.le_refl _) _⟩
  ·have HF := Lib.hid (ok_no_parts (f := f) (by simp [partsB, h2]))
   rw [h1]
   have q1 : ((f.inodes.length : Int) != 20) = true := by simp; omega
   have q2 : ((f.inodes.length : Int) == 20) = false := by simp; omega
   clear h1 h2 HFS
   generalize f.inodes.length = M at *
   generalize f.data.length = M2 at *
   cases A
   all_goals
    go_enter Tryz.func73, Tryz.ntmps73
    go_wp2_with fail
    refine (HIN.out _).mono ?_
    rintro e w1 ⟨rfl, rfl⟩
    go_wp2
    go_ret
    exact ⟨ret_bool HF.out.symm, (Below.refl w.heap.size w).alloc (Nat.le_refl _) _⟩
 ·have HF := Lib.hid (ok_no_parts (f := f) (by simp [partsB, h1]))
  have q1 : ((f.quotas.length : Int) != 4) = true := by simp; omega
  have q2 : ((f.quotas.length : Int) == 4) = false := by simp; omega
  clear h1 HFS
  generalize f.quotas.length = M0 at *
  generalize f.inodes.length = M at *
  generalize f.data.length = M2 at *
  cases A
  all_goals
   go_enter Tryz.func73, Tryz.ntmps73
   go_wp2_with fail
   refine (HIN.out _).mono ?_
   rintro e w1 ⟨rfl, rfl⟩
   go_wp2
   go_ret
   exact ⟨ret_bool HF.out.symm, (Below.refl w.heap.size w).alloc (Nat.le_refl _) _⟩
end Go.Proofs.YthppbcnejapbiaaGreatDoor.FsS
