/- Contracts: the program's hasZerosElsewhere and IsFS. Conditions: as each theorem types them. -/
import Derived.Test.YtafmpllkehbmeaaGreatDoorFsB
import Derived.Test.YtafmpllkehbmeaaGreatDoorIsZeroes
namespace Go.Proofs.YtafmpllkehbmeaaGreatDoor.FsE
open Go.ChangeShapes Go.WideShapes Go.ChangeAt Go.RowKit
open Foot Bx
open InoV (I usedV hasB needV)
open FsV (F allB ownB beyond zB freeB elseB okF partsB tickB rootB allTo rangeTo)
open Dk (ret_bool)
open MpB (Is)
open FsB (Fit)
set_option linter.unusedVariables false

theorem zeroes_any (s : ByteArray) (w : World) (h : s.size ≤ maxLen) : Calls Tryz.prog 142 #[.string s] w fun e w' => e = .returned (.bool (zB s)) ∧ Below w.heap.size w w' := IsZeroes.impl_any s w h
theorem fit_of {f : F} (hp : partsB f = true) (ho : ownB f.inodes = true) {i : Nat} (hi : i < f.inodes.length) : Fit f (f.inodes.getD i InoV.zero) := by
  obtain ⟨_, _, h3, _, h5, h6⟩ := FsV.parts_of hp
  have hm := FsV.mem_getD (z := InoV.zero) hi
  have hn := InoV.ok_nums (h5 _ hm)
  have hbl := InoV.ok_blocks (h5 _ hm)
  generalize f.inodes.getD i InoV.zero = n at hm hn hbl
  refine ⟨h3, h6, hn.2.2.2.2.2.2.2.2.2.2.2.2.2.2, hn.2.2.2.2.2.2.2.2.2.2.1, hn.2.2.2.2.2.2.2.2.2.2.2.1, fun b hb => ?_⟩
  by_cases hb1 : b = -1
  · exact .inl hb1
  · right
    have hu : b ∈ usedV n.blocks := List.mem_filter.2 ⟨hb, by simpa using hb1⟩
    have hp2 : (n.uid, b) ∈ FsV.pairs f.inodes := List.mem_flatMap.2 ⟨n, hm, List.mem_map.2 ⟨b, hu, rfl⟩⟩
    have := FsV.owner_in ((FsV.go_mem ho).1 _ hp2) (by dsimp only; omega)
    dsimp only at this
    omega
theorem beyond_size (f : F) (n : I) (h : Fit f n) : (beyond f n).size ≤ maxLen := by
  unfold maxLen
  rcases Nat.eq_zero_or_pos n.blocks.length with h0 | hp
  · rw [FsB.beyond_none h0]; decide
  · obtain ⟨L, hL⟩ : ∃ L, n.blocks.length = L + 1 := ⟨n.blocks.length - 1, by omega⟩
    obtain ⟨X, hX, hX32, hL7⟩ := h.x hL
    by_cases hm : n.blocks.getD L 0 = -1
    · rw [FsB.beyond_hole hL hm]; decide
    · have hb := h.blk _ (show n.blocks.getD L 0 ∈ n.blocks from FsV.mem_getD (by omega))
      rw [FsB.beyond_at (k := (n.blocks.getD L 0).toNat) hL (by omega) hX, ByteArray.size_extract]
      omega
theorem else_no1 {f : F} {k : Nat} (hk : k < 56) (h : freeB f k = false) : elseB f = false := by rw [elseB, FsV.range_no hk h]; rfl
theorem else_no2 {f : F} {i : Nat} (hi : i < f.inodes.length) (h : zB (beyond f (f.inodes.getD i InoV.zero)) = false) : elseB f = false := by
  rw [elseB, FsV.all_no (p := fun n => zB (beyond f n)) (z := InoV.zero) hi h, Bool.and_false]

set_option maxRecDepth 100000 in
set_option maxHeartbeats 6400000 in
theorem else_impl (w : World) (v : Value) (f : F) (hc : FsF.cost f ≤ 1073741824) (hl : FsF.Lim f) (hp : partsB f = true) (ho : ownB f.inodes = true) (h : FsF.Holds w v f) :
    Calls Tryz.prog 75 #[v] w fun e w' => e = .returned (.bool (elseB f)) ∧ Below w.heap.size w w' := by
  have HFS := Lib.hid h
  obtain ⟨_, hI20, hD56, _, _, _⟩ := FsV.parts_of hp
  have HFIT := Lib.hid (fun i hi => fit_of (i := i) hp ho hi)
  have HBS := Lib.hid (fun i hi => beyond_size f _ (fit_of (i := i) hp ho hi))
  have HSA := Lib.hid (fun i (hi : i < f.data.length) => FsP.size_at hl hi)
  have HN1 := Lib.hid (fun k (hk : k < 56) h => else_no1 (f := f) hk h)
  have HN2 := Lib.hid (fun i hi h => else_no2 (f := f) (i := i) hi h)
  have HIU := Lib.hid (fun W v' (hv : IF.Holds W v' f.inodes) => FsU.inuse_any W v' f.inodes (Nat.le_trans (FsF.le_inodes f) hc) hl.inodes hv)
  obtain ⟨r0, r1, r2, rfl, g0, g1, g2⟩ := h
  have G1 := Lib.hid g1
  obtain ⟨qa, qc, rfl⟩ := QF.form g0
  obtain ⟨ia, ic, rfl, _, hI⟩ := IF.atL g1
  obtain ⟨da, dc, rfl, hD⟩ := g2
  have HI := Lib.hid hI
  have HD := Lib.hid (show ∀ i, i < f.data.length → ∃ b o, da = some ⟨b, o, none⟩ ∧ b < w.heap.size ∧ w.cell? ⟨b, o + i, none⟩ = some (.string (f.data.getD i ⟨#[]⟩)) from fun i hi => by
    obtain ⟨b, o, e, hlt, hcell⟩ := hD (by intro e; rw [e] at hi; simp at hi)
    exact ⟨b, o, e, hlt, hcell i hi⟩)
  have HL2 := Lib.hid hI20
  have HL3 := Lib.hid hD56
  rw [hI20] at HFS G1 ⊢
  rw [hD56] at HFS ⊢
  obtain ⟨T, hT⟩ : ∃ T, T = f.tick := ⟨_, rfl⟩
  obtain ⟨Q, hQ⟩ : ∃ Q, Q = f.quotas.length := ⟨_, rfl⟩
  rw [← hT, ← hQ] at HFS ⊢
  clear hT hQ g0 g1 hI hD hI20 hD56 hc hl hp ho
  have HB0 := Lib.hid ((Below.refl w.heap.size w).alloc (Nat.le_refl _) (.cells #[.int .i64 T, .slice qa Q qc, .slice ia 20 ic, .slice da 56 dc] 27))
  have HX0 := Lib.hid (new w #[.int .i64 T, .slice qa Q qc, .slice ia 20 ic, .slice da 56 dc] 27)
  go_enter Tryz.func75, Tryz.ntmps75
  go_wp2_with fail
  refine (HIU.out _ _ (IF.holds_below G1.out HB0.out)).mono ?_
  rintro e w1 ⟨N, rfl, his, hb⟩
  have HI1 := Lib.hid his
  have HB1 := Lib.hid (HB0.out.trans (hb.mono HB0.out.size))
  have HX1 := Lib.hid (HX0.out.all hb)
  have hsz0 := hb.size
  clear his hb HIU HB0 HX0
  rw [show (w.alloc (.cells #[.int .i64 T, .slice qa Q qc, .slice ia 20 ic, .slice da 56 dc] 27)).heap.size = w.heap.size + 1 from by simp] at HI1 ⊢
  have x3 := HX1.out.cell 3
  dsimp at x3
  go_wp2
  clear x3
  go_loopw [14] (fun iv wr => ∃ k : Nat, k ≤ 56 ∧ iv = .int .i64 k ∧ Bk wr w.heap.size #[.int .i64 T, .slice qa Q qc, .slice ia 20 ic, .slice da 56 dc] 27 ∧ Is wr (w.heap.size + 1) N (hasB (allB f.inodes)) ∧ Below w.heap.size w wr ∧ rangeTo (freeB f) k = true) (fun iv _ => 56 - (intOf iv).toNat)
  case atStart => exact ⟨0, Nat.zero_le _, rfl, HX1.out, HI1.out, HB1.out, rfl⟩
  case round =>
    obtain ⟨k, hk, rfl, hx, his, hbel, hr⟩ := hrel
    have HB := Lib.hid hbel
    have HX := Lib.hid hx
    have HS := Lib.hid his
    have HR := Lib.hid hr
    clear hx hbel hr his HX1 HI1 HB1
    by_cases hlt : k < 56
    · have hkl : k < f.data.length := by rw [HL3.out]; exact hlt
      obtain ⟨b, o, rfl, hb, c0⟩ := HD.out k hkl
      rw [← HB.out.cell (p := ⟨b, _, none⟩) hb] at c0
      have hcx := HSA.out k hkl
      have HNO := Lib.hid (HN1.out k hlt)
      have HSU := Lib.hid (FsV.rangeTo_succ (freeB f) k)
      have hfree : freeB f k = (hasB (allB f.inodes) k || zB (f.data.getD k ⟨#[]⟩)) := rfl
      have hlk := HS.out.look (x := (k : Int)) (by unfold Rg; omega)
      generalize f.data.getD k ⟨#[]⟩ = s at c0 hcx hfree
      generalize hasB (allB f.inodes) (k : Int) = A at hlk hfree
      have HFR := Lib.hid hfree
      have HCX := Lib.hid hcx
      clear hfree hcx hkl
      cases A
      · go_wp2_with fail
        refine (zeroes_any s _ HCX.out).mono ?_
        rintro e w2 ⟨rfl, hb2⟩
        have HB2 := Lib.hid (HB.out.trans (hb2.mono HB.out.size))
        have HX2 := Lib.hid (HX.out.all hb2)
        have HS2 := Lib.hid (HS.out.below hb2)
        clear hb2 hlk c0
        cases hz : zB s
        · have HF := Lib.hid (HNO.out (by rw [HFR.out, hz]; rfl))
          clear hz
          go_wp2
          go_ret
          exact ⟨ret_bool HF.out.symm, HB2.out⟩
        · have HN := Lib.hid (show rangeTo (freeB f) (k + 1) = true by rw [HSU.out, HR.out, HFR.out, hz]; rfl)
          clear hz
          go_wp2
          go_roundw
          case rel => exact ⟨k + 1, by omega, by go_num, HX2.out, HS2.out, HB2.out, HN.out⟩
          case measure => simp [intOf]; omega
      · have HN := Lib.hid (show rangeTo (freeB f) (k + 1) = true by rw [HSU.out, HR.out, HFR.out]; rfl)
        go_wp2
        go_roundw
        case rel => exact ⟨k + 1, by omega, by go_num, HX.out, HS.out, HB.out, HN.out⟩
        case measure => simp [intOf]; omega
    · obtain rfl : k = 56 := by omega
      rw [show ((56 : Nat) : Int) = 56 from rfl]
      have HRA := Lib.hid (show (List.range 56).all (freeB f) = true from HR.out)
      have x2 := HX.out.cell 2
      dsimp at x2
      go_wp2
      clear x2
      go_loopw [32] (fun iv wr => ∃ k : Nat, k ≤ 20 ∧ iv = .int .i64 k ∧ Bk wr w.heap.size #[.int .i64 T, .slice qa Q qc, .slice ia 20 ic, .slice da 56 dc] 27 ∧ Below w.heap.size w wr ∧ allTo (fun n => zB (beyond f n)) f.inodes k = true) (fun iv _ => 20 - (intOf iv).toNat)
      case atStart => exact ⟨0, Nat.zero_le _, rfl, HX.out, HB.out, FsV.allTo_zero _ _⟩
      case round =>
        obtain ⟨k, hk, rfl, hx, hbel, hr⟩ := hrel
        replace HB := Lib.hid hbel
        replace HX := Lib.hid hx
        replace HR := Lib.hid hr
        have hsz := hbel.size
        clear hx hbel hr HS
        by_cases hlt : k < 20
        · have hkl : k < f.inodes.length := by rw [HL2.out]; exact hlt
          obtain ⟨b, o, rfl, hb, r0, r1, r2, hC, hP⟩ := HI.out k hkl
          have HP := Lib.hid (IF.parts_holds (IF.parts_below hP HB.out))
          obtain ⟨p0, p1, p2⟩ := hP
          obtain ⟨a0, d0, rfl⟩ := NiF.form p0
          obtain ⟨a1, d1, rfl⟩ := AeF.form p1
          obtain ⟨a2, d2, rfl⟩ := AeF.form p2
          obtain ⟨c0, c1, c2, c3, c4, c5, c6, c7, c8, c9⟩ := hC.below hb HB.out
          have HSU := Lib.hid (FsV.allTo_succ (fun n => zB (beyond f n)) f.inodes IF.z0 k hkl)
          have HNO := Lib.hid (HN2.out k hkl)
          have HFI := Lib.hid (HFIT.out k hkl)
          have HSZ := Lib.hid (HBS.out k hkl)
          rw [show InoV.zero = IF.z0 from rfl] at HNO HFI HSZ
          clear hC p0 p1 p2 hkl
          generalize f.inodes.getD k IF.z0 = n at c0 c1 c2 c3 c4 c5 c6 c7 c8 c9 HNO HSU HFI HSZ HP
          have HW := Lib.hid ((Below.refl wr.heap.size wr).alloc (Nat.le_refl _) (.cells #[.int .i64 n.kind, .int .i64 n.mode, .int .i64 n.uid, .int .i64 n.gid, .int .i64 n.links, .int .i64 n.size, .int .i64 n.tick, .slice a0 n.blocks.length d0, .slice a1 n.acl.length d1, .slice a2 n.dflt.length d2] 34))
          have HN := Lib.hid (HB.out.trans (HW.out.mono hsz))
          have HXN := Lib.hid (HX.out.alloc (.cells #[.int .i64 n.kind, .int .i64 n.mode, .int .i64 n.uid, .int .i64 n.gid, .int .i64 n.links, .int .i64 n.size, .int .i64 n.tick, .slice a0 n.blocks.length d0, .slice a1 n.acl.length d1, .slice a2 n.dflt.length d2] 34))
          have HPN := Lib.hid (In.holds_below HP.out HW.out)
          have HFN := Lib.hid (FsF.holds_below HFS.out HN.out)
          obtain ⟨x0, x1, x2, x3⟩ := Bk.c4 HXN.out
          go_wp2_with fail
          refine (FsB.beyond_impl _ _ _ f n HFN.out HPN.out HFI.out).mono ?_
          rintro e w2 ⟨rfl, hb2⟩
          have HB2 := Lib.hid (HN.out.trans (hb2.mono HN.out.size))
          have HX2 := Lib.hid (HXN.out.all hb2)
          clear hb2 x0 x1 x2 x3 c0 c1 c2 c3 c4 c5 c6 c7 c8 c9
          generalize beyond f n = s at HSZ HNO HSU ⊢
          go_wp2_with fail
          refine (zeroes_any s _ HSZ.out).mono ?_
          rintro e w3 ⟨rfl, hb3⟩
          have HB3 := Lib.hid (HB2.out.trans (hb3.mono HB2.out.size))
          have HX3 := Lib.hid (HX2.out.all hb3)
          clear hb3
          cases hz : zB s
          · have HF := Lib.hid (HNO.out hz)
            clear hz
            go_wp2
            go_ret
            exact ⟨ret_bool HF.out.symm, HB3.out⟩
          · have HN4 := Lib.hid (show allTo (fun n => zB (beyond f n)) f.inodes (k + 1) = true by rw [HSU.out, HR.out, hz]; rfl)
            clear hz
            go_wp2
            go_roundw
            case rel => exact ⟨k + 1, by omega, by go_num, HX3.out, HB3.out, HN4.out⟩
            case measure => simp [intOf]; omega
        · obtain rfl : k = 20 := by omega
          have HF := Lib.hid (show elseB f = true by rw [elseB, HRA.out, ← FsV.allTo_end (fun n => zB (beyond f n)) f.inodes 20 HL2.out.symm, HR.out]; rfl)
          go_wp2
          go_ret
          exact ⟨ret_bool HF.out.symm, HB.out⟩

set_option maxRecDepth 100000 in
set_option maxHeartbeats 6400000 in
theorem is_impl (w : World) (v : Value) (f : F) (hc : FsF.cost f ≤ 1073741824) (hl : FsF.Lim f) (hv : InOk.Vars w) (h : FsF.Holds w v f) :
    Calls Tryz.prog 23 #[v] w fun e w' => e = .returned (.bool (okF f)) ∧ Below w.heap.size w w' := by
  have HFS := Lib.hid h
  have HHI := Lib.hid (show IF.cost f.inodes ≤ 1073741824 from Nat.le_trans (FsF.le_inodes f) hc)
  obtain ⟨r0, r1, r2, rfl, g0, g1, g2⟩ := h
  have G1 := Lib.hid g1
  obtain ⟨qa, qc, rfl⟩ := QF.form g0
  obtain ⟨ia, ic, rfl, _, hI⟩ := IF.atL g1
  obtain ⟨da, dc, rfl⟩ := SF.form g2
  have HI := Lib.hid hI
  have HV := Lib.hid hv
  have HLM := Lib.hid hl
  have HCC := Lib.hid hc
  clear g0 g1 g2 hI hv hl hc
  obtain ⟨T, hT⟩ : ∃ T, T = f.tick := ⟨_, rfl⟩
  obtain ⟨Q, hQ⟩ : ∃ Q, Q = f.quotas.length := ⟨_, rfl⟩
  obtain ⟨M, hM⟩ : ∃ M, M = f.inodes.length := ⟨_, rfl⟩
  obtain ⟨D, hD⟩ : ∃ D, D = f.data.length := ⟨_, rfl⟩
  have HTK := Lib.hid (show FsV.tickB f = (decide (0 ≤ T) && decide (T ≤ 1000000000)) from by rw [FsV.tickB, hT])
  rw [← hT, ← hQ, ← hM, ← hD] at HFS ⊢
  rw [← hM] at G1
  have HM := Lib.hid hM
  clear hT hQ hM hD
  have HB0 := Lib.hid ((Below.refl w.heap.size w).alloc (Nat.le_refl _) (.cells #[.int .i64 T, .slice qa Q qc, .slice ia M ic, .slice da D dc] 27))
  have HX0 := Lib.hid (new w #[.int .i64 T, .slice qa Q qc, .slice ia M ic, .slice da D dc] 27)
  by_cases h0 : T < 0
  · have HF := Lib.hid (show okF f = false by rw [okF, HTK.out, decide_eq_false (by omega)]; rfl)
    have q1 : decide (T < 0) = true := decide_eq_true h0
    clear h0
    go_enter Tryz.func23, Tryz.ntmps23
    go_wp2
    go_ret
    exact ⟨ret_bool HF.out.symm, HB0.out⟩
  · by_cases h1 : 1000000000 < T
    · have HF := Lib.hid (show okF f = false by rw [okF, HTK.out, decide_eq_false (show ¬ T ≤ 1000000000 by omega)]; simp)
      have q0 : decide (T < 0) = false := decide_eq_false h0
      have q1 : decide (1000000000 < T) = true := decide_eq_true h1
      clear h0 h1
      go_enter Tryz.func23, Tryz.ntmps23
      go_wp2
      go_ret
      exact ⟨ret_bool HF.out.symm, HB0.out⟩
    · have HT2 := Lib.hid (show FsV.tickB f = true by rw [HTK.out, decide_eq_true (show 0 ≤ T by omega), decide_eq_true (show T ≤ 1000000000 by omega)]; rfl)
      have q0 : decide (T < 0) = false := decide_eq_false h0
      have q1 : decide (1000000000 < T) = false := decide_eq_false h1
      clear h0 h1
      go_enter Tryz.func23, Tryz.ntmps23
      go_wp2_with fail
      refine (FsP.parts_impl _ _ f HCC.out HLM.out (HV.out.all HB0.out) (FsF.holds_below HFS.out HB0.out)).mono ?_
      rintro e w1 ⟨rfl, hb1⟩
      have HB1 := Lib.hid (HB0.out.trans (hb1.mono HB0.out.size))
      have HX1 := Lib.hid (HX0.out.all hb1)
      clear hb1
      cases hp : FsV.partsB f
      · have HF := Lib.hid (show okF f = false by rw [okF, hp]; simp)
        clear hp
        go_wp2
        go_ret
        exact ⟨ret_bool HF.out.symm, HB1.out⟩
      · have HP := Lib.hid hp
        have hM20 : M = 20 := by rw [HM.out]; exact (FsV.parts_of hp).2.1
        subst hM20
        clear hp
        obtain ⟨b, o, rfl, hb, r0, r1, r2, hC, hPt⟩ := HI.out 0 (by rw [← HM.out]; omega)
        have c0 := (hC.below hb HB1.out).1
        have HRB := Lib.hid (show FsV.rootB f = decide ((f.inodes.getD 0 IF.z0).kind = 2) from rfl)
        rw [Nat.zero_mul, Nat.add_zero] at c0
        clear hC hPt
        generalize (f.inodes.getD 0 IF.z0).kind = K at c0 HRB
        obtain ⟨x0, x1, x2, x3⟩ := Bk.c4 HX1.out
        by_cases hk : K = 2
        · have k1 : (K == 2) = true := by simpa using hk
          have k2 : (K != 2) = false := by simpa using hk
          have HR := Lib.hid (show FsV.rootB f = true by rw [HRB.out]; exact decide_eq_true hk)
          clear hk
          go_wp2_with fail
          refine (FsW.own_impl _ _ f.inodes HHI.out HLM.out.inodes (IF.holds_below G1.out HB1.out)).mono ?_
          rintro e w2 ⟨rfl, hb2⟩
          have HB2 := Lib.hid (HB1.out.trans (hb2.mono HB1.out.size))
          have HX2 := Lib.hid (HX1.out.all hb2)
          clear hb2 x0 x1 x2 x3 c0 k1 k2
          cases ho : FsV.ownB f.inodes
          · have HF := Lib.hid (show okF f = false by rw [okF, ho]; simp)
            clear ho
            go_wp2
            go_ret
            exact ⟨ret_bool HF.out.symm, HB2.out⟩
          · have HO := Lib.hid ho
            clear ho
            obtain ⟨x0, x1, x2, x3⟩ := Bk.c4 HX2.out
            go_wp2_with fail
            refine (else_impl _ _ f HCC.out HLM.out HP.out HO.out (FsF.holds_below HFS.out HB2.out)).mono ?_
            rintro e w3 ⟨rfl, hb3⟩
            have HB3 := Lib.hid (HB2.out.trans (hb3.mono HB2.out.size))
            clear hb3 x0 x1 x2 x3
            have HF := Lib.hid (show okF f = FsV.elseB f by rw [okF, HT2.out, HP.out, HR.out, HO.out]; rfl)
            go_wp2
            go_ret
            exact ⟨ret_bool HF.out.symm, HB3.out⟩
        · have k1 : (K == 2) = false := by simpa using hk
          have k2 : (K != 2) = true := by simpa using hk
          have HF := Lib.hid (show okF f = false by rw [okF, HRB.out, decide_eq_false hk]; simp)
          clear hk
          go_wp2
          go_ret
          exact ⟨ret_bool HF.out.symm, HB1.out⟩
end Go.Proofs.YtafmpllkehbmeaaGreatDoor.FsE
