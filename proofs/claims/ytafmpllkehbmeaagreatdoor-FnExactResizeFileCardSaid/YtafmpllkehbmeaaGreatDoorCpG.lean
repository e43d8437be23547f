/- Contract: the program's copyFS gives the same file system, all its rows the call's own. Conditions: the cost. -/
import Derived.Test.YtafmpllkehbmeaaGreatDoorCpF
import Derived.Test.YtafmpllkehbmeaaGreatDoorCpI
namespace Go.Proofs.YtafmpllkehbmeaaGreatDoor.CpG
open Go.ChangeShapes Go.WideShapes Go.ChangeAt Go.RowKit
open Foot Bx
open InoV (I)
open FsV (F)
open FoB CpF
open Lib (hid)
set_option linter.unusedVariables false

set_option maxRecDepth 100000 in
set_option maxHeartbeats 6400000 in
theorem copy_impl (w : World) (v : Value) (f : F) (hc : FsF.cost f ≤ 1073741824) (hl : FsF.Lim f) (h : FsF.Holds w v f) :
    Calls Tryz.prog 59 #[v] w fun e w' => ∃ v' S, e = .returned v' ∧ FsF.Own w' w.heap.size v' f S ∧ Below w.heap.size w w' := by
  have HFS := Lib.hid h
  obtain ⟨r0, r1, r2, rfl, g0, g1, g2⟩ := h
  have hb0 : f.quotas.length ≤ 1073741824 := Nat.le_trans (FsF.le_quotas f) hc
  have hb1 : IF.cost f.inodes ≤ 1073741824 := Nat.le_trans (FsF.le_inodes f) hc
  have hb2 : f.data.length ≤ 1073741824 := Nat.le_trans (Nat.le_trans (Nat.le_add_right _ _) (FsF.le_data f)) hc
  have HC0 := Lib.hid hb0
  have HC1 := Lib.hid hb1
  have HC2 := Lib.hid hb2
  have H0 := Lib.hid g0
  have H1 := Lib.hid g1
  have H2 := Lib.hid g2
  obtain ⟨es, hns0, hsrc0, hes0⟩ := ClN.src_is g1
  have HNS := Lib.hid hns0
  have HES := Lib.hid hes0
  obtain ⟨a0, d0, rfl⟩ := QF.form g0
  obtain ⟨a1, d1, rfl⟩ := IF.form g1
  obtain ⟨a2, d2, rfl⟩ := SF.form g2
  have HSRC := Lib.hid hsrc0
  clear g0 g1 g2 hb0 hb1 hb2 hns0 hes0 hsrc0
  obtain ⟨TK, hTK⟩ : ∃ T, T = f.tick := ⟨_, rfl⟩
  rw [← hTK] at HFS ⊢
  have HTK := Lib.hid hTK
  clear hTK
  obtain ⟨L0, hL0⟩ : ∃ L, L = f.quotas.length := ⟨_, rfl⟩
  obtain ⟨L1, hL1⟩ : ∃ L, L = f.inodes.length := ⟨_, rfl⟩
  obtain ⟨L2, hL2⟩ : ∃ L, L = f.data.length := ⟨_, rfl⟩
  rw [← hL0] at H0 ⊢
  rw [← hL1] at H1 HSRC ⊢
  rw [← hL2] at H2 ⊢
  have HL0 := Lib.hid hL0
  have HL1 := Lib.hid hL1
  have HL2 := Lib.hid hL2
  clear hL0 hL1 hL2 HFS
  have HB := Lib.hid (((Below.refl w.heap.size w).alloc (Nat.le_refl _) (.cells #[.int .i64 TK, .slice a0 L0 d0, .slice a1 L1 d1, .slice a2 L2 d2] 27)).alloc (by simp) (.cells #[.int .i64 0, .slice none 0 0, .slice none 0 0, .slice none 0 0] 27))
  have HX := Lib.hid ((new w #[.int .i64 TK, .slice a0 L0 d0, .slice a1 L1 d1, .slice a2 L2 d2] 27).alloc (.cells #[.int .i64 0, .slice none 0 0, .slice none 0 0, .slice none 0 0] 27))
  have HR := Lib.hid (new_at (w.alloc (.cells #[.int .i64 TK, .slice a0 L0 d0, .slice a1 L1 d1, .slice a2 L2 d2] 27)) #[.int .i64 0, .slice none 0 0, .slice none 0 0, .slice none 0 0] 27 (w.heap.size + 1) (by simp))
  have HCQ := Lib.hid (fun (W : World) (hb : Below w.heap.size w W) => show Calls Tryz.prog 125 #[.slice a0 L0 d0] W fun e w' => ∃ v', e = .returned v' ∧ QF.Own w' W.heap.size v' f.quotas (fpR v') ∧ Below W.heap.size W w' from FsM.clone_any W _ f.quotas HC0.out (Qt.holds_below H0.out hb))
  have HCI := Lib.hid (fun (W : World) (hb : Below w.heap.size w W) => show Calls Tryz.prog 126 #[.slice a1 L1 d1] W fun e w' => ∃ v' : Value, e = .returned v' ∧ w'.ownsRow W.heap.size 34 10 v' L1 (IF.cells es) ∧ Below W.heap.size W w' from ClN.cloneI_any W _ es _ (by have h1 := HC1.out; have h2 : f.inodes.length ≤ IF.cost f.inodes := Nat.le_add_right _ _; have h3 := HL1.out; omega) (ClN.src_below HSRC.out hb))
  have HCS := Lib.hid (fun (W : World) (hb : Below w.heap.size w W) => show Calls Tryz.prog 127 #[.slice a2 L2 d2] W fun e w' => ∃ v', e = .returned v' ∧ w'.ownsRow W.heap.size 9 1 v' f.data.length (f.data.map Value.string) ∧ Below W.heap.size W w' from ClN.cloneS_any W _ f.data HC2.out (SF.holds_below H2.out hb))
  go_enter Tryz.func59, Tryz.ntmps59
  go_wp2
  generalize hW0 : (w.alloc (.cells #[.int .i64 TK, .slice a0 L0 d0, .slice a1 L1 d1, .slice a2 L2 d2] 27)).alloc (.cells #[.int .i64 0, .slice none 0 0, .slice none 0 0, .slice none 0 0] 27) = w0 at *
  have hsz0 : w0.heap.size = w.heap.size + 1 + 1 := by rw [← hW0]; simp
  have hs0 := Nat.le_of_eq hsz0.symm
  clear hW0 hsz0
  have c1 : w0.cell? ⟨w.heap.size, 1, none⟩ = some (.slice a0 L0 d0) := HX.out.cell 1
  have c2 : w0.cell? ⟨w.heap.size, 2, none⟩ = some (.slice a1 L1 d1) := HX.out.cell 2
  have c3 : w0.cell? ⟨w.heap.size, 3, none⟩ = some (.slice a2 L2 d2) := HX.out.cell 3
  refine Code.wp_mono (Q := NoPanic fun e a W => e = .normal ∧ ∃ (va0 va1 va2 : Option Addr) (vc0 vc1 vc2 : Nat) (y5 y6 y7 y8 y9 y10 y11 y12 y13 y14 y15 y16 : Value), a = { tmps := #[.agg #[.int .i64 TK, .slice a0 L0 d0, .slice a1 L1 d1, .slice a2 L2 d2], .pointer (some ⟨w.heap.size, 0, none⟩), .pointer (some ⟨w.heap.size + 1, 0, none⟩), undef, undef, y5, y6, y7, y8, y9, y10, y11, y12, y13, y14, y15, y16, undef, undef, undef, undef, undef, undef, undef, undef, undef, undef, undef, undef, undef, undef, undef, undef], defers := [] } ∧ Pre w f es W (.slice va0 f.quotas.length vc0) (.slice va1 f.inodes.length vc1) (.slice va2 f.data.length vc2)) ?mid ?reg
  case mid =>
    rintro e a W hq
    obtain ⟨rfl, va0, va1, va2, vc0, vc1, vc2, y5, y6, y7, y8, y9, y10, y11, y12, y13, y14, y15, y16, rfl, hpre⟩ := NoPanic.imp _ _ _ hq
    clear hq
    obtain ⟨p1, p2, p3, p4, p5, p6, p7, p8, p9⟩ := id hpre
    have HP0 := Lib.hid hpre
    have hesl : es.length = f.inodes.length := by rw [← HNS.out, IF.ns_length]
    have HESL := Lib.hid hesl
    have HND := Lib.hid p7
    have HHH := Lib.hid (show ∀ k ∈ fpR (.slice va0 f.quotas.length vc0) ++ fpR (.slice va1 f.inodes.length vc1) ++ fpR (.slice va2 f.data.length vc2), w.heap.size + 1 + 1 ≤ k ∧ k < W.heap.size from fun k hk => by
      rcases List.mem_append.1 hk with hk | hk
      · rcases List.mem_append.1 hk with hk | hk
        · exact QF.own_lies p4 k hk
        · exact row_lies p5 k hk
      · exact SF.own_lies p6 k hk)
    have HBW := Lib.hid p1
    have HR0 := Lib.hid (rel_start hpre)
    have HCEL := Lib.hid (fun i (hi : i < f.inodes.length) => Nat.le_trans (IF.cost_at hi) (Nat.le_trans (Nat.le_trans (Nat.le_add_left _ _) (FsF.le_inodes f)) hc))
    obtain ⟨m0, m1, m2, m3⟩ := Bk.c4 p2
    obtain ⟨M, hM⟩ : ∃ M, M = f.inodes.length := ⟨_, rfl⟩
    have hMl : M ≤ 1073741824 := by
      have : f.inodes.length ≤ IF.cost f.inodes := Nat.le_add_right _ _
      have := Nat.le_trans (FsF.le_inodes f) hc
      omega
    rw [← hM] at m2
    have HM := Lib.hid hM
    obtain ⟨H, hH⟩ : ∃ H, H = W.heap.size := ⟨_, rfl⟩
    rw [← hH] at HR0 HHH
    have HWH := Lib.hid (Nat.le_of_eq hH)
    clear p1 p2 p3 p4 p5 p6 p7 p8 p9 hpre hesl hM hH m0 m1 m3 hc hl
    go_wp2
    clear m2
    go_loopw [20] (fun iv wr => ∃ i : Nat, i ≤ M ∧ iv = .int .i64 i ∧ Rel w f es H (.slice va0 f.quotas.length vc0) (.slice va1 f.inodes.length vc1) (.slice va2 f.data.length vc2) i wr) (fun iv _ => M - (intOf iv).toNat)
    case atStart => exact ⟨0, Nat.zero_le _, rfl, HR0.out⟩
    case round =>
      obtain ⟨i, hi, rfl, hrel⟩ := hrel
      have HRR := Lib.hid hrel
      by_cases hlt : i < M
      · have hlx : i < f.inodes.length := by rw [← HM.out]; exact hlt
        have hie : i < es.length := by rw [HESL.out]; exact hlx
        obtain ⟨done, q1, q2, q3, q4, q5, q6, q7, q8, q9, q10, q11, q12⟩ := hrel
        obtain ⟨g, rfl, hgg⟩ : ∃ g, va1 = some ⟨g, 0, none⟩ ∧ w.heap.size + 1 + 1 ≤ g := by
          rcases q3.2 with ⟨_, hz⟩ | ⟨g, cap, cur, e, hb, _⟩
          · omega
          · rw [Value.slice.injEq] at e; exact ⟨g, e.1, hb⟩
        have hme := HES.out es[i] (List.getElem_mem hie)
        have HBR := Lib.hid q11
        have hszr := q11.size
        have hHr := q12
        have hne : es[i].1 = f.inodes.getD i InoV.zero := by
          rw [← HNS.out, List.getD_eq_getElem?_getD, IF.ns, List.getElem?_map, List.getElem?_eq_getElem hie]; rfl
        have hA : (IF.cells done).length = i * 10 := by rw [IF.cells_len q4, q1]
        have hsp : IF.cells done ++ IF.cells (es.drop i) = IF.cells done ++ (IF.vcells es[i].2.1 ++ IF.cells (es.drop (i + 1))) := by
          rw [List.drop_eq_getElem_cons hie]; rfl
        rw [hsp] at q3
        have hcx := HCEL.out i hlx
        rw [show IF.z0 = InoV.zero from rfl, ← hne] at hcx
        obtain ⟨⟨n0, y0, S00⟩, hee⟩ : ∃ e, e = es[i] := ⟨_, rfl⟩
        rw [← hee] at hme hne hcx q3
        dsimp only at hme hne hcx q3
        have HHX := Lib.hid (In.holds_below hme HBR.out)
        obtain ⟨r0, r1, r2, rfl, g0, g1, g2⟩ := hme
        obtain ⟨b0, e0, rfl⟩ := NiF.form g0
        obtain ⟨b1, e1, rfl⟩ := AeF.form g1
        obtain ⟨b2, e2, rfl⟩ := AeF.form g2
        have HROW := Lib.hid q3
        have HNE := Lib.hid hne
        have HA := Lib.hid hA
        have HLEN := Lib.hid (show i * 10 + 10 ≤ f.inodes.length * 10 by have := Nat.mul_le_mul_right 10 (show i + 1 ≤ f.inodes.length by omega); rw [Nat.succ_mul] at this; omega)
        have HX := Lib.hid q7
        have HCX := Lib.hid hcx
        clear g0 g1 g2 q1 q2 q3 q4 q5 q6 q7 q8 q9 q10 q11 q12 hsp hne hA hee hcx
        have d0 : wr.cell? ⟨g, i * 10, none⟩ = some (.int .i64 n0.kind) := by rw [HROW.out.cellAt _ (by have := HLEN.out; omega), List.getElem?_append_right (by rw [HA.out]; omega), HA.out]; rw [Nat.sub_self]; rfl
        have d1 : wr.cell? ⟨g, i * 10 + 1, none⟩ = some (.int .i64 n0.mode) := by rw [HROW.out.cellAt _ (by have := HLEN.out; omega), List.getElem?_append_right (by rw [HA.out]; omega), HA.out]; rw [Nat.add_sub_cancel_left]; rfl
        have d2 : wr.cell? ⟨g, i * 10 + 2, none⟩ = some (.int .i64 n0.uid) := by rw [HROW.out.cellAt _ (by have := HLEN.out; omega), List.getElem?_append_right (by rw [HA.out]; omega), HA.out]; rw [Nat.add_sub_cancel_left]; rfl
        have d3 : wr.cell? ⟨g, i * 10 + 3, none⟩ = some (.int .i64 n0.gid) := by rw [HROW.out.cellAt _ (by have := HLEN.out; omega), List.getElem?_append_right (by rw [HA.out]; omega), HA.out]; rw [Nat.add_sub_cancel_left]; rfl
        have d4 : wr.cell? ⟨g, i * 10 + 4, none⟩ = some (.int .i64 n0.links) := by rw [HROW.out.cellAt _ (by have := HLEN.out; omega), List.getElem?_append_right (by rw [HA.out]; omega), HA.out]; rw [Nat.add_sub_cancel_left]; rfl
        have d5 : wr.cell? ⟨g, i * 10 + 5, none⟩ = some (.int .i64 n0.size) := by rw [HROW.out.cellAt _ (by have := HLEN.out; omega), List.getElem?_append_right (by rw [HA.out]; omega), HA.out]; rw [Nat.add_sub_cancel_left]; rfl
        have d6 : wr.cell? ⟨g, i * 10 + 6, none⟩ = some (.int .i64 n0.tick) := by rw [HROW.out.cellAt _ (by have := HLEN.out; omega), List.getElem?_append_right (by rw [HA.out]; omega), HA.out]; rw [Nat.add_sub_cancel_left]; rfl
        have d7 : wr.cell? ⟨g, i * 10 + 7, none⟩ = some (.slice b0 n0.blocks.length e0) := by rw [HROW.out.cellAt _ (by have := HLEN.out; omega), List.getElem?_append_right (by rw [HA.out]; omega), HA.out]; rw [Nat.add_sub_cancel_left]; rfl
        have d8 : wr.cell? ⟨g, i * 10 + 8, none⟩ = some (.slice b1 n0.acl.length e1) := by rw [HROW.out.cellAt _ (by have := HLEN.out; omega), List.getElem?_append_right (by rw [HA.out]; omega), HA.out]; rw [Nat.add_sub_cancel_left]; rfl
        have d9 : wr.cell? ⟨g, i * 10 + 9, none⟩ = some (.slice b2 n0.dflt.length e2) := by rw [HROW.out.cellAt _ (by have := HLEN.out; omega), List.getElem?_append_right (by rw [HA.out]; omega), HA.out]; rw [Nat.add_sub_cancel_left]; rfl
        have x2 : wr.cell? ⟨w.heap.size, 2, none⟩ = some (.slice (some ⟨g, 0, none⟩) M vc1) := by rw [HM.out]; exact HX.out.cell 2
        have HAL := Lib.hid (rel_below HRR.out ((Below.refl wr.heap.size wr).alloc (Nat.le_refl _) (.cells #[.int .i64 n0.kind, .int .i64 n0.mode, .int .i64 n0.uid, .int .i64 n0.gid, .int .i64 n0.links, .int .i64 n0.size, .int .i64 n0.tick, .slice b0 n0.blocks.length e0, .slice b1 n0.acl.length e1, .slice b2 n0.dflt.length e2] 34)))
        have HBA := Lib.hid (HBR.out.alloc hszr (.cells #[.int .i64 n0.kind, .int .i64 n0.mode, .int .i64 n0.uid, .int .i64 n0.gid, .int .i64 n0.links, .int .i64 n0.size, .int .i64 n0.tick, .slice b0 n0.blocks.length e0, .slice b1 n0.acl.length e1, .slice b2 n0.dflt.length e2] 34))
        have HNB := Lib.hid (new wr #[.int .i64 n0.kind, .int .i64 n0.mode, .int .i64 n0.uid, .int .i64 n0.gid, .int .i64 n0.links, .int .i64 n0.size, .int .i64 n0.tick, .slice b0 n0.blocks.length e0, .slice b1 n0.acl.length e1, .slice b2 n0.dflt.length e2] 34)
        have HXA := Lib.hid (HX.out.alloc (.cells #[.int .i64 n0.kind, .int .i64 n0.mode, .int .i64 n0.uid, .int .i64 n0.gid, .int .i64 n0.links, .int .i64 n0.size, .int .i64 n0.tick, .slice b0 n0.blocks.length e0, .slice b1 n0.acl.length e1, .slice b2 n0.dflt.length e2] 34))
        have HHA := Lib.hid (In.holds_below HHX.out ((Below.refl wr.heap.size wr).alloc (Nat.le_refl _) (.cells #[.int .i64 n0.kind, .int .i64 n0.mode, .int .i64 n0.uid, .int .i64 n0.gid, .int .i64 n0.links, .int .i64 n0.size, .int .i64 n0.tick, .slice b0 n0.blocks.length e0, .slice b1 n0.acl.length e1, .slice b2 n0.dflt.length e2] 34)))
        have HRWA := Lib.hid (World.ownsRow.alloc HROW.out (.cells #[.int .i64 n0.kind, .int .i64 n0.mode, .int .i64 n0.uid, .int .i64 n0.gid, .int .i64 n0.links, .int .i64 n0.size, .int .i64 n0.tick, .slice b0 n0.blocks.length e0, .slice b1 n0.acl.length e1, .slice b2 n0.dflt.length e2] 34))
        have HBWA := Lib.hid ((Below.refl wr.heap.size wr).alloc (Nat.le_refl _) (.cells #[.int .i64 n0.kind, .int .i64 n0.mode, .int .i64 n0.uid, .int .i64 n0.gid, .int .i64 n0.links, .int .i64 n0.size, .int .i64 n0.tick, .slice b0 n0.blocks.length e0, .slice b1 n0.acl.length e1, .slice b2 n0.dflt.length e2] 34))
        have HVL := Lib.hid (show ∀ e ∈ es, (IF.vcells e.2.1).length = 10 from fun e he => by obtain ⟨r0, r1, r2, hv, _⟩ := HES.out e he; rw [hv]; rfl)
        go_wp2
        clear d0 d1 d2 d3 d4 d5 d6 d7 d8 d9 x2
        generalize wr.alloc (.cells #[.int .i64 n0.kind, .int .i64 n0.mode, .int .i64 n0.uid, .int .i64 n0.gid, .int .i64 n0.links, .int .i64 n0.size, .int .i64 n0.tick, .slice b0 n0.blocks.length e0, .slice b1 n0.acl.length e1, .slice b2 n0.dflt.length e2] 34) = wa at *
        have x2 : wa.cell? ⟨w.heap.size, 2, none⟩ = some (.slice (some ⟨g, 0, none⟩) M vc1) := by rw [HM.out]; exact HXA.out.cell 2
        obtain ⟨m0, m1, m2, m3, m4, m5, m6, m7, m8, m9⟩ := Bk.c10 HNB.out
        go_region_law (go_simp; go_at_call 77; ((with_reducible refine (CpI.copyI_impl _ _ n0 HCX.out ?_).mono ?_)); (exact In.holds_below HHA.out (Below.drew (Below.refl _ _))); rintro e w2 ⟨y', T, rfl, hown, hb2⟩; obtain ⟨t0, t1, t2, T0, T1, T2, rfl, hTT, hTn, ho0, ho1, ho2⟩ := id hown; obtain ⟨ya0, yc0, rfl⟩ := NiF.own_form ho0; obtain ⟨ya1, yc1, rfl⟩ := AeF.own_form ho1; obtain ⟨ya2, yc2, rfl⟩ := AeF.own_form ho2; have HOW := Lib.hid hown; have HB2 := Lib.hid hb2; have HRW2 := Lib.hid (row_below (World.ownsRow.drew HRWA.out) hb2); have HX2 := Lib.hid (Bk.all (Bk.drew HXA.out) hb2); clear hown hb2 hTT hTn ho0 ho1 ho2; have x2 : w2.cell? ⟨w.heap.size, 2, none⟩ = some (.slice (some ⟨g, 0, none⟩) M vc1) := (by rw [HM.out]; exact HX2.out.cell 2); have d0 : w2.cell? ⟨g, i * 10, none⟩ = some (.int .i64 n0.kind) := (by rw [HRW2.out.cellAt _ (by have := HLEN.out; omega), List.getElem?_append_right (by rw [HA.out]; omega), HA.out]; rw [Nat.sub_self]; rfl); have f0 := HRW2.out.frozenAt (i * 10); have d1 : w2.cell? ⟨g, i * 10 + 1, none⟩ = some (.int .i64 n0.mode) := (by rw [HRW2.out.cellAt _ (by have := HLEN.out; omega), List.getElem?_append_right (by rw [HA.out]; omega), HA.out]; rw [Nat.add_sub_cancel_left]; rfl); have f1 := HRW2.out.frozenAt (i * 10 + 1); have d2 : w2.cell? ⟨g, i * 10 + 2, none⟩ = some (.int .i64 n0.uid) := (by rw [HRW2.out.cellAt _ (by have := HLEN.out; omega), List.getElem?_append_right (by rw [HA.out]; omega), HA.out]; rw [Nat.add_sub_cancel_left]; rfl); have f2 := HRW2.out.frozenAt (i * 10 + 2); have d3 : w2.cell? ⟨g, i * 10 + 3, none⟩ = some (.int .i64 n0.gid) := (by rw [HRW2.out.cellAt _ (by have := HLEN.out; omega), List.getElem?_append_right (by rw [HA.out]; omega), HA.out]; rw [Nat.add_sub_cancel_left]; rfl); have f3 := HRW2.out.frozenAt (i * 10 + 3); have d4 : w2.cell? ⟨g, i * 10 + 4, none⟩ = some (.int .i64 n0.links) := (by rw [HRW2.out.cellAt _ (by have := HLEN.out; omega), List.getElem?_append_right (by rw [HA.out]; omega), HA.out]; rw [Nat.add_sub_cancel_left]; rfl); have f4 := HRW2.out.frozenAt (i * 10 + 4); have d5 : w2.cell? ⟨g, i * 10 + 5, none⟩ = some (.int .i64 n0.size) := (by rw [HRW2.out.cellAt _ (by have := HLEN.out; omega), List.getElem?_append_right (by rw [HA.out]; omega), HA.out]; rw [Nat.add_sub_cancel_left]; rfl); have f5 := HRW2.out.frozenAt (i * 10 + 5); have d6 : w2.cell? ⟨g, i * 10 + 6, none⟩ = some (.int .i64 n0.tick) := (by rw [HRW2.out.cellAt _ (by have := HLEN.out; omega), List.getElem?_append_right (by rw [HA.out]; omega), HA.out]; rw [Nat.add_sub_cancel_left]; rfl); have f6 := HRW2.out.frozenAt (i * 10 + 6); have d7 : w2.cell? ⟨g, i * 10 + 7, none⟩ = some (.slice b0 n0.blocks.length e0) := (by rw [HRW2.out.cellAt _ (by have := HLEN.out; omega), List.getElem?_append_right (by rw [HA.out]; omega), HA.out]; rw [Nat.add_sub_cancel_left]; rfl); have f7 := HRW2.out.frozenAt (i * 10 + 7); have d8 : w2.cell? ⟨g, i * 10 + 8, none⟩ = some (.slice b1 n0.acl.length e1) := (by rw [HRW2.out.cellAt _ (by have := HLEN.out; omega), List.getElem?_append_right (by rw [HA.out]; omega), HA.out]; rw [Nat.add_sub_cancel_left]; rfl); have f8 := HRW2.out.frozenAt (i * 10 + 8); have d9 : w2.cell? ⟨g, i * 10 + 9, none⟩ = some (.slice b2 n0.dflt.length e2) := (by rw [HRW2.out.cellAt _ (by have := HLEN.out; omega), List.getElem?_append_right (by rw [HA.out]; omega), HA.out]; rw [Nat.add_sub_cancel_left]; rfl); have f9 := HRW2.out.frozenAt (i * 10 + 9))
        all_goals
          have hs2 : wr.heap.size ≤ wa.heap.size := HBWA.out.size
          have hs3 : wa.heap.size ≤ w2.heap.size := HB2.out.size
          have hlT : Lies T wa.heap.size w2.heap.size := In.own_lies HOW.out
          have how : In.Own w2 (w.heap.size + 1 + 1) (.agg #[.int .i64 n0.kind, .int .i64 n0.mode, .int .i64 n0.uid, .int .i64 n0.gid, .int .i64 n0.links, .int .i64 n0.size, .int .i64 n0.tick, .slice ya0 n0.blocks.length yc0, .slice ya1 n0.acl.length yc1, .slice ya2 n0.dflt.length yc2]) (f.inodes.getD i InoV.zero) T := by rw [← HNE.out]; exact In.own_mono HOW.out (by show _ ≤ wa.heap.size; have := HHH.out g (by simp [fpR, Value.ownBlock]); omega)
          have hstep := CpF.rel_step hlx HESL.out HVL.out HND.out HHH.out how (fun k hk => by have := (hlT k hk).1; omega) ⟨wr, HRR.out, HBWA.out.drew.trans (HB2.out.mono (by show wr.heap.size ≤ wa.heap.size; omega)), fun k hk => by have := (hlT k hk).1; omega⟩
          unfold row10 at hstep
          generalize ((((((((((w2.setCell ⟨g, i * 10, none⟩ (.int .i64 n0.kind)).setCell ⟨g, i * 10 + 1, none⟩ (.int .i64 n0.mode)).setCell ⟨g, i * 10 + 2, none⟩ (.int .i64 n0.uid)).setCell ⟨g, i * 10 + 3, none⟩ (.int .i64 n0.gid)).setCell ⟨g, i * 10 + 4, none⟩ (.int .i64 n0.links)).setCell ⟨g, i * 10 + 5, none⟩ (.int .i64 n0.size)).setCell ⟨g, i * 10 + 6, none⟩ (.int .i64 n0.tick)).setCell ⟨g, i * 10 + 7, none⟩ (.slice ya0 n0.blocks.length yc0)).setCell ⟨g, i * 10 + 8, none⟩ (.slice ya1 n0.acl.length yc1)).setCell ⟨g, i * 10 + 9, none⟩ (.slice ya2 n0.dflt.length yc2)) = w9 at hstep ⊢
          clear d0 d1 d2 d3 d4 d5 d6 d7 d8 d9 f0 f1 f2 f3 f4 f5 f6 f7 f8 f9 m0 m1 m2 m3 m4 m5 m6 m7 m8 m9
          have HST := Lib.hid hstep
          clear hstep how hlT
          clear x2
          go_wp2
          go_roundw
          case rel => exact ⟨i + 1, by omega, by go_num, HST.out⟩
          case measure => simp [intOf]; omega
      · obtain rfl : i = M := by omega
        obtain ⟨S, hS⟩ := CpF.rel_end (by have h := HRR.out; rw [HM.out] at h; exact h) HESL.out HND.out HHH.out
        obtain ⟨done, q1, q2, q3, q4, q5, q6, q7, q8, q9, q10, q11, q12⟩ := hrel
        have HS := Lib.hid hS
        have HX := Lib.hid q7
        have HR := Lib.hid q8
        have HBR := Lib.hid q11
        rw [← HTK.out] at HX HS
        obtain ⟨x0, x1, x2, x3⟩ := Bk.c4 HX.out
        obtain ⟨r0, r1, r2, r3⟩ := Bk.c4 HR.out
        have f0 := HR.out.free 0
        have f1 := HR.out.free 1
        have f2 := HR.out.free 2
        have f3 := HR.out.free 3
        clear q1 q2 q3 q4 q5 q6 q7 q8 q9 q10 q11 q12 hS
        rw [← HM.out] at x2
        go_wp2
        have hF := FoB.box4_bk HR.out (.int .i64 TK) (.slice va0 f.quotas.length vc0) (.slice va1 i vc1) (.slice va2 f.data.length vc2)
        have hC := FoB.box4_chg wr (w.heap.size + 1) (.int .i64 TK) (.slice va0 f.quotas.length vc0) (.slice va1 i vc1) (.slice va2 f.data.length vc2)
        unfold FoB.box4 at hF hC
        generalize ((((wr.setCell ⟨w.heap.size + 1, 0, none⟩ (.int .i64 TK)).setCell ⟨w.heap.size + 1, 1, none⟩ (.slice va0 f.quotas.length vc0)).setCell ⟨w.heap.size + 1, 2, none⟩ (.slice va1 i vc1)).setCell ⟨w.heap.size + 1, 3, none⟩ (.slice va2 f.data.length vc2)) = w9 at hF hC ⊢
        obtain ⟨e0, e1, e2, e3⟩ := Bk.c4 hF
        have hS9 := FsF.own_mono (FsF.own_chg HS.out hC (fun k hk hh => by have := (FsF.own_lies HS.out k hk).1; rw [List.mem_singleton] at hh; omega)) (show w.heap.size ≤ w.heap.size + 1 + 1 by omega)
        rw [← HM.out] at hS9
        exact bodyPost_ret (v := .agg #[.int .i64 TK, .slice va0 f.quotas.length vc0, .slice va1 i vc1, .slice va2 f.data.length vc2]) (by simp [results, Tryz.results59, go_sem, e0, e1, e2, e3]) rfl ⟨_, S, rfl, hS9, HBR.out.trans (FoB.Chg.from hC HBR.out.size (Nat.le_succ _))⟩
  case reg =>
    go_region_law (first
        | (go_simp; go_at_call 125; ((with_reducible refine (HCQ.out _ ?_).mono ?_)); (exact HB.out.drew); rintro e w1 ⟨v0, rfl, hown0, hb1⟩; obtain ⟨va0, vc0, rfl⟩ := QF.own_form hown0; have HO1 := Lib.hid hown0; have HS1 := Lib.hid hb1.size; have HB1 := Lib.hid (HB.out.drew.trans (hb1.mono HB.out.drew.size)); have HX1 := Lib.hid (Bk.all (Bk.drew HX.out) hb1); have HR1 := Lib.hid (Bk.all (Bk.drew HR.out) hb1); clear hown0 hb1; have c2 : w1.cell? ⟨w.heap.size, 2, none⟩ = some (.slice a1 L1 d1) := (HX1.out.cell 2); have c3 : w1.cell? ⟨w.heap.size, 3, none⟩ = some (.slice a2 L2 d2) := (HX1.out.cell 3))
        | (go_simp; go_at_call 126; ((with_reducible refine (HCI.out _ ?_).mono ?_)); (exact HB1.out); rintro e w2 ⟨v1, rfl, hown1, hb2⟩; obtain ⟨va1, vc1, rfl⟩ := Dk.slice_of hown1; have HO2 := Lib.hid hown1; have HS2 := Lib.hid hb2.size; have HO1b := Lib.hid (QF.own_below HO1.out hb2); have HB2 := Lib.hid (HB1.out.trans (hb2.mono HB1.out.size)); have HX2 := Lib.hid (HX1.out.all hb2); have HR2 := Lib.hid (HR1.out.all hb2); clear hown1 hb2; have c3 : w2.cell? ⟨w.heap.size, 3, none⟩ = some (.slice a2 L2 d2) := (HX2.out.cell 3))
        | (go_simp; go_at_call 127; ((with_reducible refine (HCS.out _ ?_).mono ?_)); (exact HB2.out); rintro e w3 ⟨v2, rfl, hown2, hb3⟩; obtain ⟨va2, vc2, rfl⟩ := Dk.slice_of hown2; have HO3 := Lib.hid hown2; have HS3 := Lib.hid hb3.size; have HO1c := Lib.hid (QF.own_below HO1b.out hb3); have HO2b := Lib.hid (row_below HO2.out hb3); have HB3 := Lib.hid (HB2.out.trans (hb3.mono HB2.out.size)); have HX3 := Lib.hid (HX2.out.all hb3); have HR3 := Lib.hid (HR2.out.all hb3); clear hown2 hb3; have c1 : w3.cell? ⟨w.heap.size, 1, none⟩ = some (.slice a0 L0 d0) := (HX3.out.cell 1); have c2 : w3.cell? ⟨w.heap.size, 2, none⟩ = some (.slice a1 L1 d1) := (HX3.out.cell 2); have c3 : w3.cell? ⟨w.heap.size, 3, none⟩ = some (.slice a2 L2 d2) := (HX3.out.cell 3); have f1 := HX3.out.free 1; have f2 := HX3.out.free 2; have f3 := HX3.out.free 3))
    all_goals
      refine NoPanic.normal ⟨rfl, va0, va1, va2, vc0, vc1, vc2, _, _, _, _, _, _, _, _, _, _, _, _, rfl, ?_⟩
      obtain rfl := HTK.out
      have s1 : w0.heap.size ≤ w1.heap.size := HS1.out
      have s2 := HS2.out
      have o2 := HO2b.out
      have o1 := HO2.out
      rw [HL1.out] at o1 o2 ⊢
      exact pre_mk HB3.out HX3.out HR3.out (QF.own_mono HO1c.out hs0) (row_mono o2 (by omega)) ⟨row_mono HO3.out (by omega), rfl⟩ (nodup_app (nodup_app (fpR_nodup _) (fpR_nodup _) (Lies.apart (QF.own_lies HO1.out) (row_lies o1) (Nat.le_refl _))) (fpR_nodup _) (apart_app.2 ⟨Lies.apart (QF.own_lies HO1.out) (row_lies HO3.out) s2, Lies.apart (row_lies o1) (row_lies HO3.out) (Nat.le_refl _)⟩)) HNS.out HES.out
end Go.Proofs.YtafmpllkehbmeaaGreatDoor.CpG
