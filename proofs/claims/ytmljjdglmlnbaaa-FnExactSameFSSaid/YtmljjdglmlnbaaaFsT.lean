/- Contract: the model's SameFS. Conditions: as the theorem types them. -/
import Derived.Test.YtmljjdglmlnbaaaFsR
import Derived.Test.YtmljjdglmlnbaaaFam
namespace Go.Proofs.Ytmljjdglmlnbaaa.FsT
open Go.ChangeShapes Go.WideShapes Go.ChangeAt Go.RowKit
open Foot Bx
open FsV (F)
open FsR (sameF)
open InEq (ext_getD below_draws)
open FsQ (inoDec)
open Dk (ret_bool)
set_option linter.unusedVariables false

set_option maxRecDepth 100000 in
set_option maxHeartbeats 6400000 in
/-- Behind the first tests: the ticks and the lengths agree, the data too. -/
theorem loops_any (w : World) (va vb : Value) (a b : F) (ha : FsF.cost a ≤ 1073741824) (hb : FsF.cost b ≤ 1073741824) (h : FsF.Holds w va a) (h' : FsF.Holds w vb b)
    (ht : a.tick = b.tick) (hq : a.quotas.length = b.quotas.length) (hi : a.inodes.length = b.inodes.length) (hd : a.data = b.data) :
    Calls Try.prog 8 #[va, vb] w fun e w' => e = .returned (.bool (sameF a b)) ∧ Below w.heap.size w w' := by
  have HIa := Lib.hid (fun i (hi : i < a.inodes.length) => Nat.le_trans (IF.cost_at hi) (Nat.le_trans (Nat.le_trans (Nat.le_add_left _ a.inodes.length) (FsF.le_inodes a)) ha))
  have HIb := Lib.hid (fun i (hi : i < b.inodes.length) => Nat.le_trans (IF.cost_at hi) (Nat.le_trans (Nat.le_trans (Nat.le_add_left _ b.inodes.length) (FsF.le_inodes b)) hb))
  have HV := Lib.hid (show sameF a b = (decide (a.quotas = b.quotas) && decide (a.inodes = b.inodes)) by rw [sameF, ht, hd]; simp)
  have hlQ : a.quotas.length ≤ 1073741824 := Nat.le_trans (FsF.le_quotas a) ha
  have hlI : a.inodes.length ≤ 1073741824 := Nat.le_trans (Nat.le_trans (Nat.le_add_right _ _) (FsF.le_inodes a)) ha
  have hlD : a.data.length ≤ 1073741824 := Nat.le_trans (Nat.le_trans (Nat.le_add_right _ _) (FsF.le_data a)) ha
  obtain ⟨p0, p1, p2, rfl, g0, g1, g2⟩ := h
  obtain ⟨q0, q1, q2, rfl, k0, k1, k2⟩ := h'
  have G2 := Lib.hid g2
  have K2 := Lib.hid k2
  obtain ⟨pqa, pqc, rfl, hQa⟩ := Qt.atL g0
  obtain ⟨pia, pic, rfl, hca, hAa⟩ := IF.atL g1
  obtain ⟨pda, pdc, rfl⟩ := SF.form g2
  obtain ⟨qqa, qqc, rfl, hQb⟩ := Qt.atL k0
  obtain ⟨qia, qic, rfl, hcb, hAb⟩ := IF.atL k1
  obtain ⟨qda, qdc, rfl⟩ := SF.form k2
  have HQA := Lib.hid hQa
  have HQB := Lib.hid hQb
  have HA := Lib.hid hAa
  have HC := Lib.hid hAb
  have HD := Lib.hid (show decide (a.data = b.data) = true from decide_eq_true hd)
  have HDE := Lib.hid hd
  obtain ⟨L, hL⟩ : ∃ L, L = a.quotas.length := ⟨_, rfl⟩
  obtain ⟨M, hM⟩ : ∃ M, M = a.inodes.length := ⟨_, rfl⟩
  obtain ⟨pD, hpD⟩ : ∃ x, x = a.data.length := ⟨_, rfl⟩
  obtain ⟨T, hT⟩ : ∃ T, T = a.tick := ⟨_, rfl⟩
  rw [← hq, ← hi, ← ht, ← hd, ← hL, ← hM, ← hpD, ← hT]
  rw [← hL] at hlQ
  rw [← hi, ← hM] at hcb
  rw [← hM] at hlI hca
  rw [← hpD] at G2 hlD
  rw [← hd, ← hpD] at K2
  have HL := Lib.hid hL
  have HM := Lib.hid hM
  have HL2 := Lib.hid (show L = b.quotas.length from hL.trans hq)
  have HM2 := Lib.hid (show M = b.inodes.length from hM.trans hi)
  have HPD := Lib.hid hpD
  clear hL hM hpD hT g0 g1 g2 k0 k1 k2 hQa hAa hQb hAb ha hb ht hq hi hd
  have HB0 := Lib.hid (((Below.refl w.heap.size w).alloc (Nat.le_refl _) (.cells #[.int .i64 T, .slice pqa L pqc, .slice pia M pic, .slice pda pD pdc] 34)).alloc (by simp) (.cells #[.int .i64 T, .slice qqa L qqc, .slice qia M qic, .slice qda pD qdc] 34))
  have HX0 := Lib.hid ((new w #[.int .i64 T, .slice pqa L pqc, .slice pia M pic, .slice pda pD pdc] 34).alloc (.cells #[.int .i64 T, .slice qqa L qqc, .slice qia M qic, .slice qda pD qdc] 34))
  have HY0 := Lib.hid (new_at (w.alloc (.cells #[.int .i64 T, .slice pqa L pqc, .slice pia M pic, .slice pda pD pdc] 34)) #[.int .i64 T, .slice qqa L qqc, .slice qia M qic, .slice qda pD qdc] 34 (w.heap.size + 1) (by simp))
  go_enter Try.func8, Try.ntmps8
  go_wp2_with fail
  refine (Same.texts_any _ _ _ a.data a.data (by rw [← HPD.out]; omega) (by rw [← HPD.out]; omega) (SF.holds_below G2.out HB0.out) (SF.holds_below K2.out HB0.out)).mono ?_
  rintro e w1 ⟨rfl, hb⟩
  rw [show decide (a.data = a.data) = true from decide_eq_true rfl]
  have HX := Lib.hid (HX0.out.all hb)
  have HY := Lib.hid (HY0.out.all hb)
  have HB1 := Lib.hid (HB0.out.trans (hb.mono HB0.out.size))
  clear hb HB0 HX0 HY0
  have x1 := HX.out.cell 1
  dsimp at x1
  have hy1 := HY.out.lt
  go_wp2
  go_loopw [43] (fun iv wr => ∃ k : Nat, k ≤ L ∧ iv = .int .i64 k ∧ Bk wr w.heap.size #[.int .i64 T, .slice pqa L pqc, .slice pia M pic, .slice pda pD pdc] 34 ∧ Bk wr (w.heap.size + 1) #[.int .i64 T, .slice qqa L qqc, .slice qia M qic, .slice qda pD qdc] 34 ∧ Below w.heap.size w wr ∧ ∀ j, j < k → a.quotas.getD j Qt.a0 = b.quotas.getD j Qt.a0) (fun iv _ => L - (intOf iv).toNat)
  case atStart => exact ⟨0, Nat.zero_le _, rfl, HX.out, HY.out, HB1.out, fun j hj => absurd hj (Nat.not_lt_zero _)⟩
  case round =>
    obtain ⟨k, hk, rfl, hx, hy, hbel, heq⟩ := hrel
    have HB := Lib.hid hbel
    replace HX := Lib.hid hx
    replace HY := Lib.hid hy
    have hsz := hbel.size
    have HQ := Lib.hid heq
    have hyl := hy.lt
    clear heq hbel hx hy x1 HB1 hy1
    by_cases hlt : k < L
    · have hkp : k < a.quotas.length := by rw [← HL.out]; exact hlt
      have hkq : k < b.quotas.length := by rw [← HL2.out]; exact hlt
      obtain ⟨b1, o1, rfl, hl1, hC1⟩ := HQA.out k hkp
      obtain ⟨b2, o2, rfl, hl2, hC2⟩ := HQB.out k hkq
      obtain ⟨g0, g1⟩ := hC1.below hl1 HB.out
      obtain ⟨k0, k1⟩ := hC2.below hl2 HB.out
      have hl3 : b2 < wr.heap.size := by omega
      have HNE := Lib.hid (fun (h : a.quotas.getD k Qt.a0 ≠ b.quotas.getD k Qt.a0) => show decide (a.quotas = b.quotas) = false from decide_eq_false (fun e => h (by rw [e])))
      have HNX := Lib.hid (fun (h : a.quotas.getD k Qt.a0 = b.quotas.getD k Qt.a0) => show ∀ j, j < k + 1 → a.quotas.getD j Qt.a0 = b.quotas.getD j Qt.a0 from fun j hj => (by
          rcases Nat.lt_or_ge j k with hjk | hjk
          · exact HQ.out j hjk
          · rw [show j = k from by omega]; exact h))
      clear hC1 hC2
      generalize a.quotas.getD k Qt.a0 = x at g0 g1 HNE HNX
      generalize b.quotas.getD k Qt.a0 = y at k0 k1 HNE HNX
      have HBN := Lib.hid (HB.out.alloc hsz (.cells #[.int .i64 x.1, .int .i64 x.2] 43))
      have HXN := Lib.hid (HX.out.alloc (.cells #[.int .i64 x.1, .int .i64 x.2] 43))
      have HYN := Lib.hid (HY.out.alloc (.cells #[.int .i64 x.1, .int .i64 x.2] 43))
      have y1 := HYN.out.cell 1
      dsimp at y1
      by_cases hxy : x = y
      · have HS := Lib.hid (HNX.out hxy)
        subst hxy
        go_wp2
        go_quiet (fail)
        go_wp2
        go_roundw
        case rel => exact ⟨k + 1, by omega, by go_num, HXN.out.all (below_draws _), HYN.out.all (below_draws _), HBN.out.trans (below_draws _ |>.mono (by first | omega | (simp; omega))), HS.out⟩
        case measure => simp [intOf]; omega
      · have HF := Lib.hid (HNE.out hxy)
        have hq : ∀ w, Sem.run Try.prog (binOp .neq 43 (.agg #[.int .i64 x.1, .int .i64 x.2]) (.agg #[.int .i64 y.1, .int .i64 y.2])) w = .ok (.bool true) w := fun w => by rw [FsQ.neq_qt x y w, decide_eq_false hxy]; rfl
        have hg := FsQ.guard_qt
        clear hxy
        go_wp2
        go_quiet (fail)
        go_wp2
        go_ret
        exact ⟨ret_bool (by rw [HV.out, HF.out]; rfl), HBN.out.trans (below_draws _ |>.mono (by first | omega | (simp; omega)))⟩
    · obtain rfl : k = L := by omega
      have HQT := Lib.hid (show decide (a.quotas = b.quotas) = true from decide_eq_true (ext_getD (HL.out.symm.trans HL2.out) (fun j hj => HQ.out j (by rw [← HL.out] at hj; omega))))
      have x2 := HX.out.cell 2
      dsimp at x2
      go_wp2
      clear x2
      go_loopw [59] (fun iv wr => ∃ q : Nat, q ≤ M ∧ iv = .int .i64 q ∧ Bk wr (w.heap.size + 1) #[.int .i64 T, .slice qqa k qqc, .slice qia M qic, .slice qda pD qdc] 34 ∧ Below w.heap.size w wr ∧ ∀ j, j < q → a.inodes.getD j IF.z0 = b.inodes.getD j IF.z0) (fun iv _ => M - (intOf iv).toNat)
      case atStart => exact ⟨0, Nat.zero_le _, rfl, HY.out, HB.out, fun j hj => absurd hj (Nat.not_lt_zero _)⟩
      case round =>
        obtain ⟨q, hq, rfl, hy, hbel, heq⟩ := hrel
        replace HB := Lib.hid hbel
        replace HY := Lib.hid hy
        have hsz := hbel.size
        have HQ2 := Lib.hid heq
        have hyl := hy.lt
        clear heq hbel hy HX
        by_cases hlt : q < M
        · have hkp : q < a.inodes.length := by rw [← HM.out]; exact hlt
          have hkq : q < b.inodes.length := by rw [← HM2.out]; exact hlt
          obtain ⟨b1, o1, rfl, hb1, r0, r1, r2, hC, hP⟩ := HA.out q hkp
          have HP := Lib.hid (IF.parts_holds (IF.parts_below hP HB.out))
          obtain ⟨h0, h1, h2⟩ := hP
          obtain ⟨pa0, pd0, rfl⟩ := NiF.form h0
          obtain ⟨pa1, pd1, rfl⟩ := AeF.form h1
          obtain ⟨pa2, pd2, rfl⟩ := AeF.form h2
          obtain ⟨g0, g1, g2, g3, g4, g5, g6, g7, g8, g9⟩ := hC.below hb1 HB.out
          clear hC h0 h1 h2
          obtain ⟨b2, o2, rfl, hb2, r0, r1, r2, hC, hP⟩ := HC.out q hkq
          have HR := Lib.hid (IF.parts_holds (IF.parts_below hP HB.out))
          obtain ⟨h0, h1, h2⟩ := hP
          obtain ⟨qa0, qd0, rfl⟩ := NiF.form h0
          obtain ⟨qa1, qd1, rfl⟩ := AeF.form h1
          obtain ⟨qa2, qd2, rfl⟩ := AeF.form h2
          obtain ⟨k0, k1, k2, k3, k4, k5, k6, k7, k8, k9⟩ := hC.below hb2 HB.out
          clear hC h0 h1 h2
          have hl3 : b2 < wr.heap.size := by omega
          have hcx := HIa.out q hkp
          have hcy := HIb.out q hkq
          have HNE := Lib.hid (fun (h : a.inodes.getD q IF.z0 ≠ b.inodes.getD q IF.z0) => show decide (a.inodes = b.inodes) = false from decide_eq_false (fun e => h (by rw [e])))
          have HNX := Lib.hid (fun (h : a.inodes.getD q IF.z0 = b.inodes.getD q IF.z0) => show ∀ j, j < q + 1 → a.inodes.getD j IF.z0 = b.inodes.getD j IF.z0 from fun j hj => (by
              rcases Nat.lt_or_ge j q with hjk | hjk
              · exact HQ2.out j hjk
              · rw [show j = q from by omega]; exact h))
          generalize a.inodes.getD q IF.z0 = x at g0 g1 g2 g3 g4 g5 g6 g7 g8 g9 HP hcx HNE HNX
          generalize b.inodes.getD q IF.z0 = y at k0 k1 k2 k3 k4 k5 k6 k7 k8 k9 HR hcy HNE HNX
          have HB2 := Lib.hid ((Below.refl wr.heap.size wr).alloc (Nat.le_refl _) (.cells #[.int .i64 x.kind, .int .i64 x.mode, .int .i64 x.uid, .int .i64 x.gid, .int .i64 x.links, .int .i64 x.size, .int .i64 x.tick, .slice pa0 x.blocks.length pd0, .slice pa1 x.acl.length pd1, .slice pa2 x.dflt.length pd2] 47))
          have HBN := Lib.hid (HB.out.trans (HB2.out.mono hsz))
          have HYN := Lib.hid (HY.out.alloc (.cells #[.int .i64 x.kind, .int .i64 x.mode, .int .i64 x.uid, .int .i64 x.gid, .int .i64 x.links, .int .i64 x.size, .int .i64 x.tick, .slice pa0 x.blocks.length pd0, .slice pa1 x.acl.length pd1, .slice pa2 x.dflt.length pd2] 47))
          have HXN := Lib.hid (new wr #[.int .i64 x.kind, .int .i64 x.mode, .int .i64 x.uid, .int .i64 x.gid, .int .i64 x.links, .int .i64 x.size, .int .i64 x.tick, .slice pa0 x.blocks.length pd0, .slice pa1 x.acl.length pd1, .slice pa2 x.dflt.length pd2] 47)
          have HP2 := Lib.hid (In.holds_below HP.out HB2.out)
          have HR2 := Lib.hid (In.holds_below HR.out HB2.out)
          go_wp2
          have hy2 := HYN.out.cell 2
          dsimp at hy2
          have x0 := HXN.out.cell 0
          have x1 := HXN.out.cell 1
          have x2 := HXN.out.cell 2
          have x3 := HXN.out.cell 3
          have x4 := HXN.out.cell 4
          have x5 := HXN.out.cell 5
          have x6 := HXN.out.cell 6
          have x7 := HXN.out.cell 7
          have x8 := HXN.out.cell 8
          have x9 := HXN.out.cell 9
          dsimp at x0 x1 x2 x3 x4 x5 x6 x7 x8 x9
          have z0 := HB2.out.cell (p := ⟨b2, o2 + q * 10, none⟩) hl3
          rw [k0] at z0
          have z1 := HB2.out.cell (p := ⟨b2, o2 + q * 10 + 1, none⟩) hl3
          rw [k1] at z1
          have z2 := HB2.out.cell (p := ⟨b2, o2 + q * 10 + 2, none⟩) hl3
          rw [k2] at z2
          have z3 := HB2.out.cell (p := ⟨b2, o2 + q * 10 + 3, none⟩) hl3
          rw [k3] at z3
          have z4 := HB2.out.cell (p := ⟨b2, o2 + q * 10 + 4, none⟩) hl3
          rw [k4] at z4
          have z5 := HB2.out.cell (p := ⟨b2, o2 + q * 10 + 5, none⟩) hl3
          rw [k5] at z5
          have z6 := HB2.out.cell (p := ⟨b2, o2 + q * 10 + 6, none⟩) hl3
          rw [k6] at z6
          have z7 := HB2.out.cell (p := ⟨b2, o2 + q * 10 + 7, none⟩) hl3
          rw [k7] at z7
          have z8 := HB2.out.cell (p := ⟨b2, o2 + q * 10 + 8, none⟩) hl3
          rw [k8] at z8
          have z9 := HB2.out.cell (p := ⟨b2, o2 + q * 10 + 9, none⟩) hl3
          rw [k9] at z9
          clear g0 g1 g2 g3 g4 g5 g6 g7 g8 g9 k0 k1 k2 k3 k4 k5 k6 k7 k8 k9
          generalize wr.alloc (.cells #[.int .i64 x.kind, .int .i64 x.mode, .int .i64 x.uid, .int .i64 x.gid, .int .i64 x.links, .int .i64 x.size, .int .i64 x.tick, .slice pa0 x.blocks.length pd0, .slice pa1 x.acl.length pd1, .slice pa2 x.dflt.length pd2] 47) = w0 at *
          have hl0 : wr.heap.size < w0.heap.size := HXN.out.lt
          have u2 := Fam.cell (W := w0) (p := ⟨w.heap.size + 1, 2, none⟩) HYN.out.lt hy2
          have v0 := Fam.cell (W := w0) (p := ⟨wr.heap.size, 0, none⟩) hl0 x0
          have v1 := Fam.cell (W := w0) (p := ⟨wr.heap.size, 1, none⟩) hl0 x1
          have v2 := Fam.cell (W := w0) (p := ⟨wr.heap.size, 2, none⟩) hl0 x2
          have v3 := Fam.cell (W := w0) (p := ⟨wr.heap.size, 3, none⟩) hl0 x3
          have v4 := Fam.cell (W := w0) (p := ⟨wr.heap.size, 4, none⟩) hl0 x4
          have v5 := Fam.cell (W := w0) (p := ⟨wr.heap.size, 5, none⟩) hl0 x5
          have v6 := Fam.cell (W := w0) (p := ⟨wr.heap.size, 6, none⟩) hl0 x6
          have v7 := Fam.cell (W := w0) (p := ⟨wr.heap.size, 7, none⟩) hl0 x7
          have v8 := Fam.cell (W := w0) (p := ⟨wr.heap.size, 8, none⟩) hl0 x8
          have v9 := Fam.cell (W := w0) (p := ⟨wr.heap.size, 9, none⟩) hl0 x9
          have t0 := Fam.cell (W := w0) (p := ⟨b2, o2 + q * 10, none⟩) (by show b2 < _; omega) z0
          have t1 := Fam.cell (W := w0) (p := ⟨b2, o2 + q * 10 + 1, none⟩) (by show b2 < _; omega) z1
          have t2 := Fam.cell (W := w0) (p := ⟨b2, o2 + q * 10 + 2, none⟩) (by show b2 < _; omega) z2
          have t3 := Fam.cell (W := w0) (p := ⟨b2, o2 + q * 10 + 3, none⟩) (by show b2 < _; omega) z3
          have t4 := Fam.cell (W := w0) (p := ⟨b2, o2 + q * 10 + 4, none⟩) (by show b2 < _; omega) z4
          have t5 := Fam.cell (W := w0) (p := ⟨b2, o2 + q * 10 + 5, none⟩) (by show b2 < _; omega) z5
          have t6 := Fam.cell (W := w0) (p := ⟨b2, o2 + q * 10 + 6, none⟩) (by show b2 < _; omega) z6
          have t7 := Fam.cell (W := w0) (p := ⟨b2, o2 + q * 10 + 7, none⟩) (by show b2 < _; omega) z7
          have t8 := Fam.cell (W := w0) (p := ⟨b2, o2 + q * 10 + 8, none⟩) (by show b2 < _; omega) z8
          have t9 := Fam.cell (W := w0) (p := ⟨b2, o2 + q * 10 + 9, none⟩) (by show b2 < _; omega) z9
          have HSI := Lib.hid (fun (n : Fam.Ix w0) => InSp.same_spec (Fam.wld w0 n) _ _ x y (by omega) (by omega) (In.holds_below HP2.out (Fam.wld_below w0 n)) (In.holds_below HR2.out (Fam.wld_below w0 n)))
          clear x0 z0 x1 z1 x2 z2 x3 z3 x4 z4 x5 z5 x6 z6 x7 z7 x8 z8 x9 z9 hy2
          refine Fam.region (by kernel_rfl) (by kernel_rfl) ?_
          repeat (go_big_quiet_step (first | (go_at_call 17; with_reducible refine Fam.calls (HSI.out _))))
          refine wpQuiet_nil ?_
          intro _ hw'
          obtain ⟨nq, hw''⟩ := hw'
          subst hw''
          have hbq := Fam.wld_below _ nq
          generalize Fam.wld _ nq = w9 at hbq ⊢
          have HB9 := Lib.hid (HBN.out.trans (hbq.mono HBN.out.size))
          have HY9 := Lib.hid (HYN.out.all hbq)
          clear hbq u2 v0 t0 v1 t1 v2 t2 v3 t3 v4 t4 v5 t5 v6 t6 v7 t7 v8 t8 v9 t9
          cases hs : InoV.sameB x y
          · have HF := Lib.hid (HNE.out (fun e => by rw [e, InoV.same_refl] at hs; cases hs))
            clear hs
            go_wp2
            go_ret
            exact ⟨ret_bool (by rw [HV.out, HF.out]; simp), HB9.out⟩
          · have HS := Lib.hid (HNX.out ((InoV.same_iff x y).1 hs))
            clear hs
            go_wp2
            go_roundw
            case rel => exact ⟨q + 1, by omega, by go_num, HY9.out, HB9.out, HS.out⟩
            case measure => simp [intOf]; omega
        · have HN := Lib.hid (show decide (a.inodes = b.inodes) = true from decide_eq_true (ext_getD (HM.out.symm.trans HM2.out) (fun j hj => HQ2.out j (by rw [← HM.out] at hj; omega))))
          go_wp2
          go_ret
          exact ⟨ret_bool (by rw [HV.out, HN.out, HQT.out]; rfl), HB.out⟩

set_option maxRecDepth 100000 in
set_option maxHeartbeats 3200000 in
theorem same_no (w : World) (va vb : Value) (a b : F) (ha : FsF.cost a ≤ 1073741824) (hb : FsF.cost b ≤ 1073741824) (la : FsF.Lim a) (lb : FsF.Lim b) (h : FsF.Holds w va a) (h' : FsF.Holds w vb b) (hno : ¬ (a.tick = b.tick ∧ a.quotas.length = b.quotas.length ∧ a.inodes.length = b.inodes.length ∧ a.data = b.data)) :
    Calls Try.prog 8 #[va, vb] w fun e w' => e = .returned (.bool (sameF a b)) ∧ Below w.heap.size w w' := by
  have HNO9 := Lib.hid hno
  obtain ⟨p0, p1, p2, rfl, g0, g1, g2⟩ := h
  obtain ⟨q0, q1, q2, rfl, k0, k1, k2⟩ := h'
  have G0 := Lib.hid g0
  have G1 := Lib.hid g1
  have G2 := Lib.hid g2
  have K0 := Lib.hid k0
  have K1 := Lib.hid k1
  have K2 := Lib.hid k2
  obtain ⟨pqa, pqc, rfl⟩ := QF.form g0
  obtain ⟨pia, pic, rfl⟩ := IF.form g1
  obtain ⟨pda, pdc, rfl⟩ := SF.form g2
  obtain ⟨qqa, qqc, rfl⟩ := QF.form k0
  obtain ⟨qia, qic, rfl⟩ := IF.form k1
  obtain ⟨qda, qdc, rfl⟩ := SF.form k2
  clear g0 g1 g2 k0 k1 k2
  have HIa := Lib.hid (show IF.cost a.inodes ≤ 1073741824 from Nat.le_trans (FsF.le_inodes a) ha)
  have HIb := Lib.hid (show IF.cost b.inodes ≤ 1073741824 from Nat.le_trans (FsF.le_inodes b) hb)
  have HQa := Lib.hid (show a.quotas.length ≤ 1073741824 from Nat.le_trans (FsF.le_quotas a) ha)
  have HQb := Lib.hid (show b.quotas.length ≤ 1073741824 from Nat.le_trans (FsF.le_quotas b) hb)
  have HDa := Lib.hid (show a.data.length ≤ 1073741824 from Nat.le_trans (Nat.le_trans (Nat.le_add_right _ _) (FsF.le_data a)) ha)
  have HDb := Lib.hid (show b.data.length ≤ 1073741824 from Nat.le_trans (Nat.le_trans (Nat.le_add_right _ _) (FsF.le_data b)) hb)
  have HLa := Lib.hid la
  have HLb := Lib.hid lb
  clear ha hb la lb
  obtain ⟨pQ, hpQ⟩ : ∃ x, x = a.quotas.length := ⟨_, rfl⟩
  obtain ⟨pI, hpI⟩ : ∃ x, x = a.inodes.length := ⟨_, rfl⟩
  obtain ⟨pD, hpD⟩ : ∃ x, x = a.data.length := ⟨_, rfl⟩
  obtain ⟨qQ, hqQ⟩ : ∃ x, x = b.quotas.length := ⟨_, rfl⟩
  obtain ⟨qI, hqI⟩ : ∃ x, x = b.inodes.length := ⟨_, rfl⟩
  obtain ⟨qD, hqD⟩ : ∃ x, x = b.data.length := ⟨_, rfl⟩
  rw [← hpQ] at G0
  rw [← hpI] at G1
  rw [← hpD] at G2
  rw [← hqQ] at K0
  rw [← hqI] at K1
  rw [← hqD] at K2
  rw [← hpQ, ← hpI, ← hpD, ← hqQ, ← hqI, ← hqD]
  have HNO0 := Lib.hid (show ¬ (a.tick = b.tick ∧ pQ = qQ ∧ pI = qI ∧ a.data = b.data) from by rw [hpQ, hqQ, hpI, hqI]; exact hno)
  have hlen : pQ ≤ 1073741824 ∧ qQ ≤ 1073741824 ∧ pI ≤ 1073741824 ∧ qI ≤ 1073741824 := ⟨by rw [hpQ]; exact HQa.out, by rw [hqQ]; exact HQb.out, by rw [hpI]; exact Nat.le_trans (Nat.le_add_right _ _) HIa.out, by rw [hqI]; exact Nat.le_trans (Nat.le_add_right _ _) HIb.out⟩
  clear hpQ hpI hpD hqQ hqI hqD hno
  obtain ⟨T, hT⟩ : ∃ T, T = a.tick := ⟨_, rfl⟩
  obtain ⟨U, hU⟩ : ∃ U, U = b.tick := ⟨_, rfl⟩
  have HNO := Lib.hid (show ¬ (T = U ∧ pQ = qQ ∧ pI = qI ∧ a.data = b.data) from by rw [hT, hU]; exact HNO0.out)
  rw [← hT, ← hU]
  clear hT hU
  have HF := Lib.hid (show sameF a b = false from by
    cases hs : sameF a b
    · rfl
    · simp only [sameF, Bool.and_eq_true, decide_eq_true_eq] at hs
      exact absurd ⟨hs.1.1.1, by rw [hs.1.1.2], by rw [hs.1.2], hs.2⟩ HNO9.out)
  have HB := Lib.hid (((Below.refl w.heap.size w).alloc (Nat.le_refl _) (.cells #[.int .i64 T, .slice pqa pQ pqc, .slice pia pI pic, .slice pda pD pdc] 34)).alloc (by simp) (.cells #[.int .i64 U, .slice qqa qQ qqc, .slice qia qI qic, .slice qda qD qdc] 34))
  by_cases ht : T = U
  · subst ht
    by_cases hq : pQ = qQ
    · subst hq
      by_cases hi : pI = qI
      · subst hi
        have hd : ¬ a.data = b.data := fun h => HNO.out ⟨rfl, rfl, rfl, h⟩
        have HD := Lib.hid (decide_eq_false hd)
        clear hd
        go_enter Try.func8, Try.ntmps8
        go_wp2_with fail
        refine (Same.texts_any _ _ _ a.data b.data HDa.out HDb.out (SF.holds_below G2.out HB.out) (SF.holds_below K2.out HB.out)).mono ?_
        rintro e w1 ⟨rfl, hb⟩
        rw [HD.out]
        have HB1 := Lib.hid (HB.out.trans (hb.mono HB.out.size))
        clear hb
        go_wp2
        go_ret
        exact ⟨ret_bool HF.out.symm, HB1.out⟩
      · have q1 : ((pI : Int) != qI) = true := by simp; omega
        have q2 : ((pI : Int) == qI) = false := by simp; omega
        clear hi
        go_enter Try.func8, Try.ntmps8
        go_wp2
        go_ret
        exact ⟨ret_bool HF.out.symm, HB.out⟩
    · have q1 : ((pQ : Int) != qQ) = true := by simp; omega
      have q2 : ((pQ : Int) == qQ) = false := by simp; omega
      clear hq
      go_enter Try.func8, Try.ntmps8
      go_wp2
      go_ret
      exact ⟨ret_bool HF.out.symm, HB.out⟩
  · have q1 : (T != U) = true := by simpa using ht
    have q2 : (T == U) = false := by simpa using ht
    clear ht
    go_enter Try.func8, Try.ntmps8
    go_wp2
    go_ret
    exact ⟨ret_bool HF.out.symm, HB.out⟩
theorem same_spec (w : World) (va vb : Value) (a b : F) (ha : FsF.cost a ≤ 1073741824) (hb : FsF.cost b ≤ 1073741824) (la : FsF.Lim a) (lb : FsF.Lim b) (h : FsF.Holds w va a) (h' : FsF.Holds w vb b) :
    Calls Try.prog 8 #[va, vb] w fun e w' => e = .returned (.bool (sameF a b)) ∧ Below w.heap.size w w' := by
  by_cases hh : a.tick = b.tick ∧ a.quotas.length = b.quotas.length ∧ a.inodes.length = b.inodes.length ∧ a.data = b.data
  · exact loops_any w va vb a b ha hb h h' hh.1 hh.2.1 hh.2.2.1 hh.2.2.2
  · exact same_no w va vb a b ha hb la lb h h' hh
end Go.Proofs.Ytmljjdglmlnbaaa.FsT
