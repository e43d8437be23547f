/- Contracts: comparing two slices of quotas, two slices of inodes. Conditions: as each theorem types them. -/
import Derived.Test.YtmljjdglmlnbaaaFsF
import Derived.Test.YtmljjdglmlnbaaaInSp
namespace Go.Proofs.Ytmljjdglmlnbaaa.FsQ
open Go.ChangeShapes Go.WideShapes Go.ChangeAt Go.RowKit
open Foot Bx
open InEq (ext_getD below_draws)
open Dk (ret_bool)
set_option linter.unusedVariables false

instance inoDec : DecidableEq InoV.I := fun a b => decidable_of_iff _ (InoV.same_iff a b)
set_option maxRecDepth 100000 in
/-- '!=' at two entries. -/
theorem neq_qt (x y : Qt.At) (w : World) : Sem.run Try.prog (binOp .neq 43 (.agg #[.int .i64 x.1, .int .i64 x.2]) (.agg #[.int .i64 y.1, .int .i64 y.2])) w = .ok (.bool (!decide (x = y))) w := by
  have u3 := Try.underlying3
  have a3 := Try.isAgg3
  have z3 := Try.sizeOf3
  have hS : Try.prog.underlying 43 = some (.struct (Try.prog.fieldsOf 43)) := by kernel_rfl
  have hp : Try.prog.stoodInHeld 43 = false := by kernel_rfl
  rw [run_neq_struct, show (10000 : Nat) = 9999 + 1 from rfl, run_equalIn_agg w 9999 43 _ _ hS hp]
  simp only [Program.fieldsOf, Try.underlying43]
  obtain ⟨x0, x1⟩ := x
  obtain ⟨y0, y1⟩ := y
  go_simp
  by_cases h0 : x0 = y0 <;> by_cases h1 : x1 = y1 <;> simp [h0, h1]
theorem guard_qt (o : BinOp) (x y : Operand) (xs ys : Array Value) (w : World) : Sem.run Try.prog (eqGuard o 43 x y (.agg xs) (.agg ys)) w = .ok () w := run_eqGuard_agg w o 43 x y xs ys (by kernel_rfl)

set_option maxRecDepth 100000 in
set_option maxHeartbeats 400000 in
theorem equal_qt (w : World) (va vb : Value) (xs ys : List Qt.At) (h1 : xs.length ≤ 1073741824) (h2 : ys.length ≤ 1073741824) (ha : Qt.Holds w va xs) (hb : Qt.Holds w vb ys) :
    Calls Try.prog 23 #[va, vb] w fun e w' => e = .returned (.bool (decide (xs = ys))) ∧ Below w.heap.size w w' := by
  obtain ⟨a, ca, rfl, hA⟩ := Qt.atL ha
  obtain ⟨b, cb, rfl, hB⟩ := Qt.atL hb
  have HA := Lib.hid hA
  have HB := Lib.hid hB
  clear hA hB ha hb
  by_cases hl : xs.length = ys.length
  · obtain ⟨L, hL⟩ : ∃ L, L = xs.length := ⟨_, rfl⟩
    rw [← hl]
    rw [← hl] at h2
    rw [← hL] at h1 ⊢
    have HL := Lib.hid hL
    have HE := Lib.hid hl
    clear hL hl h2
    go_enter Try.func23, Try.ntmps23
    go_wp2
    go_loopw [13] (fun i wr => ∃ k : Nat, k ≤ L ∧ i = .int .i64 k ∧ Below w.heap.size w wr ∧ ∀ j, j < k → xs.getD j Qt.a0 = ys.getD j Qt.a0) (fun i _ => L - (intOf i).toNat)
    case atStart => exact ⟨0, Nat.zero_le _, rfl, Below.refl _ _, fun j hj => absurd hj (Nat.not_lt_zero _)⟩
    case round =>
      obtain ⟨k, hk, rfl, hbel, heq⟩ := hrel
      have HBEL := Lib.hid hbel
      have hsz := hbel.size
      clear hbel
      have HQ := Lib.hid heq
      clear heq
      by_cases hlt : k < L
      · obtain ⟨b1, o1, rfl, hl1, g0, g1⟩ := HA.out k (by rw [← HL.out]; exact hlt)
        obtain ⟨b2, o2, rfl, hl2, k0, k1⟩ := HB.out k (by rw [← HE.out, ← HL.out]; exact hlt)
        rw [← HBEL.out.cell (p := ⟨b1, _, none⟩) hl1] at g0 g1
        rw [← HBEL.out.cell (p := ⟨b2, _, none⟩) hl2] at k0 k1
        have hl3 : b2 < wr.heap.size := by omega
        by_cases hxy : xs.getD k Qt.a0 = ys.getD k Qt.a0
        · have HN := Lib.hid (show ∀ j, j < k + 1 → xs.getD j Qt.a0 = ys.getD j Qt.a0 from fun j hj => (by
            rcases Nat.lt_or_ge j k with hjk | hjk
            · exact HQ.out j hjk
            · rw [show j = k from by omega]; exact hxy))
          rw [← hxy] at k0 k1
          clear hxy
          generalize xs.getD k Qt.a0 = x at g0 g1 k0 k1
          go_wp2
          go_quiet (fail)
          go_wp2
          go_roundw
          case rel => exact ⟨k + 1, by omega, by go_num, (HBEL.out.trans (below_draws _ |>.mono (by first | omega | (simp; omega)))), HN.out⟩
          case measure => simp [intOf]; omega
        · have HN := Lib.hid (show decide (xs = ys) = false from decide_eq_false (fun h => hxy (by rw [h])))
          generalize xs.getD k Qt.a0 = x at g0 g1 hxy
          generalize ys.getD k Qt.a0 = y at k0 k1 hxy
          have hq : ∀ w, Sem.run Try.prog (binOp .neq 43 (.agg #[.int .i64 x.1, .int .i64 x.2]) (.agg #[.int .i64 y.1, .int .i64 y.2])) w = .ok (.bool true) w := fun w => by rw [neq_qt x y w, decide_eq_false hxy]; rfl
          have hg := guard_qt
          go_wp2
          go_quiet (fail)
          go_wp2
          go_ret
          exact ⟨ret_bool HN.out.symm, (HBEL.out.trans (below_draws _ |>.mono (by first | omega | (simp; omega))))⟩
      · have HN := Lib.hid (show decide (xs = ys) = true from decide_eq_true (ext_getD HE.out (fun j hj => HQ.out j (by rw [← HL.out] at hj; omega))))
        go_wp2
        go_ret
        exact ⟨ret_bool HN.out.symm, HBEL.out⟩
  · have hd : decide (xs = ys) = false := decide_eq_false (fun h => hl (by rw [h]))
    rw [hd]
    generalize xs.length = L at *
    generalize ys.length = M at *
    go_enter Try.func23, Try.ntmps23
    go_wp2
    go_ret
    exact ⟨rfl, Below.refl _ _⟩


set_option maxRecDepth 100000 in
set_option maxHeartbeats 3200000 in
/-- Two slices of inodes, one after another. -/
theorem equal_ino (w : World) (va vb : Value) (xs ys : List InoV.I) (hx : IF.cost xs ≤ 1073741824) (hy : IF.cost ys ≤ 1073741824) (lx : IF.Lim xs) (ly : IF.Lim ys) (ha : IF.Holds w va xs) (hb : IF.Holds w vb ys) :
    Calls Try.prog 21 #[va, vb, .func (.func 22) #[] #[]] w fun e w' => e = .returned (.bool (decide (xs = ys))) ∧ Below w.heap.size w w' := by
  obtain ⟨a, ca, rfl, hca, hA⟩ := IF.atL ha
  obtain ⟨b, cb, rfl, hcb, hB⟩ := IF.atL hb
  have HA := Lib.hid hA
  have HC := Lib.hid hB
  have h1 : xs.length ≤ 1073741824 := Nat.le_trans (Nat.le_add_right _ _) hx
  have h2 : ys.length ≤ 1073741824 := Nat.le_trans (Nat.le_add_right _ _) hy
  have HXA := Lib.hid (fun i (hi : i < xs.length) => Nat.le_trans (IF.cost_at hi) (Nat.le_trans (Nat.le_add_left _ xs.length) hx))
  have HYA := Lib.hid (fun i (hi : i < ys.length) => Nat.le_trans (IF.cost_at hi) (Nat.le_trans (Nat.le_add_left _ ys.length) hy))
  have HXL := Lib.hid (fun i (hi : i < xs.length) => lx.2 _ (IF.mem_getD hi))
  have HYL := Lib.hid (fun i (hi : i < ys.length) => ly.2 _ (IF.mem_getD hi))
  clear hA hB ha hb hx hy lx ly
  by_cases hl : xs.length = ys.length
  · obtain ⟨L, hL⟩ : ∃ L, L = xs.length := ⟨_, rfl⟩
    rw [← hl]
    rw [← hl] at h2 hcb
    rw [← hL] at h1 hca hcb ⊢
    have HL := Lib.hid hL
    have HE := Lib.hid hl
    clear hL hl h2
    go_enter Try.func21, Try.ntmps21
    go_wp2
    go_loopw [17] (fun i wr => ∃ k : Nat, k ≤ L ∧ i = .int .i64 k ∧ Below w.heap.size w wr ∧ ∀ j, j < k → xs.getD j IF.z0 = ys.getD j IF.z0) (fun i _ => L - (intOf i).toNat)
    case atStart => exact ⟨0, Nat.zero_le _, rfl, Below.refl _ _, fun j hj => absurd hj (Nat.not_lt_zero _)⟩
    case round =>
      obtain ⟨k, hk, rfl, hbel, heq⟩ := hrel
      have HB := Lib.hid hbel
      have hsz := hbel.size
      have HQ := Lib.hid heq
      clear heq hbel
      by_cases hlt : k < L
      · have hkp : k < xs.length := by rw [← HL.out]; exact hlt
        have hkq : k < ys.length := by rw [← HE.out]; exact hkp
        obtain ⟨b1, o1, rfl, hb1, r0, r1, r2, hC, hP⟩ := HA.out k hkp
        have HP := Lib.hid (IF.parts_holds (IF.parts_below hP HB.out))
        obtain ⟨h0, h1, h2⟩ := hP
        obtain ⟨pa0, pd0, rfl⟩ := NiF.form h0
        obtain ⟨pa1, pd1, rfl⟩ := AeF.form h1
        obtain ⟨pa2, pd2, rfl⟩ := AeF.form h2
        obtain ⟨g0, g1, g2, g3, g4, g5, g6, g7, g8, g9⟩ := hC.below hb1 HB.out
        clear hC h0 h1 h2
        obtain ⟨b2, o2, rfl, hb2, r0, r1, r2, hC, hP⟩ := HC.out k hkq
        have HR := Lib.hid (IF.parts_holds (IF.parts_below hP HB.out))
        obtain ⟨h0, h1, h2⟩ := hP
        obtain ⟨qa0, qd0, rfl⟩ := NiF.form h0
        obtain ⟨qa1, qd1, rfl⟩ := AeF.form h1
        obtain ⟨qa2, qd2, rfl⟩ := AeF.form h2
        obtain ⟨k0, k1, k2, k3, k4, k5, k6, k7, k8, k9⟩ := hC.below hb2 HB.out
        clear hC h0 h1 h2
        have hl3 : b2 < wr.heap.size := by omega
        have hcx := HXA.out k hkp
        have hcy := HYA.out k hkq
        have HLX := Lib.hid (HXL.out k hkp)
        have HLY := Lib.hid (HYL.out k hkq)
        have HNE := Lib.hid (fun (h : xs.getD k IF.z0 ≠ ys.getD k IF.z0) => show decide (xs = ys) = false from decide_eq_false (fun e => h (by rw [e])))
        have HNX := Lib.hid (fun (h : xs.getD k IF.z0 = ys.getD k IF.z0) => show ∀ j, j < k + 1 → xs.getD j IF.z0 = ys.getD j IF.z0 from fun j hj => (by
            rcases Nat.lt_or_ge j k with hjk | hjk
            · exact HQ.out j hjk
            · rw [show j = k from by omega]; exact h))
        generalize xs.getD k IF.z0 = x at g0 g1 g2 g3 g4 g5 g6 g7 g8 g9 HP hcx HLX HNE HNX
        generalize ys.getD k IF.z0 = y at k0 k1 k2 k3 k4 k5 k6 k7 k8 k9 HR hcy HLY HNE HNX
        have HBN := Lib.hid (((Below.refl wr.heap.size wr).alloc (Nat.le_refl _) (.cells #[.int .i64 x.kind, .int .i64 x.mode, .int .i64 x.uid, .int .i64 x.gid, .int .i64 x.links, .int .i64 x.size, .int .i64 x.tick, .slice pa0 x.blocks.length pd0, .slice pa1 x.acl.length pd1, .slice pa2 x.dflt.length pd2] 47)).alloc (by simp) (.cells #[.int .i64 y.kind, .int .i64 y.mode, .int .i64 y.uid, .int .i64 y.gid, .int .i64 y.links, .int .i64 y.size, .int .i64 y.tick, .slice qa0 y.blocks.length qd0, .slice qa1 y.acl.length qd1, .slice qa2 y.dflt.length qd2] 47))
        have HB2 := Lib.hid (HB.out.trans (HBN.out.mono hsz))
        have HP2 := Lib.hid (In.holds_below HP.out HBN.out)
        have HR2 := Lib.hid (In.holds_below HR.out HBN.out)
        go_wp2_with fail
        refine (InSm.same_impl _ _ _ x y (by omega) (by omega) HLX.out.blocks.2 HLY.out.blocks.2 HP2.out HR2.out).mono ?_
        rintro e w1 ⟨rfl, hb1⟩
        have HB3 := Lib.hid (HB2.out.trans (hb1.mono HB2.out.size))
        clear hb1 g0 g1 g2 g3 g4 g5 g6 g7 g8 g9 k0 k1 k2 k3 k4 k5 k6 k7 k8 k9
        cases hs : InoV.sameB x y
        · have HF := Lib.hid (HNE.out (fun e => by rw [e, InoV.same_refl] at hs; cases hs))
          clear hs
          go_wp2
          go_ret
          exact ⟨ret_bool HF.out.symm, HB3.out⟩
        · have HS := Lib.hid (HNX.out ((InoV.same_iff x y).1 hs))
          clear hs
          go_wp2
          go_roundw
          case rel => exact ⟨k + 1, by omega, by go_num, HB3.out, HS.out⟩
          case measure => simp [intOf]; omega
      · have HN := Lib.hid (show decide (xs = ys) = true from decide_eq_true (ext_getD HE.out (fun j hj => HQ.out j (by rw [← HL.out] at hj; omega))))
        go_wp2
        go_ret
        exact ⟨ret_bool HN.out.symm, HB.out⟩
  · have hd : decide (xs = ys) = false := decide_eq_false (fun h => hl (by rw [h]))
    rw [hd]
    generalize xs.length = L at *
    generalize ys.length = M at *
    go_enter Try.func21, Try.ntmps21
    go_wp2
    go_ret
    exact ⟨rfl, Below.refl _ _⟩
end Go.Proofs.Ytmljjdglmlnbaaa.FsQ
