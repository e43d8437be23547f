/- Contracts: SameFS, the program's and the model's. Conditions: as each theorem types them. -/
import Derived.Test.YtmljjdglmlnbaaaFsQ
import Derived.Test.YtmljjdglmlnbaaaSame
namespace Go.Proofs.Ytmljjdglmlnbaaa.FsR
open Go.ChangeShapes Go.WideShapes Go.ChangeAt Go.RowKit
open Foot Bx
open FsV (F)
open InEq (ext_getD below_draws)
open FsQ (inoDec)
open Dk (ret_bool)
set_option linter.unusedVariables false

def sameF (a b : F) : Bool := decide (a.tick = b.tick) && decide (a.quotas = b.quotas) && decide (a.inodes = b.inodes) && decide (a.data = b.data)

set_option maxRecDepth 100000 in
set_option maxHeartbeats 3200000 in
theorem same_impl (w : World) (va vb : Value) (a b : F) (ha : FsF.cost a ≤ 1073741824) (hb : FsF.cost b ≤ 1073741824) (la : FsF.Lim a) (lb : FsF.Lim b) (h : FsF.Holds w va a) (h' : FsF.Holds w vb b) :
    Calls Try.prog 10 #[va, vb] w fun e w' => e = .returned (.bool (sameF a b)) ∧ Below w.heap.size w w' := by
  obtain ⟨p0, p1, p2, rfl, g0, g1, g2⟩ := h
  obtain ⟨q0, q1, q2, rfl, k0, k1, k2⟩ := h'
  have G0 := Lib.hid g0
  have G1 := Lib.hid g1
  have G2 := Lib.hid g2
  have K0 := Lib.hid k0
  have K1 := Lib.hid k1
  have K2 := Lib.hid k2
  obtain ⟨pqa, pqc, rfl⟩ := QF.form g0
  obtain ⟨pia, pic, rfl⟩ := IF.form g1
  obtain ⟨pda, pdc, rfl⟩ := SF.form g2
  obtain ⟨qqa, qqc, rfl⟩ := QF.form k0
  obtain ⟨qia, qic, rfl⟩ := IF.form k1
  obtain ⟨qda, qdc, rfl⟩ := SF.form k2
  clear g0 g1 g2 k0 k1 k2
  have HIa := Lib.hid (show IF.cost a.inodes ≤ 1073741824 from Nat.le_trans (FsF.le_inodes a) ha)
  have HIb := Lib.hid (show IF.cost b.inodes ≤ 1073741824 from Nat.le_trans (FsF.le_inodes b) hb)
  have HQa := Lib.hid (show a.quotas.length ≤ 1073741824 from Nat.le_trans (FsF.le_quotas a) ha)
  have HQb := Lib.hid (show b.quotas.length ≤ 1073741824 from Nat.le_trans (FsF.le_quotas b) hb)
  have HDa := Lib.hid (show a.data.length ≤ 1073741824 from Nat.le_trans (Nat.le_trans (Nat.le_add_right _ _) (FsF.le_data a)) ha)
  have HDb := Lib.hid (show b.data.length ≤ 1073741824 from Nat.le_trans (Nat.le_trans (Nat.le_add_right _ _) (FsF.le_data b)) hb)
  have HLa := Lib.hid la
  have HLb := Lib.hid lb
  clear ha hb la lb
  obtain ⟨pQ, hpQ⟩ : ∃ x, x = a.quotas.length := ⟨_, rfl⟩
  obtain ⟨pI, hpI⟩ : ∃ x, x = a.inodes.length := ⟨_, rfl⟩
  obtain ⟨pD, hpD⟩ : ∃ x, x = a.data.length := ⟨_, rfl⟩
  obtain ⟨qQ, hqQ⟩ : ∃ x, x = b.quotas.length := ⟨_, rfl⟩
  obtain ⟨qI, hqI⟩ : ∃ x, x = b.inodes.length := ⟨_, rfl⟩
  obtain ⟨qD, hqD⟩ : ∃ x, x = b.data.length := ⟨_, rfl⟩
  rw [← hpQ] at G0
  rw [← hpI] at G1
  rw [← hpD] at G2
  rw [← hqQ] at K0
  rw [← hqI] at K1
  rw [← hqD] at K2
  rw [← hpQ, ← hpI, ← hpD, ← hqQ, ← hqI, ← hqD]
  clear hpQ hpI hpD hqQ hqI hqD
  obtain ⟨T, hT⟩ : ∃ T, T = a.tick := ⟨_, rfl⟩
  obtain ⟨U, hU⟩ : ∃ U, U = b.tick := ⟨_, rfl⟩
  have HS := Lib.hid (show sameF a b = (decide (T = U) && decide (a.quotas = b.quotas) && decide (a.inodes = b.inodes) && decide (a.data = b.data)) by rw [sameF, hT, hU])
  rw [← hT, ← hU]
  clear hT hU
  have HB := Lib.hid (((Below.refl w.heap.size w).alloc (Nat.le_refl _) (.cells #[.int .i64 T, .slice pqa pQ pqc, .slice pia pI pic, .slice pda pD pdc] 34)).alloc (by simp) (.cells #[.int .i64 U, .slice qqa qQ qqc, .slice qia qI qic, .slice qda qD qdc] 34))
  have HX := Lib.hid ((new w #[.int .i64 T, .slice pqa pQ pqc, .slice pia pI pic, .slice pda pD pdc] 34).alloc (.cells #[.int .i64 U, .slice qqa qQ qqc, .slice qia qI qic, .slice qda qD qdc] 34))
  have HY := Lib.hid (new_at (w.alloc (.cells #[.int .i64 T, .slice pqa pQ pqc, .slice pia pI pic, .slice pda pD pdc] 34)) #[.int .i64 U, .slice qqa qQ qqc, .slice qia qI qic, .slice qda qD qdc] 34 (w.heap.size + 1) (by simp))
  have HB0 := Lib.hid HB.out
  obtain ⟨E, hE⟩ : ∃ E, decide (a.inodes = b.inodes) = E := ⟨_, rfl⟩
  obtain ⟨Q, hQ⟩ : ∃ Q, decide (a.quotas = b.quotas) = Q := ⟨_, rfl⟩
  obtain ⟨D, hD⟩ : ∃ D, decide (a.data = b.data) = D := ⟨_, rfl⟩
  have HE := Lib.hid hE
  have HQ := Lib.hid hQ
  have HD := Lib.hid hD
  have HV := Lib.hid (show sameF a b = (decide (T = U) && Q && E && D) by rw [HS.out, hE, hQ, hD])
  clear hE hQ hD
  have ht1 : (T == U) = decide (T = U) := by by_cases hh : T = U <;> simp [hh]
  cases htu : decide (T = U)
  all_goals
    rw [htu] at ht1 HV
    clear htu
    cases Q
    all_goals
      cases E
      all_goals
        go_enter Try.func10, Try.ntmps10
        go_wp2_with fail
        refine (FsQ.equal_ino _ _ _ a.inodes b.inodes HIa.out HIb.out HLa.out.inodes HLb.out.inodes (IF.holds_below G1.out HB0.out) (IF.holds_below K1.out HB0.out)).mono ?_
        rintro e w1 ⟨rfl, hb⟩
        rw [HE.out]
        have HX1 := Lib.hid (HX.out.all hb)
        have HY1 := Lib.hid (HY.out.all hb)
        have HB1 := Lib.hid (HB.out.trans (hb.mono HB.out.size))
        clear hb
        obtain ⟨x0, x1, x2, x3⟩ := Bk.c4 HX1.out
        obtain ⟨y0, y1, y2, y3⟩ := Bk.c4 HY1.out
        go_wp2_with fail
        all_goals try first
          | (go_ret
             exact ⟨ret_bool (by rw [HV.out]; rfl), HB1.out⟩)
          | skip
        all_goals try (
          clear x0 x1 x2 x3 y0 y1 y2 y3
          refine (FsQ.equal_qt _ _ _ a.quotas b.quotas HQa.out HQb.out (QF.holds_below G0.out HB1.out) (QF.holds_below K0.out HB1.out)).mono ?_
          rintro e w2 ⟨rfl, hb⟩
          rw [HQ.out]
          have HX2 := Lib.hid (HX1.out.all hb)
          have HY2 := Lib.hid (HY1.out.all hb)
          have HB2 := Lib.hid (HB1.out.trans (hb.mono HB1.out.size))
          clear hb
          obtain ⟨x0, x1, x2, x3⟩ := Bk.c4 HX2.out
          obtain ⟨y0, y1, y2, y3⟩ := Bk.c4 HY2.out
          go_wp2_with fail
          all_goals try first
            | (go_ret
               exact ⟨ret_bool (by rw [HV.out]; rfl), HB2.out⟩)
            | skip
          all_goals try (
            clear x0 x1 x2 x3 y0 y1 y2 y3
            refine (Same.equalS_any _ _ _ a.data b.data HDa.out HDb.out (SF.holds_below G2.out HB2.out) (SF.holds_below K2.out HB2.out)).mono ?_
            rintro e w3 ⟨rfl, hb⟩
            rw [HD.out]
            have HB3 := Lib.hid (HB2.out.trans (hb.mono HB2.out.size))
            clear hb
            go_wp2
            go_ret
            exact ⟨ret_bool (by rw [HV.out]; cases D <;> rfl), HB3.out⟩))
end Go.Proofs.Ytmljjdglmlnbaaa.FsR
