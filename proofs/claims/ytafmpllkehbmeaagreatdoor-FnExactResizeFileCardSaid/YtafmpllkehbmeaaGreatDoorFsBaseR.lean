/- Helper texts joined, one behind another (a claim has at most 60 files): what each proves, its own head says: YtafmpllkehbmeaaGreatDoorSpR. -/
import Derived.Test.YtafmpllkehbmeaaGreatDoorFsBaseC

-- YtafmpllkehbmeaaGreatDoorSpR
/- Contracts and plain facts that a law of this seat leans on. Conditions: as each theorem types them. -/
namespace Go.Proofs.YtafmpllkehbmeaaGreatDoor.SpR
open Go.ChangeShapes Go.WideShapes Go.ChangeAt Go.RowKit
open Foot Bx
open InoV (I)
open FsV (F okF e0 z32)
open FsY FsZ CoC
open Dk (ret_bool)
set_option linter.unusedVariables false

theorem ret_str {a b : ByteArray} (h : a = b) : Ending.returned (.string a) = .returned (.string b) := by rw [h]
set_option maxRecDepth 100000 in
set_option maxHeartbeats 1600000 in
theorem use_spec (w : World) (v : Value) (f : F) (i : Int) (hc : FsF.cost f ≤ 1073741824) (hl : FsF.Lim f) (h : FsF.Holds w v f) :
    Calls Tryz.prog 90 #[v, .int .i64 i] w fun e w' => e = .returned (.bool (hasObjB f i)) ∧ Below w.heap.size w w' := by
  have HFS := Lib.hid h
  have HCC := Lib.hid hc
  have HLM := Lib.hid hl
  obtain ⟨r0, r1, r2, rfl, g0, g1, g2⟩ := h
  have HI1 := Lib.hid g1
  obtain ⟨qa, qc, rfl⟩ := QF.form g0
  obtain ⟨ia, ic, rfl⟩ := IF.form g1
  obtain ⟨da, dc, rfl⟩ := SF.form g2
  clear g0 g1 g2 hc hl
  obtain ⟨T, hT⟩ : ∃ T, T = f.tick := ⟨_, rfl⟩
  obtain ⟨Q, hQ⟩ : ∃ Q, Q = f.quotas.length := ⟨_, rfl⟩
  obtain ⟨M, hM⟩ : ∃ M, M = f.inodes.length := ⟨_, rfl⟩
  obtain ⟨D, hD⟩ : ∃ D, D = f.data.length := ⟨_, rfl⟩
  rw [← hT, ← hQ, ← hM, ← hD] at HFS ⊢
  rw [← hM] at HI1
  have HM := Lib.hid hM
  clear hT hQ hM hD
  have HB0 := Lib.hid ((Below.refl w.heap.size w).alloc (Nat.le_refl _) (.cells #[.int .i64 T, .slice qa Q qc, .slice ia M ic, .slice da D dc] 27))
  have HX0 := Lib.hid (new w #[.int .i64 T, .slice qa Q qc, .slice ia M ic, .slice da D dc] 27)
  obtain ⟨C, hC⟩ : ∃ C, C = okF f := ⟨_, rfl⟩
  have HIS := Lib.hid (fun W v (hF : FsF.Holds W v f) => show Calls Tryz.prog 116 #[v] W fun e w' => e = .returned (.bool C) ∧ Below W.heap.size W w' from by rw [hC]; exact FsS.is_spec W v f HCC.out HLM.out hF)
  have HCE := Lib.hid hC
  obtain ⟨A, hA⟩ : ∃ A, (decide ((0 : Int) ≤ i) && decide (i ≤ 19)) = A := ⟨_, rfl⟩
  have HIN := Lib.hid (fun W => FsS.in_any i 0 19 hA W)
  cases C
  · have HF := Lib.hid (show hasObjB f i = false from by unfold hasObjB; rw [← hC, Bool.and_false]; rfl)
    clear hC hA
    go_enter Tryz.func90, Tryz.ntmps90
    go_wp2_with fail
    refine (HIS.out _ _ (FsF.holds_below HFS.out HB0.out)).mono ?_
    rintro e w1 ⟨rfl, hb⟩
    have HB1 := Lib.hid (HB0.out.trans (hb.mono HB0.out.size))
    clear hb
    go_wp2
    go_ret
    exact ⟨ret_bool HF.out.symm, HB1.out⟩
  · cases A
    · have HF := Lib.hid (show hasObjB f i = false from by unfold hasObjB; rw [hA]; rfl)
      clear hC hA
      go_enter Tryz.func90, Tryz.ntmps90
      go_wp2_with fail
      refine (HIS.out _ _ (FsF.holds_below HFS.out HB0.out)).mono ?_
      rintro e w1 ⟨rfl, hb⟩
      have HB1 := Lib.hid (HB0.out.trans (hb.mono HB0.out.size))
      clear hb
      go_wp2_with fail
      refine (HIN.out _).mono ?_
      rintro e w2 ⟨rfl, rfl⟩
      go_wp2
      go_ret
      exact ⟨ret_bool HF.out.symm, HB1.out⟩
    · have hb2 := hA
      rw [Bool.and_eq_true, decide_eq_true_eq, decide_eq_true_eq] at hb2
      obtain ⟨k, rfl⟩ : ∃ k : Nat, i = k := ⟨i.toNat, by omega⟩
      have hk : k < 20 := by omega
      have HVV := Lib.hid (show hasObjB f k = !decide ((ino f k).kind = 0) from by unfold hasObjB; rw [hA, ← hC]; rfl)
      have hM20 : M = 20 := by rw [HM.out]; exact (FsV.parts_of (FsV.ok_parts hC.symm).2.1).2.1
      clear hC hA hb2
      subst hM20
      obtain ⟨a9, c9, e9, l9, hat⟩ := HI1.out
      rw [Value.slice.injEq] at e9
      obtain ⟨rfl, e8, rfl⟩ := e9
      clear e8 l9
      obtain ⟨b, o, rfl, hb, r0, r1, r2, hCl, hP⟩ := hat k (by rw [← HM.out]; exact hk)
      have hc0 := hCl.1
      rw [show f.inodes.getD k IF.z0 = ino f k from rfl] at hc0
      have HHB := Lib.hid hb
      clear hat hCl hP hb
      obtain ⟨K, hK⟩ : ∃ K, K = (ino f k).kind := ⟨_, rfl⟩
      rw [← hK] at hc0 HVV
      clear hK
      have HC0 := Lib.hid hc0
      have hk0 : (0 : Int) ≤ k := by omega
      have hk1 : (k : Int) < 20 := by omega
      clear hc0
      go_enter Tryz.func90, Tryz.ntmps90
      go_wp2_with fail
      refine (HIS.out _ _ (FsF.holds_below HFS.out HB0.out)).mono ?_
      rintro e w1 ⟨rfl, hb⟩
      have HB1 := Lib.hid (HB0.out.trans (hb.mono HB0.out.size))
      have HX1 := Lib.hid (HX0.out.all hb)
      clear hb
      go_wp2_with fail
      refine (HIN.out _).mono ?_
      rintro e w2 ⟨rfl, rfl⟩
      obtain ⟨x0, x1, x2, x3⟩ := Bk.c4 HX1.out
      have c0 := HB1.out.cell (p := ⟨b, o + k * 10, none⟩) HHB.out
      rw [HC0.out] at c0
      by_cases hz : K = 0
      · have HF := Lib.hid (show hasObjB f k = false from by rw [HVV.out, decide_eq_true hz]; rfl)
        subst hz
        go_wp2
        go_ret
        exact ⟨ret_bool HF.out.symm, HB1.out⟩
      · have HF := Lib.hid (show hasObjB f k = true from by rw [HVV.out, decide_eq_false hz]; rfl)
        have z1 : (K != 0) = true := by simpa using hz
        have z2 : (K == 0) = false := by simpa using hz
        clear hz
        go_wp2
        go_ret
        exact ⟨ret_bool HF.out.symm, HB1.out⟩

end Go.Proofs.YtafmpllkehbmeaaGreatDoor.SpR
