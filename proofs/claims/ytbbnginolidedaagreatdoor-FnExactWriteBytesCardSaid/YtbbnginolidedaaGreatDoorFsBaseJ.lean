/- Helper texts joined, one behind another (a claim has at most 60 files): what each proves, its own head says: YtbbnginolidedaaGreatDoorCoWb. -/
import Derived.Test.YtbbnginolidedaaGreatDoorFsBaseH
import Derived.Test.YtbbnginolidedaaGreatDoorFsBaseD
import Derived.Test.YtbbnginolidedaaGreatDoorIsName
import Derived.Deep.Cut
import Derived.Deep.RegionLaw
import Derived.Deep.RegionHeld3

-- YtbbnginolidedaaGreatDoorCoWb
/- Contract: the program's WriteBytes, and writeCode. Conditions: the cost, the string's size. -/
namespace Go.Proofs.YtbbnginolidedaaGreatDoor.CoWb
open Go.ChangeShapes Go.WideShapes Go.ChangeAt Go.RowKit
open Foot Bx
open InoV (I usedV needV)
open FsV (F okF e0 z32 usersB)
open FsY FsZ FoB CoN
open RowG (cellsB cellsB_length)
set_option linter.unusedVariables false
open CoFr (good_of)
def codeV (f : F) (i a : Int) (n : Nat) : Int := if !(hasObjB f i && decide (0 ≤ a)) then 1 else if 256 - (n : Int) < a then 9 else 0
theorem ret_int {a b : Int} (h : a = b) : Ending.returned (.int .i64 a) = .returned (.int .i64 b) := by rw [h]

set_option maxRecDepth 100000 in
set_option maxHeartbeats 3200000 in
theorem code_impl (w : World) (v : Value) (f : F) (i a : Int) (n : Nat) (hn : n ≤ 1073741824) (hc : FsF.cost f ≤ 1073741824) (hl : FsF.Lim f) (hv : InOk.Vars w) (h : FsF.Holds w v f) :
    Calls Tryz.prog 54 #[v, .int .i64 i, .int .i64 a, .int .i64 n] w fun e w' => e = .returned (.int .i64 (codeV f i a n)) ∧ Below w.heap.size w w' := by
  have HFS := Lib.hid h
  have HCC := Lib.hid hc
  have HLM := Lib.hid hl
  have HV := Lib.hid hv
  obtain ⟨r0, r1, r2, rfl, g0, g1, g2⟩ := h
  obtain ⟨qa, qc, rfl⟩ := QF.form g0
  obtain ⟨ia, ic, rfl⟩ := IF.form g1
  obtain ⟨da, dc, rfl⟩ := SF.form g2
  clear g0 g1 g2 hc hl hv
  obtain ⟨T, hT⟩ : ∃ T, T = f.tick := ⟨_, rfl⟩
  obtain ⟨Q, hQ⟩ : ∃ Q, Q = f.quotas.length := ⟨_, rfl⟩
  obtain ⟨M, hM⟩ : ∃ M, M = f.inodes.length := ⟨_, rfl⟩
  obtain ⟨D, hD⟩ : ∃ D, D = f.data.length := ⟨_, rfl⟩
  rw [← hT, ← hQ, ← hM, ← hD] at HFS ⊢
  clear hT hQ hM hD
  have HB0 := Lib.hid ((Below.refl w.heap.size w).alloc (Nat.le_refl _) (.cells #[.int .i64 T, .slice qa Q qc, .slice ia M ic, .slice da D dc] 27))
  obtain ⟨C, hC⟩ : ∃ C, C = hasObjB f i := ⟨_, rfl⟩
  have HHA := Lib.hid (fun W (hw : Below w.heap.size w W) => show Calls Tryz.prog 68 #[.agg #[.int .i64 T, .slice qa Q qc, .slice ia M ic, .slice da D dc], .int .i64 i] W fun e w' => e = .returned (.bool C) ∧ Below W.heap.size W w' from by rw [hC]; exact has_impl W _ f i HCC.out HLM.out (HV.out.all hw) (FsF.holds_below HFS.out hw))
  have HCE := Lib.hid hC
  cases C
  · have HVV := Lib.hid (show codeV f i a n = 1 from by unfold codeV; rw [← hC]; rfl)
    clear hC
    go_enter Tryz.func54, Tryz.ntmps54
    go_wp2_with fail
    refine (HHA.out _ HB0.out).mono ?_
    rintro e w1 ⟨rfl, hb⟩
    have HB1 := Lib.hid (HB0.out.trans (hb.mono HB0.out.size))
    clear hb
    go_wp2
    go_ret
    exact ⟨ret_int HVV.out.symm, HB1.out⟩
  · by_cases ha : 0 ≤ a
    · have q0 : decide (a < 0) = false := decide_eq_false (by omega)
      by_cases hm : 256 - (n : Int) < a
      · have HVV := Lib.hid (show codeV f i a n = 9 from by unfold codeV; rw [← hC, decide_eq_true ha, if_pos hm]; rfl)
        have q1 : decide (256 - (n : Int) < a) = true := decide_eq_true hm
        clear hC ha hm
        go_enter Tryz.func54, Tryz.ntmps54
        go_wp2_with fail
        refine (HHA.out _ HB0.out).mono ?_
        rintro e w1 ⟨rfl, hb⟩
        have HB1 := Lib.hid (HB0.out.trans (hb.mono HB0.out.size))
        clear hb
        go_wp2
        go_ret
        exact ⟨ret_int HVV.out.symm, HB1.out⟩
      · have HVV := Lib.hid (show codeV f i a n = 0 from by unfold codeV; rw [← hC, decide_eq_true ha, if_neg hm]; rfl)
        have q1 : decide (256 - (n : Int) < a) = false := decide_eq_false hm
        clear hC ha hm
        go_enter Tryz.func54, Tryz.ntmps54
        go_wp2_with fail
        refine (HHA.out _ HB0.out).mono ?_
        rintro e w1 ⟨rfl, hb⟩
        have HB1 := Lib.hid (HB0.out.trans (hb.mono HB0.out.size))
        clear hb
        go_wp2
        go_ret
        exact ⟨ret_int HVV.out.symm, HB1.out⟩
    · have HVV := Lib.hid (show codeV f i a n = 1 from by unfold codeV; rw [decide_eq_false ha, Bool.and_false]; rfl)
      have q0 : decide (a < 0) = true := decide_eq_true (by omega)
      clear hC ha
      go_enter Tryz.func54, Tryz.ntmps54
      go_wp2_with fail
      refine (HHA.out _ HB0.out).mono ?_
      rintro e w1 ⟨rfl, hb⟩
      have HB1 := Lib.hid (HB0.out.trans (hb.mono HB0.out.size))
      clear hb
      go_wp2
      go_ret
      exact ⟨ret_int HVV.out.symm, HB1.out⟩

theorem own_shape {w : World} {base : Nat} {v : Value} {n : I} {S : List Nat} (h : In.Own w base v n S) : ∃ (a0 : Option Addr) (c0 : Nat) (a1 : Option Addr) (c1 : Nat) (a2 : Option Addr) (c2 : Nat), v = .agg #[.int .i64 n.kind, .int .i64 n.mode, .int .i64 n.uid, .int .i64 n.gid, .int .i64 n.links, .int .i64 n.size, .int .i64 n.tick, .slice a0 n.blocks.length c0, .slice a1 n.acl.length c1, .slice a2 n.dflt.length c2] := by
  obtain ⟨r0, r1, r2, S0, S1, S2, rfl, _, _, h0, h1, h2⟩ := h
  obtain ⟨x0, c0, rfl⟩ := NiF.own_form h0
  obtain ⟨x1, c1, rfl⟩ := AeF.own_form h1
  obtain ⟨x2, c2, rfl⟩ := AeF.own_form h2
  exact ⟨_, _, _, _, _, _, rfl⟩
/-- Behind the first region: the inode that is written to lies in a box of its own. -/
def Nx (w : World) (cs : Array Value) (n : I) (p : Value) (W : World) : Prop :=
  ∃ (nb : Nat) (a0 : Option Addr) (c0 : Nat) (a1 : Option Addr) (c1 : Nat) (a2 : Option Addr) (c2 : Nat) (S : List Nat), p = .pointer (some ⟨nb, 0, none⟩) ∧ Bk W nb #[.int .i64 n.kind, .int .i64 n.mode, .int .i64 n.uid, .int .i64 n.gid, .int .i64 n.links, .int .i64 n.size, .int .i64 n.tick, .slice a0 n.blocks.length c0, .slice a1 n.acl.length c1, .slice a2 n.dflt.length c2] 34 ∧ In.Own W (w.heap.size + 1 + 1) (.agg #[.int .i64 n.kind, .int .i64 n.mode, .int .i64 n.uid, .int .i64 n.gid, .int .i64 n.links, .int .i64 n.size, .int .i64 n.tick, .slice a0 n.blocks.length c0, .slice a1 n.acl.length c1, .slice a2 n.dflt.length c2]) n S ∧ nb ∉ S ∧ w.heap.size + 1 < nb ∧ Bk W w.heap.size cs 27 ∧ Bk W (w.heap.size + 1) #[.int .i64 0, .slice none 0 0, .slice none 0 0, .slice none 0 0] 27 ∧ Below w.heap.size w W

set_option maxRecDepth 100000 in
set_option maxHeartbeats 12800000 in
theorem write_impl (w : World) (v : Value) (f : F) (i a : Int) (s : ByteArray) (hc : FsF.cost f ≤ 1073741824) (hl : FsF.Lim f) (hv : InOk.Vars w) (hs : s.size ≤ 1073741824) (h : FsF.Holds w v f) :
    Calls Tryz.prog 17 #[v, .int .i64 i, .int .i64 a, .string s] w fun e w' => ∃ v' S, e = .returned (.tuple #[v', .int .i64 (writeV f i a s).2]) ∧ FsF.Own w' w.heap.size v' (writeV f i a s).1 S ∧ Below w.heap.size w w' := by
  have HFS := Lib.hid h
  have HCC := Lib.hid hc
  have HLM := Lib.hid hl
  have HV := Lib.hid hv
  obtain ⟨r0, r1, r2, rfl, g0, g1, g2⟩ := h
  have HI1 := Lib.hid g1
  obtain ⟨qa, qc, rfl⟩ := QF.form g0
  obtain ⟨ia, ic, rfl⟩ := IF.form g1
  obtain ⟨da, dc, rfl⟩ := SF.form g2
  clear g0 g1 g2 hc hl hv
  obtain ⟨T, hT⟩ : ∃ T, T = f.tick := ⟨_, rfl⟩
  obtain ⟨Q, hQ⟩ : ∃ Q, Q = f.quotas.length := ⟨_, rfl⟩
  obtain ⟨M, hM⟩ : ∃ M, M = f.inodes.length := ⟨_, rfl⟩
  obtain ⟨D, hD⟩ : ∃ D, D = f.data.length := ⟨_, rfl⟩
  rw [← hT, ← hQ, ← hM, ← hD] at HFS ⊢
  rw [← hM] at HI1
  have HM := Lib.hid hM
  clear hT hQ hM hD
  have HB0 := Lib.hid (((Below.refl w.heap.size w).alloc (Nat.le_refl _) (.cells #[.int .i64 T, .slice qa Q qc, .slice ia M ic, .slice da D dc] 27)).alloc (by simp) (.cells #[.int .i64 0, .slice none 0 0, .slice none 0 0, .slice none 0 0] 27))
  have HX0 := Lib.hid ((new w #[.int .i64 T, .slice qa Q qc, .slice ia M ic, .slice da D dc] 27).alloc (.cells #[.int .i64 0, .slice none 0 0, .slice none 0 0, .slice none 0 0] 27))
  have HR0 := Lib.hid (new_at (w.alloc (.cells #[.int .i64 T, .slice qa Q qc, .slice ia M ic, .slice da D dc] 27)) #[.int .i64 0, .slice none 0 0, .slice none 0 0, .slice none 0 0] 27 (w.heap.size + 1) (by simp))
  have HS0 := Lib.hid (show w.heap.size + 1 + 1 ≤ ((w.alloc (.cells #[.int .i64 T, .slice qa Q qc, .slice ia M ic, .slice da D dc] 27)).alloc (.cells #[.int .i64 0, .slice none 0 0, .slice none 0 0, .slice none 0 0] 27)).heap.size by simp)
  have HCP := Lib.hid (fun (W : World) (hb : Below w.heap.size w W) => CpG.copy_impl W _ f HCC.out HLM.out (FsF.holds_below HFS.out hb))
  obtain ⟨C, hC⟩ : ∃ C, C = codeV f i a s.size := ⟨_, rfl⟩
  have HWC := Lib.hid (fun W (hw : Below w.heap.size w W) => show Calls Tryz.prog 54 #[.agg #[.int .i64 T, .slice qa Q qc, .slice ia M ic, .slice da D dc], .int .i64 i, .int .i64 a, .int .i64 s.size] W fun e w' => e = .returned (.int .i64 C) ∧ Below W.heap.size W w' from by rw [hC]; exact code_impl W _ f i a s.size hs HCC.out HLM.out (HV.out.all hw) (FsF.holds_below HFS.out hw))
  by_cases hb1 : (hasObjB f i && decide (0 ≤ a)) = false
  · obtain rfl : C = 1 := by rw [hC]; unfold codeV; rw [hb1]; rfl
    have HVV := Lib.hid (show writeV f i a s = (f, 1) from by unfold writeV; rw [hb1]; rfl)
    clear hC hb1
    go_enter Tryz.func17, Tryz.ntmps17
    go_wp2_with fail
    refine (HWC.out _ HB0.out).mono ?_
    rintro e w1 ⟨rfl, hb⟩
    have HB1 := Lib.hid (HB0.out.trans (hb.mono HB0.out.size))
    have HX1 := Lib.hid (HX0.out.all hb)
    have HR1 := Lib.hid (HR0.out.all hb)
    have HS1 := Lib.hid (Nat.le_trans HS0.out hb.size)
    clear hb
    obtain ⟨x0, x1, x2, x3⟩ := Bk.c4 HX1.out
    go_wp2_with fail
    refine (HCP.out _ HB1.out).mono ?_
    rintro e w2 ⟨y, S, rfl, hown, hb⟩
    obtain ⟨z0, z1a, z1n, z1c, z2a, z2n, z2c, z3a, z3n, z3c, rfl⟩ := FsF.own_form hown
    have HB2 := Lib.hid (HB1.out.trans (hb.mono HB1.out.size))
    have HR2 := Lib.hid (HR1.out.all hb)
    have HNS := Lib.hid (show w.heap.size + 1 ∉ S from fun hh => by have h1 := (FsF.own_lies hown _ hh).1; have h2 := HS1.out; omega)
    have HOW := Lib.hid (FsF.own_mono hown HB1.out.size)
    clear hb hown
    obtain ⟨r0, r1, r2, r3⟩ := Bk.c4 HR2.out
    have f0 := HR2.out.free 0
    have f1 := HR2.out.free 1
    have f2 := HR2.out.free 2
    have f3 := HR2.out.free 3
    go_wp2
    have hF := FoB.box4_bk HR2.out (.int .i64 z0) (.slice z1a z1n z1c) (.slice z2a z2n z2c) (.slice z3a z3n z3c)
    have hC9 := FoB.box4_chg w2 (w.heap.size + 1) (.int .i64 z0) (.slice z1a z1n z1c) (.slice z2a z2n z2c) (.slice z3a z3n z3c)
    unfold FoB.box4 at hF hC9
    generalize ((((w2.setCell ⟨w.heap.size + 1, 0, none⟩ (.int .i64 z0)).setCell ⟨w.heap.size + 1, 1, none⟩ (.slice z1a z1n z1c)).setCell ⟨w.heap.size + 1, 2, none⟩ (.slice z2a z2n z2c)).setCell ⟨w.heap.size + 1, 3, none⟩ (.slice z3a z3n z3c)) = w9 at hF hC9 ⊢
    obtain ⟨e0, e1, e2, e3⟩ := Bk.c4 hF
    have hres := FsF.own_mono (FsF.own_chg HOW.out hC9 (fun x hx hh => by rw [List.mem_singleton] at hh; subst hh; exact HNS.out hx)) (show w.heap.size ≤ w.heap.size from Nat.le_refl _)
    refine bodyPost_ret (v := .tuple #[.agg #[.int .i64 z0, .slice z1a z1n z1c, .slice z2a z2n z2c, .slice z3a z3n z3c], .int .i64 1]) (by simp [results, Tryz.results17, go_sem, e0, e1, e2, e3]) rfl ?_
    exact ⟨_, S, by rw [HVV.out], by rw [HVV.out]; exact hres, HB2.out.trans (FoB.Chg.from hC9 HB2.out.size (Nat.le_succ _))⟩
  · have hb2 : (hasObjB f i && decide (0 ≤ a)) = true := by simpa using hb1
    clear hb1
    by_cases hm : 256 - (s.size : Int) < a
    · obtain rfl : C = 9 := by rw [hC]; unfold codeV; rw [hb2, if_pos hm]; rfl
      have HVV := Lib.hid (show writeV f i a s = (f, 9) from by unfold writeV; rw [hb2, if_pos hm]; rfl)
      clear hC hb2 hm
      go_enter Tryz.func17, Tryz.ntmps17
      go_wp2_with fail
      refine (HWC.out _ HB0.out).mono ?_
      rintro e w1 ⟨rfl, hb⟩
      have HB1 := Lib.hid (HB0.out.trans (hb.mono HB0.out.size))
      have HX1 := Lib.hid (HX0.out.all hb)
      have HR1 := Lib.hid (HR0.out.all hb)
      have HS1 := Lib.hid (Nat.le_trans HS0.out hb.size)
      clear hb
      obtain ⟨x0, x1, x2, x3⟩ := Bk.c4 HX1.out
      go_wp2_with fail
      refine (HCP.out _ HB1.out).mono ?_
      rintro e w2 ⟨y, S, rfl, hown, hb⟩
      obtain ⟨z0, z1a, z1n, z1c, z2a, z2n, z2c, z3a, z3n, z3c, rfl⟩ := FsF.own_form hown
      have HB2 := Lib.hid (HB1.out.trans (hb.mono HB1.out.size))
      have HR2 := Lib.hid (HR1.out.all hb)
      have HNS := Lib.hid (show w.heap.size + 1 ∉ S from fun hh => by have h1 := (FsF.own_lies hown _ hh).1; have h2 := HS1.out; omega)
      have HOW := Lib.hid (FsF.own_mono hown HB1.out.size)
      clear hb hown
      obtain ⟨r0, r1, r2, r3⟩ := Bk.c4 HR2.out
      have f0 := HR2.out.free 0
      have f1 := HR2.out.free 1
      have f2 := HR2.out.free 2
      have f3 := HR2.out.free 3
      go_wp2
      have hF := FoB.box4_bk HR2.out (.int .i64 z0) (.slice z1a z1n z1c) (.slice z2a z2n z2c) (.slice z3a z3n z3c)
      have hC9 := FoB.box4_chg w2 (w.heap.size + 1) (.int .i64 z0) (.slice z1a z1n z1c) (.slice z2a z2n z2c) (.slice z3a z3n z3c)
      unfold FoB.box4 at hF hC9
      generalize ((((w2.setCell ⟨w.heap.size + 1, 0, none⟩ (.int .i64 z0)).setCell ⟨w.heap.size + 1, 1, none⟩ (.slice z1a z1n z1c)).setCell ⟨w.heap.size + 1, 2, none⟩ (.slice z2a z2n z2c)).setCell ⟨w.heap.size + 1, 3, none⟩ (.slice z3a z3n z3c)) = w9 at hF hC9 ⊢
      obtain ⟨e0, e1, e2, e3⟩ := Bk.c4 hF
      have hres := FsF.own_mono (FsF.own_chg HOW.out hC9 (fun x hx hh => by rw [List.mem_singleton] at hh; subst hh; exact HNS.out hx)) (show w.heap.size ≤ w.heap.size from Nat.le_refl _)
      refine bodyPost_ret (v := .tuple #[.agg #[.int .i64 z0, .slice z1a z1n z1c, .slice z2a z2n z2c, .slice z3a z3n z3c], .int .i64 9]) (by simp [results, Tryz.results17, go_sem, e0, e1, e2, e3]) rfl ?_
      exact ⟨_, S, by rw [HVV.out], by rw [HVV.out]; exact hres, HB2.out.trans (FoB.Chg.from hC9 HB2.out.size (Nat.le_succ _))⟩
    · obtain rfl : C = 0 := by rw [hC]; unfold codeV; rw [hb2, if_neg hm]; rfl
      by_cases h0 : s.size = 0
      · have HVV := Lib.hid (show writeV f i a s = (f, 0) from by unfold writeV; rw [hb2, if_neg hm, if_pos h0]; rfl)
        have e1 := IsName.emp_true s h0
        have e2 : s.toList = [] := List.isEmpty_iff.1 e1
        clear hC hb2 hm h0
        go_enter Tryz.func17, Tryz.ntmps17
        go_wp2_with fail
        refine (HWC.out _ HB0.out).mono ?_
        rintro e w1 ⟨rfl, hb⟩
        have HB1 := Lib.hid (HB0.out.trans (hb.mono HB0.out.size))
        have HX1 := Lib.hid (HX0.out.all hb)
        have HR1 := Lib.hid (HR0.out.all hb)
        have HS1 := Lib.hid (Nat.le_trans HS0.out hb.size)
        clear hb
        obtain ⟨x0, x1, x2, x3⟩ := Bk.c4 HX1.out
        go_wp2_with fail
        refine (HCP.out _ HB1.out).mono ?_
        rintro e w2 ⟨y, S, rfl, hown, hb⟩
        obtain ⟨z0, z1a, z1n, z1c, z2a, z2n, z2c, z3a, z3n, z3c, rfl⟩ := FsF.own_form hown
        have HB2 := Lib.hid (HB1.out.trans (hb.mono HB1.out.size))
        have HR2 := Lib.hid (HR1.out.all hb)
        have HNS := Lib.hid (show w.heap.size + 1 ∉ S from fun hh => by have h1 := (FsF.own_lies hown _ hh).1; have h2 := HS1.out; omega)
        have HOW := Lib.hid (FsF.own_mono hown HB1.out.size)
        clear hb hown
        obtain ⟨r0, r1, r2, r3⟩ := Bk.c4 HR2.out
        have f0 := HR2.out.free 0
        have f1 := HR2.out.free 1
        have f2 := HR2.out.free 2
        have f3 := HR2.out.free 3
        go_wp2
        have hF := FoB.box4_bk HR2.out (.int .i64 z0) (.slice z1a z1n z1c) (.slice z2a z2n z2c) (.slice z3a z3n z3c)
        have hC9 := FoB.box4_chg w2 (w.heap.size + 1) (.int .i64 z0) (.slice z1a z1n z1c) (.slice z2a z2n z2c) (.slice z3a z3n z3c)
        unfold FoB.box4 at hF hC9
        generalize ((((w2.setCell ⟨w.heap.size + 1, 0, none⟩ (.int .i64 z0)).setCell ⟨w.heap.size + 1, 1, none⟩ (.slice z1a z1n z1c)).setCell ⟨w.heap.size + 1, 2, none⟩ (.slice z2a z2n z2c)).setCell ⟨w.heap.size + 1, 3, none⟩ (.slice z3a z3n z3c)) = w9 at hF hC9 ⊢
        obtain ⟨e0, e1, e2, e3⟩ := Bk.c4 hF
        have hres := FsF.own_mono (FsF.own_chg HOW.out hC9 (fun x hx hh => by rw [List.mem_singleton] at hh; subst hh; exact HNS.out hx)) (show w.heap.size ≤ w.heap.size from Nat.le_refl _)
        refine bodyPost_ret (v := .tuple #[.agg #[.int .i64 z0, .slice z1a z1n z1c, .slice z2a z2n z2c, .slice z3a z3n z3c], .int .i64 0]) (by simp [results, Tryz.results17, go_sem, e0, e1, e2, e3]) rfl ?_
        exact ⟨_, S, by rw [HVV.out], by rw [HVV.out]; exact hres, HB2.out.trans (FoB.Chg.from hC9 HB2.out.size (Nat.le_succ _))⟩
      · have e1 := IsName.emp_false s h0
        have e2 : (!s.toList.isEmpty) = true := by rw [e1]; rfl
        rw [Bool.and_eq_true, decide_eq_true_eq] at hb2
        obtain ⟨hb2, ha0⟩ := hb2
        obtain ⟨k, rfl, hg⟩ := good_of hb2
        obtain ⟨an, rfl⟩ : ∃ an : Nat, a = an := ⟨a.toNat, by omega⟩
        obtain ⟨l, hl⟩ : ∃ l, l = s.size := ⟨_, rfl⟩
        have hl0 : 0 < l := by omega
        have hal : an + l ≤ 256 := by omega
        have HL := Lib.hid hl
        have HG := Lib.hid hg
        obtain ⟨n, hn⟩ : ∃ n, n = ino f k := ⟨_, rfl⟩
        have HVV := Lib.hid (show writeV f k an s = if (wrR f n an l).2 = 0 then (withV f k { wrI n an l with blocks := wrB f n an l } (splice (content f.data n.blocks) an s.data.toList), 0) else (f, (wrR f n an l).2) from by
          unfold writeV
          rw [hb2, decide_eq_true ha0, if_neg hm, if_neg h0, hn, hl]; rfl)
        have HN := Lib.hid hn
        clear hC hb2 hm h0 ha0 hg hn
        have hM20 : M = 20 := by rw [HM.out]; exact (FsV.parts_of (FsV.ok_parts HG.out.ok).2.1).2.1
        subst hM20
        obtain ⟨a9, c9, e9, l9, hat⟩ := HI1.out
        rw [Value.slice.injEq] at e9
        obtain ⟨rfl, e8, rfl⟩ := e9
        clear e8 l9
        obtain ⟨b, o, rfl, hb, r0, r1, r2, hCl, hP⟩ := hat k (by rw [← HM.out]; exact HG.out.lt)
        rw [show f.inodes.getD k IF.z0 = n from HN.out.symm] at hCl hP
        have HIN := Lib.hid (IF.parts_holds hP)
        obtain ⟨p0, p1, p2⟩ := hP
        obtain ⟨b0, e0', rfl⟩ := NiF.form p0
        obtain ⟨b1, e1', rfl⟩ := AeF.form p1
        obtain ⟨b2, e2', rfl⟩ := AeF.form p2
        have HHB := Lib.hid hb
        have HCL := Lib.hid hCl
        have hk20 := HG.out.lt
        have hk0 : (0 : Int) ≤ k := by omega
        have hk1 : (k : Int) < 20 := by omega
        have HCN := Lib.hid (show In.cost n ≤ 1073741824 from by rw [HN.out]; exact Nat.le_trans (IF.cost_at (by rw [← HM.out]; exact hk20)) (Nat.le_trans (Nat.le_trans (Nat.le_add_left _ _) (FsF.le_inodes f)) HCC.out))
        clear hat hCl p0 p1 p2 hb
        have hgs := HG.out.size
        rw [← HN.out] at hgs
        obtain ⟨SZ, hSZ⟩ : ∃ SZ : Int, SZ = max ((an + l : Nat) : Int) n.size := ⟨_, rfl⟩
        have hsz0 : 0 ≤ SZ := by omega
        have hsz1 : SZ ≤ 256 := by omega
        have hmx : max ((an : Int) + (l : Int)) n.size = SZ := by rw [hSZ]; push_cast; rfl
        obtain ⟨N, hN⟩ : ∃ N, N = sized n SZ := ⟨_, rfl⟩
        have HNI := Lib.hid (show N = wrI n an l from by rw [hN]; unfold wrI; rw [hSZ])
        have HNQ := Lib.hid hN
        clear hN
        have HSZ := Lib.hid hSZ
        clear hSZ hgs hl
        rw [← HL.out] at HWC
        have hlS : s.size = l := HL.out.symm
        have HLS := Lib.hid hlS
        go_enter Tryz.func17, Tryz.ntmps17
        go_wp2_with fail
        refine (HWC.out _ HB0.out).mono ?_
        rintro e w1 ⟨rfl, hb⟩
        have HB1 := Lib.hid (HB0.out.trans (hb.mono HB0.out.size))
        have HX1 := Lib.hid (HX0.out.all hb)
        have HR1 := Lib.hid (HR0.out.all hb)
        have HS1 := Lib.hid (Nat.le_trans HS0.out hb.size)
        clear hb
        obtain ⟨x0, x1, x2, x3⟩ := Bk.c4 HX1.out
        go_upto_region 5 with (fail)
        go_cut [12] from 36 (fun p12 wc => Nx w #[.int .i64 T, .slice qa Q qc, .slice (some ⟨b, o, none⟩) 20 ic, .slice da D dc] N p12 wc)
        case first =>
          obtain ⟨d0, d1, d2, d3, d4, d5, d6, d7, d8, d9⟩ := HCL.out.below HHB.out HB1.out
          have hbl : b < w1.heap.size := Nat.lt_of_lt_of_le HHB.out HB1.out.size
          have hn1 : ¬ b = w1.heap.size := by omega
          have hn2 : ¬ w1.heap.size = b := by omega
          have hws : w.heap.size + 1 < w1.heap.size := by have := HS1.out; omega
          have hws0 : w.heap.size < w1.heap.size := by omega
          have hn3 : ¬ w.heap.size = w1.heap.size := by omega
          have hn4 : ¬ w1.heap.size = w.heap.size := by omega
          have HZ0 := Lib.hid (new w1 #[.int .i64 0, .int .i64 0, .int .i64 0, .int .i64 0, .int .i64 0, .int .i64 0, .int .i64 0, .slice none 0 0, .slice none 0 0, .slice none 0 0] 34)
          have y2 := (Bk.c4 (HX1.out.alloc (.cells #[.int .i64 0, .int .i64 0, .int .i64 0, .int .i64 0, .int .i64 0, .int .i64 0, .int .i64 0, .slice none 0 0, .slice none 0 0, .slice none 0 0] 34))).2.2.1
          obtain ⟨k0, k1, k2, k3, k4, k5, k6, k7, k8, k9⟩ := HCL.out.below HHB.out (HB1.out.alloc HB1.out.size (.cells #[.int .i64 0, .int .i64 0, .int .i64 0, .int .i64 0, .int .i64 0, .int .i64 0, .int .i64 0, .slice none 0 0, .slice none 0 0, .slice none 0 0] 34))
          have x2d : w1.drew.cell? ⟨w.heap.size, 2, none⟩ = some (.slice (some ⟨b, o, none⟩) 20 ic) := x2
          have y2d : (w1.alloc (.cells #[.int .i64 0, .int .i64 0, .int .i64 0, .int .i64 0, .int .i64 0, .int .i64 0, .int .i64 0, .slice none 0 0, .slice none 0 0, .slice none 0 0] 34)).drew.cell? ⟨w.heap.size, 2, none⟩ = some (.slice (some ⟨b, o, none⟩) 20 ic) := y2
          have dd0 : w1.drew.cell? ⟨b, o + k * 10, none⟩ = some (.int .i64 n.kind) := d0
          have kd0 : (w1.alloc (.cells #[.int .i64 0, .int .i64 0, .int .i64 0, .int .i64 0, .int .i64 0, .int .i64 0, .int .i64 0, .slice none 0 0, .slice none 0 0, .slice none 0 0] 34)).drew.cell? ⟨b, o + k * 10, none⟩ = some (.int .i64 n.kind) := k0
          have dd1 : w1.drew.cell? ⟨b, o + k * 10 + 1, none⟩ = some (.int .i64 n.mode) := d1
          have kd1 : (w1.alloc (.cells #[.int .i64 0, .int .i64 0, .int .i64 0, .int .i64 0, .int .i64 0, .int .i64 0, .int .i64 0, .slice none 0 0, .slice none 0 0, .slice none 0 0] 34)).drew.cell? ⟨b, o + k * 10 + 1, none⟩ = some (.int .i64 n.mode) := k1
          have dd2 : w1.drew.cell? ⟨b, o + k * 10 + 2, none⟩ = some (.int .i64 n.uid) := d2
          have kd2 : (w1.alloc (.cells #[.int .i64 0, .int .i64 0, .int .i64 0, .int .i64 0, .int .i64 0, .int .i64 0, .int .i64 0, .slice none 0 0, .slice none 0 0, .slice none 0 0] 34)).drew.cell? ⟨b, o + k * 10 + 2, none⟩ = some (.int .i64 n.uid) := k2
          have dd3 : w1.drew.cell? ⟨b, o + k * 10 + 3, none⟩ = some (.int .i64 n.gid) := d3
          have kd3 : (w1.alloc (.cells #[.int .i64 0, .int .i64 0, .int .i64 0, .int .i64 0, .int .i64 0, .int .i64 0, .int .i64 0, .slice none 0 0, .slice none 0 0, .slice none 0 0] 34)).drew.cell? ⟨b, o + k * 10 + 3, none⟩ = some (.int .i64 n.gid) := k3
          have dd4 : w1.drew.cell? ⟨b, o + k * 10 + 4, none⟩ = some (.int .i64 n.links) := d4
          have kd4 : (w1.alloc (.cells #[.int .i64 0, .int .i64 0, .int .i64 0, .int .i64 0, .int .i64 0, .int .i64 0, .int .i64 0, .slice none 0 0, .slice none 0 0, .slice none 0 0] 34)).drew.cell? ⟨b, o + k * 10 + 4, none⟩ = some (.int .i64 n.links) := k4
          have dd5 : w1.drew.cell? ⟨b, o + k * 10 + 5, none⟩ = some (.int .i64 n.size) := d5
          have kd5 : (w1.alloc (.cells #[.int .i64 0, .int .i64 0, .int .i64 0, .int .i64 0, .int .i64 0, .int .i64 0, .int .i64 0, .slice none 0 0, .slice none 0 0, .slice none 0 0] 34)).drew.cell? ⟨b, o + k * 10 + 5, none⟩ = some (.int .i64 n.size) := k5
          have dd6 : w1.drew.cell? ⟨b, o + k * 10 + 6, none⟩ = some (.int .i64 n.tick) := d6
          have kd6 : (w1.alloc (.cells #[.int .i64 0, .int .i64 0, .int .i64 0, .int .i64 0, .int .i64 0, .int .i64 0, .int .i64 0, .slice none 0 0, .slice none 0 0, .slice none 0 0] 34)).drew.cell? ⟨b, o + k * 10 + 6, none⟩ = some (.int .i64 n.tick) := k6
          have dd7 : w1.drew.cell? ⟨b, o + k * 10 + 7, none⟩ = some (.slice b0 n.blocks.length e0') := d7
          have kd7 : (w1.alloc (.cells #[.int .i64 0, .int .i64 0, .int .i64 0, .int .i64 0, .int .i64 0, .int .i64 0, .int .i64 0, .slice none 0 0, .slice none 0 0, .slice none 0 0] 34)).drew.cell? ⟨b, o + k * 10 + 7, none⟩ = some (.slice b0 n.blocks.length e0') := k7
          have dd8 : w1.drew.cell? ⟨b, o + k * 10 + 8, none⟩ = some (.slice b1 n.acl.length e1') := d8
          have kd8 : (w1.alloc (.cells #[.int .i64 0, .int .i64 0, .int .i64 0, .int .i64 0, .int .i64 0, .int .i64 0, .int .i64 0, .slice none 0 0, .slice none 0 0, .slice none 0 0] 34)).drew.cell? ⟨b, o + k * 10 + 8, none⟩ = some (.slice b1 n.acl.length e1') := k8
          have dd9 : w1.drew.cell? ⟨b, o + k * 10 + 9, none⟩ = some (.slice b2 n.dflt.length e2') := d9
          have kd9 : (w1.alloc (.cells #[.int .i64 0, .int .i64 0, .int .i64 0, .int .i64 0, .int .i64 0, .int .i64 0, .int .i64 0, .slice none 0 0, .slice none 0 0, .slice none 0 0] 34)).drew.cell? ⟨b, o + k * 10 + 9, none⟩ = some (.slice b2 n.dflt.length e2') := k9
          have HSA := Lib.hid (CoW.size_impl w1.drew _ n SZ hsz0 hsz1 HCN.out (In.holds_below HIN.out HB1.out.drew))
          rw [← HNQ.out] at HSA
          have HSB := Lib.hid (CoW.size_impl (w1.alloc (.cells #[.int .i64 0, .int .i64 0, .int .i64 0, .int .i64 0, .int .i64 0, .int .i64 0, .int .i64 0, .slice none 0 0, .slice none 0 0, .slice none 0 0] 34)).drew _ n SZ hsz0 hsz1 HCN.out (In.holds_below HIN.out (HB1.out.alloc HB1.out.size (.cells #[.int .i64 0, .int .i64 0, .int .i64 0, .int .i64 0, .int .i64 0, .int .i64 0, .int .i64 0, .slice none 0 0, .slice none 0 0, .slice none 0 0] 34)).drew))
          rw [← HNQ.out] at HSB
          go_region_held3 (fun w' => w'.cell? ⟨w.heap.size, 2, none⟩ = some (.slice (some ⟨b, o, none⟩) 20 ic) ∧ w'.cell? ⟨b, o + k * 10, none⟩ = some (.int .i64 n.kind) ∧ w'.cell? ⟨b, o + k * 10 + 1, none⟩ = some (.int .i64 n.mode) ∧ w'.cell? ⟨b, o + k * 10 + 2, none⟩ = some (.int .i64 n.uid) ∧ w'.cell? ⟨b, o + k * 10 + 3, none⟩ = some (.int .i64 n.gid) ∧ w'.cell? ⟨b, o + k * 10 + 4, none⟩ = some (.int .i64 n.links) ∧ w'.cell? ⟨b, o + k * 10 + 5, none⟩ = some (.int .i64 n.size) ∧ w'.cell? ⟨b, o + k * 10 + 6, none⟩ = some (.int .i64 n.tick) ∧ w'.cell? ⟨b, o + k * 10 + 7, none⟩ = some (.slice b0 n.blocks.length e0') ∧ w'.cell? ⟨b, o + k * 10 + 8, none⟩ = some (.slice b1 n.acl.length e1') ∧ w'.cell? ⟨b, o + k * 10 + 9, none⟩ = some (.slice b2 n.dflt.length e2')) (first | with_reducible exact ⟨x2, d0, d1, d2, d3, d4, d5, d6, d7, d8, d9⟩ | with_reducible exact ⟨x2d, dd0, dd1, dd2, dd3, dd4, dd5, dd6, dd7, dd8, dd9⟩ | with_reducible exact ⟨y2, k0, k1, k2, k3, k4, k5, k6, k7, k8, k9⟩ | with_reducible exact ⟨y2d, kd0, kd1, kd2, kd3, kd4, kd5, kd6, kd7, kd8, kd9⟩ | with_reducible exact ⟨v2, l0, l1, l2, l3, l4, l5, l6, l7, l8, l9⟩ | with_reducible exact ⟨hq2 _, hqa _, hqb _, hqc _, hqd _, hqe _, hqf _, hqg _, hqh _, hqi _, hqj _⟩ | with_reducible exact ⟨hp2 _ _ _ _ _ _ _ _ _ _, hpa _ _ _ _ _ _ _ _ _ _, hpb _ _ _ _ _ _ _ _ _ _, hpc _ _ _ _ _ _ _ _ _ _, hpd _ _ _ _ _ _ _ _ _ _, hpe _ _ _ _ _ _ _ _ _ _, hpf _ _ _ _ _ _ _ _ _ _, hpg _ _ _ _ _ _ _ _ _ _, hph _ _ _ _ _ _ _ _ _ _, hpi _ _ _ _ _ _ _ _ _ _, hpj _ _ _ _ _ _ _ _ _ _⟩ | go_keep)
            ((go_at_call 56; (first | ((with_reducible refine HSA.out.mono ?_); rintro e w5 ⟨y5, S5, rfl, hown, hb⟩; have HO5 := Lib.hid (In.own_mono hown HS1.out); have HLT := Lib.hid (show ∀ x ∈ S5, w1.heap.size ≤ x ∧ x < w5.heap.size from In.own_lies hown); obtain ⟨a0, c0, a1, c1, a2, c2, rfl⟩ := own_shape hown; have HB5 := Lib.hid ((HB1.out.drew).trans (hb.mono (HB1.out.drew).size)); have HX5 := Lib.hid (Bk.all (Bk.drew HX1.out) hb); have HR5 := Lib.hid (Bk.all (Bk.drew HR1.out) hb); have hs5 := hb.size; have v2 := (Bk.c4 HX5.out).2.2.1; obtain ⟨l0, l1, l2, l3, l4, l5, l6, l7, l8, l9⟩ := HCL.out.below HHB.out HB5.out; have hq2 := fun ob : Obj => (Bk.c4 (HX5.out.alloc ob)).2.2.1; have hqa := fun ob : Obj => (HCL.out.below HHB.out (HB5.out.alloc HB5.out.size ob)).1; have hqb := fun ob : Obj => (HCL.out.below HHB.out (HB5.out.alloc HB5.out.size ob)).2.1; have hqc := fun ob : Obj => (HCL.out.below HHB.out (HB5.out.alloc HB5.out.size ob)).2.2.1; have hqd := fun ob : Obj => (HCL.out.below HHB.out (HB5.out.alloc HB5.out.size ob)).2.2.2.1; have hqe := fun ob : Obj => (HCL.out.below HHB.out (HB5.out.alloc HB5.out.size ob)).2.2.2.2.1; have hqf := fun ob : Obj => (HCL.out.below HHB.out (HB5.out.alloc HB5.out.size ob)).2.2.2.2.2.1; have hqg := fun ob : Obj => (HCL.out.below HHB.out (HB5.out.alloc HB5.out.size ob)).2.2.2.2.2.2.1; have hqh := fun ob : Obj => (HCL.out.below HHB.out (HB5.out.alloc HB5.out.size ob)).2.2.2.2.2.2.2.1; have hqi := fun ob : Obj => (HCL.out.below HHB.out (HB5.out.alloc HB5.out.size ob)).2.2.2.2.2.2.2.2.1; have hqj := fun ob : Obj => (HCL.out.below HHB.out (HB5.out.alloc HB5.out.size ob)).2.2.2.2.2.2.2.2.2; clear hown hb) | ((with_reducible refine HSB.out.mono ?_); rintro e w5 ⟨y5, S5, rfl, hown, hb⟩; have HO5 := Lib.hid (In.own_mono hown (Nat.le_trans HS1.out (by simp))); have HLT := Lib.hid (show ∀ x ∈ S5, w1.heap.size < x ∧ x < w5.heap.size from fun x hx => by have := In.own_lies hown x hx; simp at this; omega); obtain ⟨a0, c0, a1, c1, a2, c2, rfl⟩ := own_shape hown; have HB5 := Lib.hid (((HB1.out.alloc HB1.out.size (.cells #[.int .i64 0, .int .i64 0, .int .i64 0, .int .i64 0, .int .i64 0, .int .i64 0, .int .i64 0, .slice none 0 0, .slice none 0 0, .slice none 0 0] 34)).drew).trans (hb.mono ((HB1.out.alloc HB1.out.size (.cells #[.int .i64 0, .int .i64 0, .int .i64 0, .int .i64 0, .int .i64 0, .int .i64 0, .int .i64 0, .slice none 0 0, .slice none 0 0, .slice none 0 0] 34)).drew).size)); have HX5 := Lib.hid (Bk.all (Bk.drew (HX1.out.alloc (.cells #[.int .i64 0, .int .i64 0, .int .i64 0, .int .i64 0, .int .i64 0, .int .i64 0, .int .i64 0, .slice none 0 0, .slice none 0 0, .slice none 0 0] 34))) hb); have HR5 := Lib.hid (Bk.all (Bk.drew (HR1.out.alloc (.cells #[.int .i64 0, .int .i64 0, .int .i64 0, .int .i64 0, .int .i64 0, .int .i64 0, .int .i64 0, .slice none 0 0, .slice none 0 0, .slice none 0 0] 34))) hb); have HZ5 := Lib.hid (Bk.all (Bk.drew HZ0.out) hb); have hs5 := hb.size; have v2 := (Bk.c4 HX5.out).2.2.1; obtain ⟨l0, l1, l2, l3, l4, l5, l6, l7, l8, l9⟩ := HCL.out.below HHB.out HB5.out; obtain ⟨r0, r1, r2, r3, r4, r5, r6, r7, r8, r9⟩ := Bk.c10 HZ5.out; have g0 := HZ5.out.free 0; have g1 := HZ5.out.free 1; have g2 := HZ5.out.free 2; have g3 := HZ5.out.free 3; have g4 := HZ5.out.free 4; have g5 := HZ5.out.free 5; have g6 := HZ5.out.free 6; have g7 := HZ5.out.free 7; have g8 := HZ5.out.free 8; have g9 := HZ5.out.free 9; have hgl : w1.heap.size < w5.heap.size := HZ5.out.lt; have hp2 := fun u0 u1 u2 u3 u4 u5 u6 u7 u8 u9 : Value => ((FoB.box10_chg w5 w1.heap.size u0 u1 u2 u3 u4 u5 u6 u7 u8 u9).cell (p := ⟨w.heap.size, 2, none⟩) (HX5.out.lt) (by simp; omega)).trans v2; have hpa := fun u0 u1 u2 u3 u4 u5 u6 u7 u8 u9 : Value => ((FoB.box10_chg w5 w1.heap.size u0 u1 u2 u3 u4 u5 u6 u7 u8 u9).cell (p := ⟨b, o + k * 10, none⟩) (show b < _ by omega) (by simp; omega)).trans l0; have hpb := fun u0 u1 u2 u3 u4 u5 u6 u7 u8 u9 : Value => ((FoB.box10_chg w5 w1.heap.size u0 u1 u2 u3 u4 u5 u6 u7 u8 u9).cell (p := ⟨b, o + k * 10 + 1, none⟩) (show b < _ by omega) (by simp; omega)).trans l1; have hpc := fun u0 u1 u2 u3 u4 u5 u6 u7 u8 u9 : Value => ((FoB.box10_chg w5 w1.heap.size u0 u1 u2 u3 u4 u5 u6 u7 u8 u9).cell (p := ⟨b, o + k * 10 + 2, none⟩) (show b < _ by omega) (by simp; omega)).trans l2; have hpd := fun u0 u1 u2 u3 u4 u5 u6 u7 u8 u9 : Value => ((FoB.box10_chg w5 w1.heap.size u0 u1 u2 u3 u4 u5 u6 u7 u8 u9).cell (p := ⟨b, o + k * 10 + 3, none⟩) (show b < _ by omega) (by simp; omega)).trans l3; have hpe := fun u0 u1 u2 u3 u4 u5 u6 u7 u8 u9 : Value => ((FoB.box10_chg w5 w1.heap.size u0 u1 u2 u3 u4 u5 u6 u7 u8 u9).cell (p := ⟨b, o + k * 10 + 4, none⟩) (show b < _ by omega) (by simp; omega)).trans l4; have hpf := fun u0 u1 u2 u3 u4 u5 u6 u7 u8 u9 : Value => ((FoB.box10_chg w5 w1.heap.size u0 u1 u2 u3 u4 u5 u6 u7 u8 u9).cell (p := ⟨b, o + k * 10 + 5, none⟩) (show b < _ by omega) (by simp; omega)).trans l5; have hpg := fun u0 u1 u2 u3 u4 u5 u6 u7 u8 u9 : Value => ((FoB.box10_chg w5 w1.heap.size u0 u1 u2 u3 u4 u5 u6 u7 u8 u9).cell (p := ⟨b, o + k * 10 + 6, none⟩) (show b < _ by omega) (by simp; omega)).trans l6; have hph := fun u0 u1 u2 u3 u4 u5 u6 u7 u8 u9 : Value => ((FoB.box10_chg w5 w1.heap.size u0 u1 u2 u3 u4 u5 u6 u7 u8 u9).cell (p := ⟨b, o + k * 10 + 7, none⟩) (show b < _ by omega) (by simp; omega)).trans l7; have hpi := fun u0 u1 u2 u3 u4 u5 u6 u7 u8 u9 : Value => ((FoB.box10_chg w5 w1.heap.size u0 u1 u2 u3 u4 u5 u6 u7 u8 u9).cell (p := ⟨b, o + k * 10 + 8, none⟩) (show b < _ by omega) (by simp; omega)).trans l8; have hpj := fun u0 u1 u2 u3 u4 u5 u6 u7 u8 u9 : Value => ((FoB.box10_chg w5 w1.heap.size u0 u1 u2 u3 u4 u5 u6 u7 u8 u9).cell (p := ⟨b, o + k * 10 + 9, none⟩) (show b < _ by omega) (by simp; omega)).trans l9; unfold FoB.box10 at hp2 hpa hpb hpc hpd hpe hpf hpg hph hpi hpj; clear hown hb))))
          rotate_left
          all_goals (first
            | (have hbk := FoB.box10_bk HZ5.out (.int .i64 N.kind) (.int .i64 N.mode) (.int .i64 N.uid) (.int .i64 N.gid) (.int .i64 N.links) (.int .i64 N.size) (.int .i64 N.tick) (.slice a0 N.blocks.length c0) (.slice a1 N.acl.length c1) (.slice a2 N.dflt.length c2)
               have hc9 := FoB.box10_chg w5 w1.heap.size (.int .i64 N.kind) (.int .i64 N.mode) (.int .i64 N.uid) (.int .i64 N.gid) (.int .i64 N.links) (.int .i64 N.size) (.int .i64 N.tick) (.slice a0 N.blocks.length c0) (.slice a1 N.acl.length c1) (.slice a2 N.dflt.length c2)
               unfold FoB.box10 at hbk hc9
               generalize ((((((((((w5.setCell ⟨w1.heap.size, 0, none⟩ (.int .i64 N.kind)).setCell ⟨w1.heap.size, 1, none⟩ (.int .i64 N.mode)).setCell ⟨w1.heap.size, 2, none⟩ (.int .i64 N.uid)).setCell ⟨w1.heap.size, 3, none⟩ (.int .i64 N.gid)).setCell ⟨w1.heap.size, 4, none⟩ (.int .i64 N.links)).setCell ⟨w1.heap.size, 5, none⟩ (.int .i64 N.size)).setCell ⟨w1.heap.size, 6, none⟩ (.int .i64 N.tick)).setCell ⟨w1.heap.size, 7, none⟩ (.slice a0 N.blocks.length c0)).setCell ⟨w1.heap.size, 8, none⟩ (.slice a1 N.acl.length c1)).setCell ⟨w1.heap.size, 9, none⟩ (.slice a2 N.dflt.length c2)) = w9 at hbk hc9 ⊢
               have hone : ∀ T : List Nat, w1.heap.size ∉ T → Apart T [w1.heap.size] := fun T hT x hx hh => by rw [List.mem_singleton] at hh; exact hT (hh ▸ hx)
               have hnS : w1.heap.size ∉ S5 := fun hh => by have := (HLT.out _ hh).1; omega
               have HNX := Lib.hid (show Nx w #[.int .i64 T, .slice qa Q qc, .slice (some ⟨b, o, none⟩) 20 ic, .slice da D dc] N (.pointer (some ⟨w1.heap.size, 0, none⟩)) w9 from ⟨_, _, _, _, _, _, _, S5, rfl, hbk, In.own_chg HO5.out hc9 (hone _ hnS), hnS, hws, FoB.Bk.chg HX5.out hc9 (by simp; omega), FoB.Bk.chg HR5.out hc9 (by simp; omega), HB5.out.trans (FoB.Chg.from hc9 HB5.out.size (by omega))⟩)
               go_wp2
               go_meet
               exact HNX.out)
            | (have HNX := Lib.hid (show Nx w #[.int .i64 T, .slice qa Q qc, .slice (some ⟨b, o, none⟩) 20 ic, .slice da D dc] N (.pointer (some ⟨w5.heap.size, 0, none⟩)) (w5.alloc (.cells #[.int .i64 N.kind, .int .i64 N.mode, .int .i64 N.uid, .int .i64 N.gid, .int .i64 N.links, .int .i64 N.size, .int .i64 N.tick, .slice a0 N.blocks.length c0, .slice a1 N.acl.length c1, .slice a2 N.dflt.length c2] 34)) from ⟨_, _, _, _, _, _, _, S5, rfl, new _ _ _, In.own_below HO5.out ((Below.refl _ _).alloc (Nat.le_refl _) _), fun hh => by have := (HLT.out _ hh).2; omega, by have := hs5; simp at this; omega, HX5.out.alloc _, HR5.out.alloc _, HB5.out.alloc HB5.out.size _⟩)
               go_wp2
               go_meet
               exact HNX.out))
        case rest =>
          obtain ⟨nb, a0, c0, a1, c1, a2, c2, S5, rfl, hbk, hown, hnS, hlo, hx, hr, hbe⟩ := hcut
          clear x0 x1 x2 x3 hmx
          obtain ⟨L1, hL1⟩ : ∃ L1, L1 = lastB an l := ⟨_, rfl⟩
          have hne : needV ((an : Int) + (l : Int)) = (L1 : Int) := by
            rw [hL1]; unfold lastB
            have h1 := FsZw.need_nn ((an : Int) + (l : Int))
            rw [show ((an + l : Nat) : Int) = (an : Int) + (l : Int) by push_cast; rfl]; omega
          have hfl : an / 32 < L1 := by rw [hL1]; exact FsZw.first_lt hl0
          have hLe : L1 ≤ N.blocks.length := by rw [hL1, HNI.out]; exact FsZw.lastB_le n an l
          have hN8 : N.blocks.length ≤ 8 := by
            rw [HNQ.out]
            show (holes _ _).length ≤ 8
            rw [FsZ.holes_len]
            have h1 := FsZw.need_mono hsz1
            have h8 : needV 256 = 8 := rfl
            omega
          have hgu := HG.out.uid
          rw [← HN.out] at hgu
          obtain ⟨uk, huk⟩ : ∃ uk : Nat, n.uid = uk := ⟨n.uid.toNat, by omega⟩
          have huk3 : uk ≤ 3 := by omega
          have hNu : N.uid = uk := by rw [HNQ.out]; exact huk
          have HUK := Lib.hid huk
          have HNE := Lib.hid hne
          have HL1 := Lib.hid hL1
          clear hgu huk hne hL1
          -- the rows
          obtain ⟨r0, r1, r2, T0, T1, T2, ea, hTT, hTn, o0, o1, o2⟩ := id hown
          simp only [Value.agg.injEq, Array.mk.injEq, List.cons.injEq, true_and, and_true] at ea
          obtain ⟨rfl, rfl, rfl⟩ := ea
          obtain ⟨⟨ya, yc, yc', ey, hyc, hyc', hrow⟩, hT0⟩ := o0
          rw [Value.slice.injEq] at ey
          obtain ⟨rfl, _, rfl⟩ := ey
          obtain ⟨g, rfl⟩ : ∃ g, a0 = some ⟨g, 0, none⟩ := by
            rcases hrow.2 with ⟨hv, h0⟩ | ⟨g, cap, cur, hv, _⟩
            · omega
            · rw [Value.slice.injEq] at hv; exact ⟨g, hv.1⟩
          have hgT : T0 = [g] := by rw [hT0]; rfl
          have hgS : g ∈ S5 := by rw [hTT, hgT]; simp
          have hgnb : ¬ g = nb := fun e => hnS (e ▸ hgS)
          have hglt := In.own_lies hown g hgS
          have hnbl : nb < wc.heap.size := hbk.lt
          have HBK := Lib.hid hbk
          have HROW := Lib.hid hrow
          have HO1 := Lib.hid o1
          have HO2 := Lib.hid o2
          have HTT := Lib.hid hTT
          have HTN := Lib.hid hTn
          have HX := Lib.hid hx
          have HR := Lib.hid hr
          have HB := Lib.hid hbe
          have HYC := Lib.hid hyc
          have HYD := Lib.hid hyc'
          have HGT := Lib.hid hgT
          have HTL := Lib.hid (In.own_lies hown)
          clear hbk hown hnS hx hr hbe hTT hTn o1 o2 hrow hT0 hgT hgS hyc hyc'
          have b2 := HBK.out.cell 2
          have b7 := HBK.out.cell 7
          dsimp at b2 b7
          rw [hNu] at b2
          have HNU := Lib.hid hNu
          obtain ⟨M, hM⟩ : ∃ M, M = N.blocks.length := ⟨_, rfl⟩
          rw [← hM] at b7 hLe hN8
          have HM2 := Lib.hid hM
          clear hNu hM
          have hb32 : an / 32 ≤ 8 := by omega
          obtain ⟨o6, ho6⟩ : ∃ o, o = an / 32 := ⟨_, rfl⟩
          have hod : (an : Int) / 32 = (o6 : Int) := by rw [ho6]; omega
          rw [← ho6] at hfl hb32
          have HO6 := Lib.hid ho6
          clear ho6
          go_wp2_with fail
          refine (InEq.need_impl _ _ (by unfold Foot.Rg; omega)).mono ?_
          rintro e w6 ⟨rfl, rfl⟩
          rw [HNE.out]
          obtain ⟨x0, x1, x2, x3⟩ := Bk.c4 HX.out
          have HPL := Lib.hid (FsD.bpool_le wc.drew _ f uk huk3 HCC.out HLM.out (FsV.half_of HG.out.ok) (FsF.holds_below HFS.out HB.out.drew))
          obtain ⟨qv, hqv⟩ : ∃ q, q = (f.quotas.getD uk (0, 0)).2 := ⟨_, rfl⟩
          rw [← hqv] at HPL
          have HQV := Lib.hid hqv
          clear hqv
          obtain ⟨A, hA⟩ : ∃ A, A = 14 * uk := ⟨_, rfl⟩
          rw [← hA] at HPL
          have hA9 : A ≤ 1000 := by omega
          have HA := Lib.hid hA
          clear hA
          unfold FsC.poolV at HPL
          obtain ⟨R1, rc, hR⟩ : ∃ R1 rc, renew A qv isHole (InoV.hasB (FsV.allB f.inodes)) ((N.blocks.drop o6).take (L1 - o6)) = (R1, rc) := ⟨_, _, rfl⟩
          have HREN := Lib.hid (fun (W : World) (bm Nm : Nat) (hNm : Nm ≤ 1073741824) (his : MpB.Is W bm Nm (InoV.hasB (FsV.allB f.inodes))) (hrw : W.ownsRow (w.heap.size + 1 + 1) 3 1 (.slice (some ⟨g, 0, none⟩) M yc') M (NiF.cells N.blocks)) (hgb : g ≠ bm) => show Calls Tryz.prog 59 #[.agg #[.int .i64 A, .int .i64 14, .int .i64 qv, .map (some bm)], .slice (some ⟨g, o6, none⟩) (L1 - o6) (L1 - o6), .func (.func 60) #[] #[]] W fun e w' => ∃ l' : List Int, e = .returned (.int .i64 rc) ∧ (rc = 0 → l' = N.blocks.take o6 ++ R1 ++ N.blocks.drop (o6 + (L1 - o6))) ∧ w'.ownsRow (w.heap.size + 1 + 1) 3 1 (.slice (some ⟨g, 0, none⟩) M yc') M (NiF.cells l') ∧ Chg W w' [g, bm] from by
            have := CoR.renewH_impl W A qv bm Nm _ g o6 (L1 - o6) M yc' (L1 - o6) (w.heap.size + 1 + 1) N.blocks (some ⟨g, o6, none⟩) (by omega) hNm (by omega) (by omega) (fun _ => rfl) his hrw hgb
            rw [hR] at this
            exact this)
          have HRR := Lib.hid (show wrR f n an l = (R1, rc) from by
            unfold wrR
            rw [← HL1.out, ← HNI.out, HUK.out, Int.toNat_natCast, ← HA.out, show quo f uk = qv from HQV.out.symm, ← HO6.out, List.drop_take]
            exact hR)
          have hL1c : L1 ≤ c0 := by have := HYC.out; have := HM2.out; omega
          have hoL : o6 ≤ L1 := by omega
          have hwl : w.heap.size < wc.heap.size := by omega
          clear hR
          go_upto_region 7 with (fail)
          have b2d : wc.drew.cell? ⟨nb, 2, none⟩ = some (.int .i64 uk) := b2
          have b7d : wc.drew.cell? ⟨nb, 7, none⟩ = some (.slice (some ⟨g, 0, none⟩) M c0) := b7
          have x0d : wc.drew.cell? ⟨w.heap.size, 0, none⟩ = some (.int .i64 T) := x0
          have x1d : wc.drew.cell? ⟨w.heap.size, 1, none⟩ = some (.slice qa Q qc) := x1
          have x2d : wc.drew.cell? ⟨w.heap.size, 2, none⟩ = some (.slice (some ⟨b, o, none⟩) 20 ic) := x2
          have x3d : wc.drew.cell? ⟨w.heap.size, 3, none⟩ = some (.slice da D dc) := x3
          go_region_held3 (fun w' => w'.cell? ⟨w.heap.size, 0, none⟩ = some (.int .i64 T) ∧ w'.cell? ⟨w.heap.size, 1, none⟩ = some (.slice qa Q qc) ∧ w'.cell? ⟨w.heap.size, 2, none⟩ = some (.slice (some ⟨b, o, none⟩) 20 ic) ∧ w'.cell? ⟨w.heap.size, 3, none⟩ = some (.slice da D dc) ∧ w'.cell? ⟨nb, 2, none⟩ = some (.int .i64 uk) ∧ w'.cell? ⟨nb, 7, none⟩ = some (.slice (some ⟨g, 0, none⟩) M c0)) (first | with_reducible exact ⟨x0, x1, x2, x3, b2, b7⟩ | with_reducible exact ⟨x0d, x1d, x2d, x3d, b2d, b7d⟩ | with_reducible exact ⟨v0, v1, v2, v3, v4, v5⟩ | with_reducible exact ⟨u0, u1, u2, u3, u4, u5⟩ | go_keep)
            (first
              | (go_at_call 58; (with_reducible refine HPL.out.mono ?_); rintro e w7 ⟨bm, Nm, hNm, rfl, his, hbm, hb⟩; have HB7 := Lib.hid (HB.out.drew.trans (hb.mono HB.out.drew.size)); have HX7 := Lib.hid (Bk.all (Bk.drew HX.out) hb); have HR7 := Lib.hid (Bk.all (Bk.drew HR.out) hb); have HK7 := Lib.hid (Bk.all (Bk.drew HBK.out) hb); have HW7 := Lib.hid (row_below HROW.out ((Below.refl wc.heap.size wc).drew.trans hb)); have HP7 := Lib.hid (AeF.own_below HO1.out ((Below.refl wc.heap.size wc).drew.trans hb)); have HQ7 := Lib.hid (AeF.own_below HO2.out ((Below.refl wc.heap.size wc).drew.trans hb)); have HIS := Lib.hid his; have HNM := Lib.hid hNm; have HBM := Lib.hid (show wc.heap.size ≤ bm from hbm); have HGB := Lib.hid (show g ≠ bm from fun e => by have h9 : wc.heap.size ≤ bm := hbm; omega); have HIL := Lib.hid his.lt; rw [← HM2.out] at HW7; have v0 := HX7.out.cell 0; have v1 := HX7.out.cell 1; have v2 := HX7.out.cell 2; have v3 := HX7.out.cell 3; have v4 := HK7.out.cell 2; have v5 := HK7.out.cell 7; dsimp at v0 v1 v2 v3 v4 v5; rw [HNU.out] at v4; rw [← HM2.out] at v5; clear his hNm hbm hb)
              | (go_at_call 59; (with_reducible refine (HREN.out _ _ _ HNM.out HIS.out HW7.out HGB.out).mono ?_); rintro e w8 ⟨l', rfl, hl', hrow8, hc8⟩; have HL' := Lib.hid hl'; have HW8 := Lib.hid hrow8; have HC8 := Lib.hid hc8; have HB8 := Lib.hid (HB7.out.trans (hc8.below HB7.out.size (fun k hk => by have h9 := HBM.out; simp at hk; omega))); have HX8 := Lib.hid (FoB.Bk.chg HX7.out hc8 (by have h9 := HBM.out; simp; omega)); have HR8 := Lib.hid (FoB.Bk.chg HR7.out hc8 (by have h9 := HBM.out; simp; omega)); have HK8 := Lib.hid (FoB.Bk.chg HK7.out hc8 (by have h9 := HBM.out; simp; omega)); have u0 := HX8.out.cell 0; have u1 := HX8.out.cell 1; have u2 := HX8.out.cell 2; have u3 := HX8.out.cell 3; have u4 := HK8.out.cell 2; have u5 := HK8.out.cell 7; dsimp at u0 u1 u2 u3 u4 u5; rw [HNU.out] at u4; rw [← HM2.out] at u5; clear hl' hrow8 hc8))
          clear b2d b7d x0d x1d x2d x3d x0 x1 x2 x3 b2 b7 v0 v1 v2 v3 v4 v5 u0 u1 u2 u3 u4 u5
          rename_i hHeld
          clear hHeld
          have HS8 := Lib.hid (show w.heap.size + 1 + 1 ≤ w8.heap.size from by have h1 := HX8.out.lt; have h2 := HR8.out.lt; have h3 := HC8.out.size; have h4 := HK8.out.lt; omega)
          by_cases hrc : rc = 0
          rotate_left
          · have HVE := Lib.hid (show writeV f k an s = (f, rc) from by rw [HVV.out, HRR.out]; exact if_neg hrc)
            have z1 : (rc != 0) = true := by simpa using hrc
            have z2 : (rc == 0) = false := by simpa using hrc
            obtain ⟨x0, x1, x2, x3⟩ := Bk.c4 HX8.out
            clear hrc
            go_wp2_with fail
            refine (HCP.out _ HB8.out).mono ?_
            rintro e wk ⟨y, S, rfl, hown, hb⟩
            obtain ⟨z0, z1a, z1n, z1c, z2a, z2n, z2c, z3a, z3n, z3c, rfl⟩ := FsF.own_form hown
            have HB2 := Lib.hid (HB8.out.trans (hb.mono HB8.out.size))
            have HR2 := Lib.hid (HR8.out.all hb)
            have HNS := Lib.hid (show w.heap.size + 1 ∉ S from fun hh => by have h1 := (FsF.own_lies hown _ hh).1; have h2 := HS8.out; omega)
            have HOW := Lib.hid (FsF.own_mono hown HB8.out.size)
            clear hb hown
            obtain ⟨r0, r1, r2, r3⟩ := Bk.c4 HR2.out
            have f0 := HR2.out.free 0
            have f1 := HR2.out.free 1
            have f2 := HR2.out.free 2
            have f3 := HR2.out.free 3
            go_wp2
            have hF := FoB.box4_bk HR2.out (.int .i64 z0) (.slice z1a z1n z1c) (.slice z2a z2n z2c) (.slice z3a z3n z3c)
            have hC9 := FoB.box4_chg wk (w.heap.size + 1) (.int .i64 z0) (.slice z1a z1n z1c) (.slice z2a z2n z2c) (.slice z3a z3n z3c)
            unfold FoB.box4 at hF hC9
            generalize ((((wk.setCell ⟨w.heap.size + 1, 0, none⟩ (.int .i64 z0)).setCell ⟨w.heap.size + 1, 1, none⟩ (.slice z1a z1n z1c)).setCell ⟨w.heap.size + 1, 2, none⟩ (.slice z2a z2n z2c)).setCell ⟨w.heap.size + 1, 3, none⟩ (.slice z3a z3n z3c)) = w9 at hF hC9 ⊢
            obtain ⟨e0, e1, e2, e3⟩ := Bk.c4 hF
            have hres := FsF.own_mono (FsF.own_chg HOW.out hC9 (fun x hx hh => by rw [List.mem_singleton] at hh; subst hh; exact HNS.out hx)) (show w.heap.size ≤ w.heap.size from Nat.le_refl _)
            refine bodyPost_ret (v := .tuple #[.agg #[.int .i64 z0, .slice z1a z1n z1c, .slice z2a z2n z2c, .slice z3a z3n z3c], .int .i64 rc]) (by simp [results, Tryz.results17, go_sem, e0, e1, e2, e3]) rfl ?_
            exact ⟨_, S, by rw [HVE.out], by rw [HVE.out]; exact hres, HB2.out.trans (FoB.Chg.from hC9 HB2.out.size (Nat.le_succ _))⟩
          · subst hrc
            have hlq : l' = wrB f n an l := by
              rw [HL'.out rfl]
              unfold wrB
              rw [HRR.out, ← HL1.out, ← HO6.out, ← HNI.out, show o6 + (L1 - o6) = L1 by omega]
            have hll : l'.length = M := by have := HW8.out.1; simpa [NiF.cells] using this
            have hapT : ∀ T, (∀ x ∈ T, x ∈ S5) → g ∉ T → Apart T [g, bm] := fun T h1 h2 x hx hh => by
              have h3 := (HTL.out x (h1 x hx)).2
              have h4 := HBM.out
              simp only [List.mem_cons, List.mem_nil_iff, or_false] at hh
              rcases hh with rfl | rfl
              · exact h2 hx
              · omega
            obtain ⟨n1, n2, n3⟩ := nodup_parts (HTT.out ▸ HTN.out : (T0 ++ T1 ++ T2).Nodup)
            obtain ⟨n4, n5, n6⟩ := nodup_parts n1
            have hg0 : g ∈ T0 := by rw [HGT.out]; simp
            have HP8 := Lib.hid (AeF.own_chg HP7.out HC8.out (hapT _ (fun x hx => by rw [HTT.out]; simp [hx]) (n6 g hg0)))
            have HQ8 := Lib.hid (AeF.own_chg HQ7.out HC8.out (hapT _ (fun x hx => by rw [HTT.out]; simp [hx]) (n3 g (by simp [hg0]))))
            have HOW := Lib.hid (show In.Own w8 (w.heap.size + 1 + 1) (.agg #[.int .i64 N.kind, .int .i64 N.mode, .int .i64 N.uid, .int .i64 N.gid, .int .i64 N.links, .int .i64 N.size, .int .i64 N.tick, .slice (some ⟨g, 0, none⟩) M c0, .slice a1 N.acl.length c1, .slice a2 N.dflt.length c2]) { N with blocks := l' } S5 from ⟨_, _, _, T0, T1, T2, rfl, HTT.out, HTN.out, ⟨⟨some ⟨g, 0, none⟩, c0, yc', by rw [hll], by rw [hll, HM2.out]; exact HYC.out, HYD.out, by rw [hll]; exact HW8.out⟩, HGT.out⟩, HP8.out, HQ8.out⟩)
            have HK9 := HK8
            rw [← HM2.out] at HK9
            have HVE := Lib.hid (show writeV f k an s = (withV f k { N with blocks := l' } (splice (content f.data n.blocks) an s.data.toList), 0) from by rw [HVV.out, HRR.out, hlq, ← HNI.out]; exact if_pos rfl)
            have hinr : Inr l' := by rw [hlq, HN.out]; exact (FsZw.wr_of hl0 (by rw [← HN.out, HRR.out])).inr HG.out
            have HINR := Lib.hid hinr
            have HLL := Lib.hid hll
            have hcl := content_len HG.out.dsz HG.out.dlen HG.out.inr HG.out.size.2.2.2
            rw [← HN.out] at hcl
            have HCL2 := Lib.hid hcl
            clear hlq hll hapT n1 n2 n3 n4 n5 n6 hg0 hinr hcl
            obtain ⟨x0, x1, x2, x3⟩ := Bk.c4 HX8.out
            go_wp2_with fail
            refine (CoC.content_impl _ _ f k hk20 HG.out.ok (FsF.holds_below HFS.out HB8.out)).mono ?_
            rintro e wd ⟨rfl, hcb, hb⟩
            rw [← HN.out] at hcb
            have HBd := Lib.hid (HB8.out.trans (hb.mono HB8.out.size))
            have HXd := Lib.hid (HX8.out.all hb)
            have HRd := Lib.hid (HR8.out.all hb)
            have HKd := Lib.hid (HK9.out.all hb)
            have HOd := Lib.hid (In.own_below HOW.out hb)
            have HSd := Lib.hid (Nat.le_trans HS8.out hb.size)
            have hnb8 : nb < w8.heap.size := HK8.out.lt
            have HSg := Lib.hid (fun x hx => (In.own_lies HOW.out x hx).2)
            obtain ⟨gc, hgE⟩ : ∃ gc, gc = w8.heap.size + 1 := ⟨_, rfl⟩
            rw [← hgE] at hcb ⊢
            have hgc1 : w.heap.size + 1 < gc := by have := HS8.out; omega
            have hgnb : ¬ nb = gc := by omega
            have hgS : gc ∉ S5 := fun hh => by have := HSg.out _ hh; omega
            have HGS := Lib.hid hgS
            have HCB := Lib.hid hcb
            clear hgE hcb hb x0 x1 x2 x3 hgS
            have hend : an + l ≤ 256 := hal
            go_wp2_with fail
            have hcr := CoN.copy_run wd gc an l l s (content f.data n.blocks) 3 HCB.out (Nat.le_of_eq HL.out.symm) (by rw [HCL2.out, ← HL.out]; exact hal)
            rw [hcr]
            have hsb := CoN.row_set (cs' := (cellsB (splice (content f.data n.blocks) an s.data.toList)).toArray) HCB.out
            have hsc := CoN.row_chg wd gc (cellsB (splice (content f.data n.blocks) an s.data.toList)).toArray
            generalize wd.setRow gc (cellsB (splice (content f.data n.blocks) an s.data.toList)).toArray = we at hsb hsc ⊢
            have HSB := Lib.hid hsb
            have HBe := Lib.hid (HBd.out.trans (FoB.Chg.from hsc HBd.out.size (by omega)))
            have HXe := Lib.hid (FoB.Bk.chg HXd.out hsc (by simp; omega))
            have HRe := Lib.hid (FoB.Bk.chg HRd.out hsc (by simp; omega))
            have HKe := Lib.hid (FoB.Bk.chg HKd.out hsc (by simp; omega))
            have HOe := Lib.hid (In.own_chg HOd.out hsc (fun x hx hh => by rw [List.mem_singleton] at hh; exact HGS.out (hh ▸ hx)))
            have HSe := Lib.hid (Nat.le_trans HSd.out hsc.size)
            have hlS2 : s.data.toList.length = l := by rw [HL.out]; simp
            have HLS3 := Lib.hid hlS2
            clear hcr hsb hsc hlS2
            obtain ⟨x0, x1, x2, x3⟩ := Bk.c4 HXe.out
            obtain ⟨k0, k1, k2, k3, k4, k5, k6, k7, k8, k9⟩ := Bk.c10 HKe.out
            have HWI := Lib.hid (fun (W : World) => CoI.with_impl W w.heap.size (.agg #[.int .i64 T, .slice qa Q qc, .slice (some ⟨b, o, none⟩) 20 ic, .slice da D dc]) (.agg #[.int .i64 N.kind, .int .i64 N.mode, .int .i64 N.uid, .int .i64 N.gid, .int .i64 N.links, .int .i64 N.size, .int .i64 N.tick, .slice (some ⟨g, 0, none⟩) M c0, .slice a1 N.acl.length c1, .slice a2 N.dflt.length c2]) (.slice (some ⟨gc, 0, none⟩) 256 256) f k { N with blocks := l' } (splice (content f.data n.blocks) an s.data.toList) gc S5 HG.out)
            go_wp2_with fail
            refine (HWI.out _ HBe.out.size HCC.out HLM.out HINR.out (by show l'.length ≤ 8; rw [HLL.out]; exact hN8) (fun _ => ⟨by first | rfl | trivial, by rw [splice_len (by rw [HLS3.out, HCL2.out]; exact hal)]; exact HCL2.out, HSB.out⟩) ⟨_, _, _, rfl⟩ (FsF.holds_below HFS.out HBe.out) (In.own_mono HOe.out (by omega))).mono ?_
            rintro e wk ⟨y, S, rfl, hown, hsub, hb⟩
            obtain ⟨z0, z1a, z1n, z1c, z2a, z2n, z2c, z3a, z3n, z3c, rfl⟩ := FsF.own_form hown
            have HB2 := Lib.hid (HBe.out.trans (hb.mono HBe.out.size))
            have HR2 := Lib.hid (HRe.out.all hb)
            have HNS := Lib.hid (show w.heap.size + 1 ∉ S from fun hh => (hsub _ hh).elim (fun h1 => by have h2 := (HTL.out _ h1).1; omega) (fun h1 => by have h2 := HSe.out; omega))
            have HOW := Lib.hid hown
            clear hb hown hsub
            obtain ⟨r0, r1, r2, r3⟩ := Bk.c4 HR2.out
            have f0 := HR2.out.free 0
            have f1 := HR2.out.free 1
            have f2 := HR2.out.free 2
            have f3 := HR2.out.free 3
            go_wp2
            have hF := FoB.box4_bk HR2.out (.int .i64 z0) (.slice z1a z1n z1c) (.slice z2a z2n z2c) (.slice z3a z3n z3c)
            have hC9 := FoB.box4_chg wk (w.heap.size + 1) (.int .i64 z0) (.slice z1a z1n z1c) (.slice z2a z2n z2c) (.slice z3a z3n z3c)
            unfold FoB.box4 at hF hC9
            generalize ((((wk.setCell ⟨w.heap.size + 1, 0, none⟩ (.int .i64 z0)).setCell ⟨w.heap.size + 1, 1, none⟩ (.slice z1a z1n z1c)).setCell ⟨w.heap.size + 1, 2, none⟩ (.slice z2a z2n z2c)).setCell ⟨w.heap.size + 1, 3, none⟩ (.slice z3a z3n z3c)) = w9 at hF hC9 ⊢
            obtain ⟨e0, e1, e2, e3⟩ := Bk.c4 hF
            have hres := FsF.own_mono (FsF.own_chg HOW.out hC9 (fun x hx hh => by rw [List.mem_singleton] at hh; subst hh; exact HNS.out hx)) (show w.heap.size ≤ w.heap.size from Nat.le_refl _)
            refine bodyPost_ret (v := .tuple #[.agg #[.int .i64 z0, .slice z1a z1n z1c, .slice z2a z2n z2c, .slice z3a z3n z3c], .int .i64 0]) (by simp [results, Tryz.results17, go_sem, e0, e1, e2, e3]) rfl ?_
            exact ⟨_, S, by rw [HVE.out], by rw [HVE.out]; exact hres, HB2.out.trans (FoB.Chg.from hC9 HB2.out.size (Nat.le_succ _))⟩
end Go.Proofs.YtbbnginolidedaaGreatDoor.CoWb
