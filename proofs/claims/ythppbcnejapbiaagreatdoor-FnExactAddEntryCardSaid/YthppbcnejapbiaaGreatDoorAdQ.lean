/- Helper texts joined, one behind another (a claim has at most 60 files): what each proves, its own head says: YthppbcnejapbiaaGreatDoorEnA, YthppbcnejapbiaaGreatDoorEnB. -/
import Derived.Test.YthppbcnejapbiaaGreatDoorAdL
import Derived.Test.YthppbcnejapbiaaGreatDoorAdM
import Derived.Test.YthppbcnejapbiaaGreatDoorAdN
import Derived.Test.YthppbcnejapbiaaGreatDoorAdP
import Derived.Test.YthppbcnejapbiaaGreatDoorAdO

-- YthppbcnejapbiaaGreatDoorEnA
/- A part. -/
namespace Go.Proofs.YthppbcnejapbiaaGreatDoor.EnA
set_option maxHeartbeats 12800000
set_option maxRecDepth 100000
open Go.ChangeShapes Go.WideShapes Go.ChangeAt Go.RowKit
open Foot Bx
open InoV (I)
open FsV (F okF)
open FsY FsZ
open EnV EnD EnF
open EnN (nameB)
open OpF (form_fs)
set_option linter.unusedVariables false
def addC (f : F) (d : Int) (s : ByteArray) (i : Int) : Int := if dirC f d = 0 then (if nameB s = true then (if 0 <= i /\ i < 20 then (if (findV f d s).isSome = true then 4 else 0) else 1) else 11) else dirC f d
def addV (f : F) (d : Int) (s : ByteArray) (i : Int) : F × Int := if addC f d s i = 0 then writeV f d (ino f d.toNat).size (recB s i) else (f, addC f d s i)
theorem addC_ok {f : F} {d : Int} {s : ByteArray} {i : Int} (h : addC f d s i = 0) : hasObjB f d = true /\ (ino f d.toNat).kind = 2 /\ nameB s = true /\ 0 <= i /\ i < 20 /\ (findV f d s).isSome = false := by
 unfold addC at h
 split at h
 ·rename_i h1
  split at h
  ·rename_i h2
   split at h
   ·rename_i h3
    split at h
    ·cases h
    ·rename_i h4
     exact ⟨(dirC_ok h1).1, (dirC_ok h1).2, h2, h3.1, h3.2, by simpa using h4⟩
   ·cases h
  ·cases h
 ·rename_i h1; exact absurd h h1
theorem code_impl (w : World) (v : Value) (f : F) (d : Int) (s : ByteArray) (i : Int) (hc : FsF.cost f <= 1073741824) (hl : FsF.Lim f) (hv : InOk.Vars w) (hs : s.size <= 1048576) (h : FsF.Holds w v f) :
  Calls Tryz.prog 63 #[v, .int .i64 d, .string s, .int .i64 i] w fun e w' => e = .returned (.int .i64 (addC f d s i)) /\ Below w.heap.size w w' := by
 have HFS := Lib.hid h
 obtain ⟨T, qa, Q, qc, ia, M, ic, da, D, dc, rfl⟩ := form_fs h
 obtain ⟨w0, hw0⟩ : ∃ w0, w.alloc (.cells #[.int .i64 T, .slice qa Q qc, .slice ia M ic, .slice da D dc] 33) = w0 := ⟨_, rfl⟩
 have hB : Below w.heap.size w w0 := by rw [<- hw0]; exact (Below.refl _ w).alloc (Nat.le_refl _) _
 have bF : Bk w0 w.heap.size #[.int .i64 T, .slice qa Q qc, .slice ia M ic, .slice da D dc] 33 := by rw [<- hw0]; exact new w _ _
 have HB := Lib.hid hB
 have HBF := Lib.hid bF
 obtain ⟨x0, x1, x2, x3⟩ := Bk.c4 bF
 obtain ⟨C, hC⟩ : ∃ C, C = dirC f d := ⟨_, rfl⟩
 have HDI := Lib.hid (show Calls Tryz.prog 49 #[.agg #[.int .i64 T, .slice qa Q qc, .slice ia M ic, .slice da D dc], .int .i64 d] w0 fun e w' => e = .returned (.int .i64 C) /\ Below w0.heap.size w0 w' from by rw [hC]; exact dir_impl w0 _ f d hc hl (hv.all hB) (FsF.holds_below HFS.out hB))
 have HNA := Lib.hid (fun (W : World) => EnN.name_impl s hs W)
 have HNU := Lib.hid (fun (W : World) => EnO.num_impl i W)
 have HFI := Lib.hid (fun (W : World) (hb : Below w.heap.size w W) => EnF.find_impl W _ f d s hc hl (hv.all hb) (FsF.holds_below HFS.out hb))
 obtain ⟨V, hV⟩ : ∃ V, V = addC f d s i := ⟨_, rfl⟩
 rw [<- hV]
 unfold addC at hV
 rw [<- hC] at hV
 obtain ⟨NB, hNB⟩ : ∃ B, B = nameB s := ⟨_, rfl⟩
 rw [<- hNB] at hV HNA
 obtain ⟨R, hR⟩ : ∃ R, R = findV f d s := ⟨_, rfl⟩
 rw [<- hR] at hV HFI
 clear h hC hNB hR hB bF hc hl hv
 by_cases hz : C = 0
 ·rw [if_pos hz] at hV
  subst hz
  cases NB with
  | false =>
   have HF := Lib.hid hV
   clear hV
   go_enter Tryz.func63, Tryz.ntmps63
   go_wp2_with fail
   refine (HDI.out).mono ?_
   rintro e w2 ⟨rfl, hb2⟩
   have HB2 := Lib.hid (HB.out.trans (hb2.mono HB.out.size))
   clear hb2 x0 x1 x2 x3
   go_wp2_with fail
   refine (HNA.out _).mono ?_
   rintro e w3 ⟨rfl, hb3⟩
   go_wp2
   go_ret
   exact ⟨ret_i HF.out.symm, HB2.out.trans (hb3.mono HB2.out.size)⟩
  | true =>
   rw [if_pos rfl] at hV
   by_cases hi : 0 <= i /\ i < 20
   ·rw [if_pos hi] at hV
    rw [decide_eq_true hi.1, decide_eq_true hi.2, show (true && true) = true from rfl] at HNU
    have HF := Lib.hid hV
    clear hV hi
    go_enter Tryz.func63, Tryz.ntmps63
    go_wp2_with fail
    refine (HDI.out).mono ?_
    rintro e w2 ⟨rfl, hb2⟩
    have HB2 := Lib.hid (HB.out.trans (hb2.mono HB.out.size))
    have HBF2 := Lib.hid (HBF.out.all hb2)
    clear hb2 x0 x1 x2 x3
    go_wp2_with fail
    refine (HNA.out _).mono ?_
    rintro e w3 ⟨rfl, hb3⟩
    have HB3 := Lib.hid (HB2.out.trans (hb3.mono HB2.out.size))
    have HBF3 := Lib.hid (HBF2.out.all hb3)
    clear hb3
    go_wp2_with fail
    refine (HNU.out _).mono ?_
    rintro e w4 ⟨rfl, rfl⟩
    obtain ⟨x0, x1, x2, x3⟩ := Bk.c4 HBF3.out
    go_wp2_with fail
    refine (HFI.out _ HB3.out).mono ?_
    rintro e w5 ⟨rfl, hb5⟩
    have HB5 := Lib.hid (HB3.out.trans (hb5.mono HB3.out.size))
    clear hb5 x0 x1 x2 x3
    cases R with
    | none =>
     rw [show (none : Option Int).getD 0 = 0 from rfl, show (none : Option Int).isSome = false from rfl]
     go_wp2
     go_ret
     exact ⟨ret_i HF.out.symm, HB5.out⟩
    | some z =>
     rw [show (some z : Option Int).getD 0 = z from rfl, show (some z : Option Int).isSome = true from rfl]
     go_wp2
     go_ret
     exact ⟨ret_i HF.out.symm, HB5.out⟩
   ·rw [if_neg hi] at hV
    have hn : (decide (0 <= i) && decide (i < 20)) = false := by rw [Bool.and_eq_false_iff, decide_eq_false_iff_not, decide_eq_false_iff_not]; omega
    rw [hn] at HNU
    have HF := Lib.hid hV
    clear hV hi hn
    go_enter Tryz.func63, Tryz.ntmps63
    go_wp2_with fail
    refine (HDI.out).mono ?_
    rintro e w2 ⟨rfl, hb2⟩
    have HB2 := Lib.hid (HB.out.trans (hb2.mono HB.out.size))
    clear hb2 x0 x1 x2 x3
    go_wp2_with fail
    refine (HNA.out _).mono ?_
    rintro e w3 ⟨rfl, hb3⟩
    have HB3 := Lib.hid (HB2.out.trans (hb3.mono HB2.out.size))
    clear hb3
    go_wp2_with fail
    refine (HNU.out _).mono ?_
    rintro e w4 ⟨rfl, rfl⟩
    go_wp2
    go_ret
    exact ⟨ret_i HF.out.symm, HB3.out⟩
 ·rw [if_neg hz] at hV
  have HF := Lib.hid hV
  have z1 : (C != 0) = true := by simpa using hz
  have z2 : (C == 0) = false := by simpa using hz
  clear hz hV
  go_enter Tryz.func63, Tryz.ntmps63
  go_wp2_with fail
  refine (HDI.out).mono ?_
  rintro e w2 ⟨rfl, hb2⟩
  go_wp2
  go_ret
  exact ⟨ret_i HF.out.symm, HB.out.trans (hb2.mono HB.out.size)⟩
theorem add_impl (w : World) (v : Value) (f : F) (d : Int) (s : ByteArray) (i : Int) (hc : FsF.cost f <= 1073741824) (hl : FsF.Lim f) (hv : InOk.Vars w) (hs : s.size <= 1048576) (h : FsF.Holds w v f) :
  Calls Tryz.prog 24 #[v, .int .i64 d, .string s, .int .i64 i] w fun e w' => ∃ v' S, e = .returned (.tuple #[v', .int .i64 (addV f d s i).2]) /\ FsF.Own w' w.heap.size v' (addV f d s i).1 S /\ Below w.heap.size w w' := by
 have HFS := Lib.hid h
 have HCC := Lib.hid hc
 have HLM := Lib.hid hl
 have HV := Lib.hid hv
 obtain ⟨T, qa, Q, qc, ia, M, ic, da, D, dc, rfl⟩ := form_fs h
 clear h hc hl hv
 obtain ⟨w0, hw0⟩ : ∃ w0, (w.alloc (.cells #[.int .i64 T, .slice qa Q qc, .slice ia M ic, .slice da D dc] 33)).alloc (.cells #[.int .i64 0, .slice none 0 0, .slice none 0 0, .slice none 0 0] 33) = w0 := ⟨_, rfl⟩
 have hB : Below w.heap.size w w0 := by rw [<- hw0]; exact ((Below.refl _ w).alloc (Nat.le_refl _) _).alloc (by simp) _
 have HB0 := Lib.hid hB
 have HX0 := Lib.hid (show Bk w0 w.heap.size #[.int .i64 T, .slice qa Q qc, .slice ia M ic, .slice da D dc] 33 from by rw [<- hw0]; exact (new w _ _).alloc _)
 have HR0 := Lib.hid (show Bk w0 (w.heap.size + 1) #[.int .i64 0, .slice none 0 0, .slice none 0 0, .slice none 0 0] 33 from by
  have := new (w.alloc (.cells #[.int .i64 T, .slice qa Q qc, .slice ia M ic, .slice da D dc] 33)) #[.int .i64 0, .slice none 0 0, .slice none 0 0, .slice none 0 0] 33
  rw [World.size_alloc, hw0] at this; exact this)
 have HS0 := Lib.hid (show w.heap.size + 1 + 1 <= w0.heap.size by rw [<- hw0]; simp)
 have HCP := Lib.hid (fun (W : World) (hb : Below w.heap.size w W) => CpG.copy_impl W _ f HCC.out HLM.out (FsF.holds_below HFS.out hb))
 obtain ⟨C, hC⟩ : ∃ C, C = addC f d s i := ⟨_, rfl⟩
 have HAC := Lib.hid (show Calls Tryz.prog 63 #[.agg #[.int .i64 T, .slice qa Q qc, .slice ia M ic, .slice da D dc], .int .i64 d, .string s, .int .i64 i] w0 fun e w' => e = .returned (.int .i64 C) /\ Below w0.heap.size w0 w' from by rw [hC]; exact code_impl w0 _ f d s i HCC.out HLM.out (HV.out.all hB) hs (FsF.holds_below HFS.out hB))
 obtain ⟨x0, x1, x2, x3⟩ := Bk.c4 HX0.out
 by_cases hz : C = 0
 ·have hok := addC_ok (hz ▸ hC.symm)
  have HVV0 := Lib.hid (show addV f d s i = writeV f d (ino f d.toNat).size (recB s i) from if_pos (hz ▸ hC.symm))
  obtain ⟨k, rfl, hg⟩ := CoFr.good_of hok.1
  rw [Int.toNat_natCast] at HVV0
  have hrs : (recB s i).size <= 1073741824 := by rw [rec_size (name_facts hok.2.2.1).2.1 hok.2.2.2.1 (by omega)]; decide
  have HRE := Lib.hid (fun (W : World) => EnO.rec_impl s i W (name_facts hok.2.2.1).2.1 hok.2.2.2.1 (by omega))
  have HWR := Lib.hid (fun (W : World) (hb : Below w.heap.size w W) => CoWb.write_impl W _ f (k : Int) (ino f k).size (recB s i) HCC.out HLM.out (HV.out.all hb) hrs (FsF.holds_below HFS.out hb))
  obtain ⟨⟨vf, vc⟩, hVV⟩ : ∃ p, p = writeV f k (ino f k).size (recB s i) := ⟨_, rfl⟩
  rw [<- hVV] at HWR HVV0
  have hk20 := hg.lt
  obtain ⟨t', qa', Q', qc', b, o, ic', da', D', dc', e0, hb, hic, hat⟩ := OpF.open_fs hg.ok HFS.out
  simp only [Value.agg.injEq, Array.mk.injEq, List.cons.injEq, and_true, Value.slice.injEq] at e0
  obtain ⟨-, -, ⟨rfl, rfl, rfl⟩, -⟩ := e0
  obtain ⟨r0', r1', r2', hCl, _⟩ := hat k hk20
  have hk5 := hCl.2.2.2.2.2.1
  have HKC := Lib.hid hk5
  have HHB := Lib.hid hb
  generalize (ino f k).size = SZ at HWR HKC
  generalize recB s i = rc at HWR HRE
  have hk0 : (0 : Int) <= k := by omega
  have hk1 : (k : Int) < 20 := by omega
  clear hok hC hVV hat hCl hk5 hic hg hB
  subst hz
  go_enter Tryz.func24, Tryz.ntmps24
  go_wp2_with fail
  refine (HAC.out).mono ?_
  rintro e w1 ⟨rfl, hb⟩
  have HB1 := Lib.hid (HB0.out.trans (hb.mono HB0.out.size))
  have HX1 := Lib.hid (HX0.out.all hb)
  have HR1 := Lib.hid (HR0.out.all hb)
  have HS1 := Lib.hid (Nat.le_trans HS0.out hb.size)
  have hb1 := Nat.lt_of_lt_of_le HHB.out HB1.out.size
  have hk5 := HKC.out
  rw [<- HB1.out.cell (p := ⟨b, _, none⟩) HHB.out] at hk5
  have HK5 := Lib.hid hk5
  have hn1 : ¬ (w.heap.size + 1 = b) := by have := HHB.out; omega
  have hn2 : ¬ (b = w.heap.size + 1) := by omega
  clear hb x0 x1 x2 x3 hk5
  obtain ⟨x0, x1, x2, x3⟩ := Bk.c4 HX1.out
  have hk5 := HK5.out
  have x0d : w1.drew.cell? ⟨w.heap.size, 0, none⟩ = some (.int .i64 T) := x0
  have x1d : w1.drew.cell? ⟨w.heap.size, 1, none⟩ = some (.slice qa Q qc) := x1
  have x2d : w1.drew.cell? ⟨w.heap.size, 2, none⟩ = some (.slice (some ⟨b, o, none⟩) 20 ic) := x2
  have x3d : w1.drew.cell? ⟨w.heap.size, 3, none⟩ = some (.slice da D dc) := x3
  have hk5d : w1.drew.cell? ⟨b, o + k * 10 + 5, none⟩ = some (.int .i64 SZ) := hk5
  have HB1d := Lib.hid HB1.out.drew
  go_upto_region 4 with (fail)
  go_region_held3 (fun w' => w'.cell? ⟨w.heap.size, 0, none⟩ = some (.int .i64 T) /\ w'.cell? ⟨w.heap.size, 1, none⟩ = some (.slice qa Q qc) /\ w'.cell? ⟨w.heap.size, 2, none⟩ = some (.slice (some ⟨b, o, none⟩) 20 ic) /\ w'.cell? ⟨w.heap.size, 3, none⟩ = some (.slice da D dc) /\ w'.cell? ⟨b, o + k * 10 + 5, none⟩ = some (.int .i64 SZ)) (first | with_reducible exact ⟨x0, x1, x2, x3, hk5⟩ | with_reducible exact ⟨x0d, x1d, x2d, x3d, hk5d⟩ | with_reducible exact ⟨v0, v1, v2, v3, v4⟩ | with_reducible exact ⟨u0, u1, u2, u3, u4⟩ | with_reducible exact ⟨t0, t1, t2, t3, t4⟩ | go_keep)
   (first
    | (go_at_call 66; (with_reducible refine (HRE.out _).mono ?_); rintro e w2 ⟨rfl, hb⟩; have HB2 := Lib.hid (HB1d.out.trans (hb.mono HB1d.out.size)); have HX2 := Lib.hid (Bk.all (Bk.drew HX1.out) hb); have HR2 := Lib.hid (Bk.all (Bk.drew HR1.out) hb); have HS2 := Lib.hid (Nat.le_trans HS1.out hb.size); have v4 := (hb.cell (p := ⟨b, o + k * 10 + 5, none⟩) hb1).trans hk5; obtain ⟨v0, v1, v2, v3⟩ := Bk.c4 HX2.out; clear hb)
    | (go_at_call 65; (with_reducible refine (HWR.out _ HB2.out).mono ?_); rintro e wk ⟨y, S, rfl, hown, hb⟩; obtain ⟨z0, z1a, z1n, z1c, z2a, z2n, z2c, z3a, z3n, z3c, rfl⟩ := FsF.own_form hown; have HB9 := Lib.hid (HB2.out.trans (hb.mono HB2.out.size)); have HX9 := Lib.hid (HX2.out.all hb); have HR9 := Lib.hid (HR2.out.all hb); have HNS := Lib.hid (show w.heap.size + 1 ∉ S from fun hh => by (have h1 := (FsF.own_lies hown _ hh).1; have h2 := HS2.out; omega)); have HOW := Lib.hid (FsF.own_mono hown HB2.out.size); have hbk : b < w2.heap.size := (Nat.lt_of_lt_of_le HHB.out HB2.out.size); have u4 := (hb.cell (p := ⟨b, o + k * 10 + 5, none⟩) hbk).trans v4; obtain ⟨u0, u1, u2, u3⟩ := Bk.c4 HX9.out; obtain ⟨r0, r1, r2, r3⟩ := Bk.c4 HR9.out; have f0 := HR9.out.free 0; have f1 := HR9.out.free 1; have f2 := HR9.out.free 2; have f3 := HR9.out.free 3; have hcX := FoB.Bk.chg HX9.out (FoB.box4_chg wk (w.heap.size + 1) (.int .i64 z0) (.slice z1a z1n z1c) (.slice z2a z2n z2c) (.slice z3a z3n z3c)) (by (simp)); unfold FoB.box4 at hcX; obtain ⟨t0, t1, t2, t3⟩ := Bk.c4 hcX; have t4 : ((((wk.setCell ⟨w.heap.size + 1, 0, none⟩ (.int .i64 z0)).setCell ⟨w.heap.size + 1, 1, none⟩ (.slice z1a z1n z1c)).setCell ⟨w.heap.size + 1, 2, none⟩ (.slice z2a z2n z2c)).setCell ⟨w.heap.size + 1, 3, none⟩ (.slice z3a z3n z3c)).cell? ⟨b, o + k * 10 + 5, none⟩ = some (.int .i64 SZ) := (by rw [World.cell?_setCell_far _ _ _ _ hn1, World.cell?_setCell_far _ _ _ _ hn1, World.cell?_setCell_far _ _ _ _ hn1, World.cell?_setCell_far _ _ _ _ hn1]; exact u4); clear hb hown hcX))
  all_goals
   go_wp2
   have hF := FoB.box4_bk HR9.out (.int .i64 z0) (.slice z1a z1n z1c) (.slice z2a z2n z2c) (.slice z3a z3n z3c)
   have hC9 := FoB.box4_chg wk (w.heap.size + 1) (.int .i64 z0) (.slice z1a z1n z1c) (.slice z2a z2n z2c) (.slice z3a z3n z3c)
   unfold FoB.box4 at hF hC9
   generalize ((((wk.setCell ⟨w.heap.size + 1, 0, none⟩ (.int .i64 z0)).setCell ⟨w.heap.size + 1, 1, none⟩ (.slice z1a z1n z1c)).setCell ⟨w.heap.size + 1, 2, none⟩ (.slice z2a z2n z2c)).setCell ⟨w.heap.size + 1, 3, none⟩ (.slice z3a z3n z3c)) = w9 at hF hC9 ⊢
   obtain ⟨e0, e1, e2, e3⟩ := Bk.c4 hF
   have hres := FsF.own_mono (FsF.own_chg HOW.out hC9 (fun x hx hh => by rw [List.mem_singleton] at hh; subst hh; exact HNS.out hx)) (show w.heap.size <= w.heap.size from Nat.le_refl _)
   refine bodyPost_ret (v := .tuple #[.agg #[.int .i64 z0, .slice z1a z1n z1c, .slice z2a z2n z2c, .slice z3a z3n z3c], .int .i64 vc]) (by simp [results, Tryz.results24, go_sem, e0, e1, e2, e3]) rfl ?_
   exact ⟨_, S, by rw [HVV0.out], by rw [HVV0.out]; exact hres, HB9.out.trans (FoB.Chg.from hC9 HB9.out.size (Nat.le_succ _))⟩
 ·have HVV := Lib.hid (show addV f d s i = (f, C) from by unfold addV; rw [<- hC, if_neg hz])
  have q1 : (C != 0) = true := by simpa using hz
  have q2 : (C == 0) = false := by simpa using hz
  clear hz hC hB
  go_enter Tryz.func24, Tryz.ntmps24
  go_wp2_with fail
  refine (HAC.out).mono ?_
  rintro e w1 ⟨rfl, hb⟩
  have HB1 := Lib.hid (HB0.out.trans (hb.mono HB0.out.size))
  have HX1 := Lib.hid (HX0.out.all hb)
  have HR1 := Lib.hid (HR0.out.all hb)
  have HS1 := Lib.hid (Nat.le_trans HS0.out hb.size)
  clear hb x0 x1 x2 x3
  obtain ⟨x0, x1, x2, x3⟩ := Bk.c4 HX1.out
  go_wp2_with fail
  refine (HCP.out _ HB1.out).mono ?_
  rintro e wk ⟨y, S, rfl, hown, hb⟩
  obtain ⟨z0, z1a, z1n, z1c, z2a, z2n, z2c, z3a, z3n, z3c, rfl⟩ := FsF.own_form hown
  have HB9 := Lib.hid (HB1.out.trans (hb.mono HB1.out.size))
  have HR9 := Lib.hid (HR1.out.all hb)
  have HNS := Lib.hid (show w.heap.size + 1 ∉ S from fun hh => by have h1 := (FsF.own_lies hown _ hh).1; have h2 := HS1.out; omega)
  have HOW := Lib.hid (FsF.own_mono hown HB1.out.size)
  clear hb hown x0 x1 x2 x3
  obtain ⟨r0, r1, r2, r3⟩ := Bk.c4 HR9.out
  have f0 := HR9.out.free 0
  have f1 := HR9.out.free 1
  have f2 := HR9.out.free 2
  have f3 := HR9.out.free 3
  go_wp2
  have hF := FoB.box4_bk HR9.out (.int .i64 z0) (.slice z1a z1n z1c) (.slice z2a z2n z2c) (.slice z3a z3n z3c)
  have hC9 := FoB.box4_chg wk (w.heap.size + 1) (.int .i64 z0) (.slice z1a z1n z1c) (.slice z2a z2n z2c) (.slice z3a z3n z3c)
  unfold FoB.box4 at hF hC9
  generalize ((((wk.setCell ⟨w.heap.size + 1, 0, none⟩ (.int .i64 z0)).setCell ⟨w.heap.size + 1, 1, none⟩ (.slice z1a z1n z1c)).setCell ⟨w.heap.size + 1, 2, none⟩ (.slice z2a z2n z2c)).setCell ⟨w.heap.size + 1, 3, none⟩ (.slice z3a z3n z3c)) = w9 at hF hC9 ⊢
  obtain ⟨e0, e1, e2, e3⟩ := Bk.c4 hF
  have hres := FsF.own_mono (FsF.own_chg HOW.out hC9 (fun x hx hh => by rw [List.mem_singleton] at hh; subst hh; exact HNS.out hx)) (show w.heap.size <= w.heap.size from Nat.le_refl _)
  refine bodyPost_ret (v := .tuple #[.agg #[.int .i64 z0, .slice z1a z1n z1c, .slice z2a z2n z2c, .slice z3a z3n z3c], .int .i64 C]) (by simp [results, Tryz.results24, go_sem, e0, e1, e2, e3]) rfl ?_
  exact ⟨_, S, by rw [HVV.out], by rw [HVV.out]; exact hres, HB9.out.trans (FoB.Chg.from hC9 HB9.out.size (Nat.le_succ _))⟩
end Go.Proofs.YthppbcnejapbiaaGreatDoor.EnA

-- YthppbcnejapbiaaGreatDoorEnB
/- A part. -/
namespace Go.Proofs.YthppbcnejapbiaaGreatDoor.EnB
set_option maxHeartbeats 12800000
set_option maxRecDepth 100000
open Go.ChangeShapes Go.WideShapes Go.ChangeAt Go.RowKit
open Foot Bx
open InoV (I)
open FsV (F okF)
open FsY FsZ
open EnV EnD EnF EnA
open EnN (nameB)
open OpF (form_fs)
set_option linter.unusedVariables false
theorem addC_dir {f : F} {k : Nat} {s : ByteArray} {i : Int} (hd : dirC f k = 0) : addC f k s i = if nameB s = true then (if 0 <= i /\ i < 20 then (if ((findL (entsV f k) s).map (·.2)).isSome = true then 4 else 0) else 1) else 11 := by
 have hfv : findV f (k : Int) s = (findL (entsV f k) s).map (·.2) := by unfold findV; rw [if_pos hd, Int.toNat_natCast]
 unfold addC
 rw [if_pos hd, hfv]
theorem l10add (w : World) (v : Value) (f : F) (k : Nat) (s : ByteArray) (i : Int) (hc : FsF.cost f <= 1073741824) (hl : FsF.Lim f) (hs : s.size <= 1048576) (hd : dirC f k = 0) (h : FsF.Holds w v f) :
  Calls Tryz.prog 62 #[v, .int .i64 k, .string s, .int .i64 i] w fun e w' => ∃ v' S, e = .returned (.tuple #[v', .int .i64 (addV f k s i).2]) /\ FsF.Own w' w.heap.size v' (addV f k s i).1 S /\ Below w.heap.size w w' := by
 have HFS := Lib.hid h
 have HCC := Lib.hid hc
 have HLM := Lib.hid hl
 obtain ⟨T, qa, Q, qc, ia, M, ic, da, D, dc, rfl⟩ := form_fs h
 clear h hc hl
 obtain ⟨w0, hw0⟩ : ∃ w0, (w.alloc (.cells #[.int .i64 T, .slice qa Q qc, .slice ia M ic, .slice da D dc] 33)).alloc (.cells #[.int .i64 0, .slice none 0 0, .slice none 0 0, .slice none 0 0] 33) = w0 := ⟨_, rfl⟩
 have hB : Below w.heap.size w w0 := by rw [<- hw0]; exact ((Below.refl _ w).alloc (Nat.le_refl _) _).alloc (by simp) _
 have HB0 := Lib.hid hB
 have HX0 := Lib.hid (show Bk w0 w.heap.size #[.int .i64 T, .slice qa Q qc, .slice ia M ic, .slice da D dc] 33 from by rw [<- hw0]; exact (new w _ _).alloc _)
 have HR0 := Lib.hid (show Bk w0 (w.heap.size + 1) #[.int .i64 0, .slice none 0 0, .slice none 0 0, .slice none 0 0] 33 from by
  have := new (w.alloc (.cells #[.int .i64 T, .slice qa Q qc, .slice ia M ic, .slice da D dc] 33)) #[.int .i64 0, .slice none 0 0, .slice none 0 0, .slice none 0 0] 33
  rw [World.size_alloc, hw0] at this; exact this)
 have HS0 := Lib.hid (show w.heap.size + 1 + 1 <= w0.heap.size by rw [<- hw0]; simp)
 have HCP := Lib.hid (fun (W : World) (hb : Below w.heap.size w W) => CoS.copy_spec W _ f HCC.out (FsF.holds_below HFS.out hb))
 obtain ⟨k', hkk, hg⟩ := CoFr.good_of (dirC_ok hd).1
 obtain rfl : k = k' := by omega
 have hob := (dirC_ok hd).1
 have HFI := Lib.hid (EnT.l10find w0 _ f k s hg (FsF.holds_below HFS.out hB))
 have HNA := Lib.hid (fun (W : World) => EnN.name_spec s hs W)
 have HIN := Lib.hid (fun (W : World) => EnN.in_spec i 0 19 W)
 have HAC := Lib.hid (addC_dir (s := s) (i := i) hd)
 unfold EnT.ansV at HFI
 obtain ⟨R, hR⟩ : ∃ R, R = (findL (entsV f k) s).map (·.2) := ⟨_, rfl⟩
 rw [<- hR] at HFI HAC
 obtain ⟨NB, hNB⟩ : ∃ B, B = nameB s := ⟨_, rfl⟩
 rw [<- hNB] at HNA HAC
 obtain ⟨x0, x1, x2, x3⟩ := Bk.c4 HX0.out
 clear hR hkk
 cases NB with
 | false =>
  have HVV := Lib.hid (show addV f k s i = (f, 11) from by
   have h1 : addC f k s i = 11 := by rw [HAC.out]; rfl
   unfold addV; rw [h1, if_neg (by decide)])
  clear hNB hg hob hd hB
  go_enter Tryz.func62, Tryz.ntmps62
  go_wp2_with fail
  refine (HFI.out).mono ?_
  rintro e w1 ⟨rfl, hb⟩
  have HB1 := Lib.hid (HB0.out.trans (hb.mono HB0.out.size))
  have HX1 := Lib.hid (HX0.out.all hb)
  have HR1 := Lib.hid (HR0.out.all hb)
  have HS1 := Lib.hid (Nat.le_trans HS0.out hb.size)
  clear hb x0 x1 x2 x3
  go_wp2_with fail
  refine (HNA.out _).mono ?_
  rintro e wq ⟨rfl, rfl⟩
  obtain ⟨x0, x1, x2, x3⟩ := Bk.c4 HX1.out
  go_wp2_with fail
  refine (HCP.out _ HB1.out).mono ?_
  rintro e wk ⟨y, S, rfl, hown, hb⟩
  obtain ⟨z0, z1a, z1n, z1c, z2a, z2n, z2c, z3a, z3n, z3c, rfl⟩ := FsF.own_form hown
  have HB9 := Lib.hid (HB1.out.trans (hb.mono HB1.out.size))
  have HR9 := Lib.hid (HR1.out.all hb)
  have HNS := Lib.hid (show w.heap.size + 1 ∉ S from fun hh => by have h1 := (FsF.own_lies hown _ hh).1; have h2 := HS1.out; omega)
  have HOW := Lib.hid (FsF.own_mono hown HB1.out.size)
  clear hb hown x0 x1 x2 x3
  obtain ⟨r0, r1, r2, r3⟩ := Bk.c4 HR9.out
  have f0 := HR9.out.free 0
  have f1 := HR9.out.free 1
  have f2 := HR9.out.free 2
  have f3 := HR9.out.free 3
  go_wp2
  have hF := FoB.box4_bk HR9.out (.int .i64 z0) (.slice z1a z1n z1c) (.slice z2a z2n z2c) (.slice z3a z3n z3c)
  have hC9 := FoB.box4_chg wk (w.heap.size + 1) (.int .i64 z0) (.slice z1a z1n z1c) (.slice z2a z2n z2c) (.slice z3a z3n z3c)
  unfold FoB.box4 at hF hC9
  generalize ((((wk.setCell ⟨w.heap.size + 1, 0, none⟩ (.int .i64 z0)).setCell ⟨w.heap.size + 1, 1, none⟩ (.slice z1a z1n z1c)).setCell ⟨w.heap.size + 1, 2, none⟩ (.slice z2a z2n z2c)).setCell ⟨w.heap.size + 1, 3, none⟩ (.slice z3a z3n z3c)) = w9 at hF hC9 ⊢
  obtain ⟨e0, e1, e2, e3⟩ := Bk.c4 hF
  have hres := FsF.own_mono (FsF.own_chg HOW.out hC9 (fun x hx hh => by rw [List.mem_singleton] at hh; subst hh; exact HNS.out hx)) (show w.heap.size <= w.heap.size from Nat.le_refl _)
  refine bodyPost_ret (v := .tuple #[.agg #[.int .i64 z0, .slice z1a z1n z1c, .slice z2a z2n z2c, .slice z3a z3n z3c], .int .i64 11]) (by simp [results, Tryz.results62, go_sem, e0, e1, e2, e3]) rfl ?_
  exact ⟨_, S, by rw [HVV.out], by rw [HVV.out]; exact hres, HB9.out.trans (FoB.Chg.from hC9 HB9.out.size (Nat.le_succ _))⟩
 | true =>
  by_cases hi : 0 <= i /\ i < 20
  ·have hin : (decide ((0 : Int) <= i) && decide (i <= 19)) = true := by rw [decide_eq_true hi.1, decide_eq_true (show i <= 19 by omega)]; rfl
   rw [hin] at HIN
   cases R with
   | some z =>
    have HVV := Lib.hid (show addV f k s i = (f, 4) from by
     have h1 : addC f k s i = 4 := by rw [HAC.out, if_pos rfl, if_pos hi]; rfl
     unfold addV; rw [h1, if_neg (by decide)])
    rw [show (some z : Option Int).getD 0 = z from rfl, show (some z : Option Int).isSome = true from rfl] at HFI
    clear hNB hg hob hd hB hin hi
    go_enter Tryz.func62, Tryz.ntmps62
    go_wp2_with fail
    refine (HFI.out).mono ?_
    rintro e w1 ⟨rfl, hb⟩
    have HB1 := Lib.hid (HB0.out.trans (hb.mono HB0.out.size))
    have HX1 := Lib.hid (HX0.out.all hb)
    have HR1 := Lib.hid (HR0.out.all hb)
    have HS1 := Lib.hid (Nat.le_trans HS0.out hb.size)
    clear hb x0 x1 x2 x3
    go_wp2_with fail
    refine (HNA.out _).mono ?_
    rintro e wq ⟨rfl, rfl⟩
    go_wp2_with fail
    refine (HIN.out _).mono ?_
    rintro e wq ⟨rfl, rfl⟩
    obtain ⟨x0, x1, x2, x3⟩ := Bk.c4 HX1.out
    go_wp2_with fail
    refine (HCP.out _ HB1.out).mono ?_
    rintro e wk ⟨y, S, rfl, hown, hb⟩
    obtain ⟨z0, z1a, z1n, z1c, z2a, z2n, z2c, z3a, z3n, z3c, rfl⟩ := FsF.own_form hown
    have HB9 := Lib.hid (HB1.out.trans (hb.mono HB1.out.size))
    have HR9 := Lib.hid (HR1.out.all hb)
    have HNS := Lib.hid (show w.heap.size + 1 ∉ S from fun hh => by have h1 := (FsF.own_lies hown _ hh).1; have h2 := HS1.out; omega)
    have HOW := Lib.hid (FsF.own_mono hown HB1.out.size)
    clear hb hown x0 x1 x2 x3
    obtain ⟨r0, r1, r2, r3⟩ := Bk.c4 HR9.out
    have f0 := HR9.out.free 0
    have f1 := HR9.out.free 1
    have f2 := HR9.out.free 2
    have f3 := HR9.out.free 3
    go_wp2
    have hF := FoB.box4_bk HR9.out (.int .i64 z0) (.slice z1a z1n z1c) (.slice z2a z2n z2c) (.slice z3a z3n z3c)
    have hC9 := FoB.box4_chg wk (w.heap.size + 1) (.int .i64 z0) (.slice z1a z1n z1c) (.slice z2a z2n z2c) (.slice z3a z3n z3c)
    unfold FoB.box4 at hF hC9
    generalize ((((wk.setCell ⟨w.heap.size + 1, 0, none⟩ (.int .i64 z0)).setCell ⟨w.heap.size + 1, 1, none⟩ (.slice z1a z1n z1c)).setCell ⟨w.heap.size + 1, 2, none⟩ (.slice z2a z2n z2c)).setCell ⟨w.heap.size + 1, 3, none⟩ (.slice z3a z3n z3c)) = w9 at hF hC9 ⊢
    obtain ⟨e0, e1, e2, e3⟩ := Bk.c4 hF
    have hres := FsF.own_mono (FsF.own_chg HOW.out hC9 (fun x hx hh => by rw [List.mem_singleton] at hh; subst hh; exact HNS.out hx)) (show w.heap.size <= w.heap.size from Nat.le_refl _)
    refine bodyPost_ret (v := .tuple #[.agg #[.int .i64 z0, .slice z1a z1n z1c, .slice z2a z2n z2c, .slice z3a z3n z3c], .int .i64 4]) (by simp [results, Tryz.results62, go_sem, e0, e1, e2, e3]) rfl ?_
    exact ⟨_, S, by rw [HVV.out], by rw [HVV.out]; exact hres, HB9.out.trans (FoB.Chg.from hC9 HB9.out.size (Nat.le_succ _))⟩
   | none =>
    have HVV0 := Lib.hid (show addV f k s i = writeV f k (ino f k).size (recB s i) from by
     have h1 : addC f k s i = 0 := by rw [HAC.out, if_pos rfl, if_pos hi]; rfl
     unfold addV; rw [h1, if_pos rfl, Int.toNat_natCast])
    rw [show (none : Option Int).getD 0 = 0 from rfl, show (none : Option Int).isSome = false from rfl] at HFI
    have hnf := (name_facts hNB.symm).2.1
    have hrs : (recB s i).size <= 1073741824 := by rw [rec_size hnf hi.1 (by omega)]; decide
    have HRE := Lib.hid (fun (W : World) => EnO.rec_spec s i W hnf hi.1 (by omega))
    have HWR := Lib.hid (fun (W : World) (hb : Below w.heap.size w W) => SpWr.lwrite_spec W _ f k (ino f k).size (recB s i) HCC.out hob hrs (FsF.holds_below HFS.out hb))
    obtain ⟨⟨vf, vc⟩, hVV⟩ : ∃ p, p = writeV f k (ino f k).size (recB s i) := ⟨_, rfl⟩
    rw [<- hVV] at HWR HVV0
    have hk20 := hg.lt
    obtain ⟨t', qa', Q', qc', b, o, ic', da', D', dc', e0, hb, hic, hat⟩ := OpF.open_fs hg.ok HFS.out
    simp only [Value.agg.injEq, Array.mk.injEq, List.cons.injEq, and_true, Value.slice.injEq] at e0
    obtain ⟨-, -, ⟨rfl, rfl, rfl⟩, -⟩ := e0
    obtain ⟨r0', r1', r2', hCl, _⟩ := hat k hk20
    have hk5 := hCl.2.2.2.2.2.1
    have HKC := Lib.hid hk5
    have HHB := Lib.hid hb
    generalize (ino f k).size = SZ at HWR HKC
    generalize recB s i = rc at HWR HRE
    have hk0 : (0 : Int) <= k := by omega
    have hk1 : (k : Int) < 20 := by omega
    clear hNB hVV hat hCl hk5 hic hg hob hd hB hin hi hnf
    go_enter Tryz.func62, Tryz.ntmps62
    go_wp2_with fail
    refine (HFI.out).mono ?_
    rintro e w1 ⟨rfl, hb⟩
    have HB1 := Lib.hid (HB0.out.trans (hb.mono HB0.out.size))
    have HX1 := Lib.hid (HX0.out.all hb)
    have HR1 := Lib.hid (HR0.out.all hb)
    have HS1 := Lib.hid (Nat.le_trans HS0.out hb.size)
    clear hb x0 x1 x2 x3
    go_wp2_with fail
    refine (HNA.out _).mono ?_
    rintro e wq ⟨rfl, rfl⟩
    go_wp2_with fail
    refine (HIN.out _).mono ?_
    rintro e wq ⟨rfl, rfl⟩
    have hb1 := Nat.lt_of_lt_of_le HHB.out HB1.out.size
    have hk5 := HKC.out
    rw [<- HB1.out.cell (p := ⟨b, _, none⟩) HHB.out] at hk5
    have hn1 : ¬ (w.heap.size + 1 = b) := by have := HHB.out; omega
    have hn2 : ¬ (b = w.heap.size + 1) := by omega
    obtain ⟨x0, x1, x2, x3⟩ := Bk.c4 HX1.out
    have x0d : w1.drew.cell? ⟨w.heap.size, 0, none⟩ = some (.int .i64 T) := x0
    have x1d : w1.drew.cell? ⟨w.heap.size, 1, none⟩ = some (.slice qa Q qc) := x1
    have x2d : w1.drew.cell? ⟨w.heap.size, 2, none⟩ = some (.slice (some ⟨b, o, none⟩) 20 ic) := x2
    have x3d : w1.drew.cell? ⟨w.heap.size, 3, none⟩ = some (.slice da D dc) := x3
    have hk5d : w1.drew.cell? ⟨b, o + k * 10 + 5, none⟩ = some (.int .i64 SZ) := hk5
    have HB1d := Lib.hid HB1.out.drew
    go_upto_region 8 with (fail)
    go_region_held3 (fun w' => w'.cell? ⟨w.heap.size, 0, none⟩ = some (.int .i64 T) /\ w'.cell? ⟨w.heap.size, 1, none⟩ = some (.slice qa Q qc) /\ w'.cell? ⟨w.heap.size, 2, none⟩ = some (.slice (some ⟨b, o, none⟩) 20 ic) /\ w'.cell? ⟨w.heap.size, 3, none⟩ = some (.slice da D dc) /\ w'.cell? ⟨b, o + k * 10 + 5, none⟩ = some (.int .i64 SZ)) (first | with_reducible exact ⟨x0, x1, x2, x3, hk5⟩ | with_reducible exact ⟨x0d, x1d, x2d, x3d, hk5d⟩ | with_reducible exact ⟨v0, v1, v2, v3, v4⟩ | with_reducible exact ⟨u0, u1, u2, u3, u4⟩ | with_reducible exact ⟨t0, t1, t2, t3, t4⟩ | go_keep)
     (first
      | (go_at_call 105; (with_reducible refine (HRE.out _).mono ?_); rintro e w2 ⟨rfl, hb⟩; have HB2 := Lib.hid (HB1d.out.trans (hb.mono HB1d.out.size)); have HX2 := Lib.hid (Bk.all (Bk.drew HX1.out) hb); have HR2 := Lib.hid (Bk.all (Bk.drew HR1.out) hb); have HS2 := Lib.hid (Nat.le_trans HS1.out hb.size); have v4 := (hb.cell (p := ⟨b, o + k * 10 + 5, none⟩) hb1).trans hk5; obtain ⟨v0, v1, v2, v3⟩ := Bk.c4 HX2.out; clear hb)
      | (go_at_call 110; (with_reducible refine (HWR.out _ HB2.out).mono ?_); rintro e wk ⟨y, S, rfl, hown, hb⟩; obtain ⟨z0, z1a, z1n, z1c, z2a, z2n, z2c, z3a, z3n, z3c, rfl⟩ := FsF.own_form hown; have HB9 := Lib.hid (HB2.out.trans (hb.mono HB2.out.size)); have HX9 := Lib.hid (HX2.out.all hb); have HR9 := Lib.hid (HR2.out.all hb); have HNS := Lib.hid (show w.heap.size + 1 ∉ S from fun hh => by (have h1 := (FsF.own_lies hown _ hh).1; have h2 := HS2.out; omega)); have HOW := Lib.hid (FsF.own_mono hown HB2.out.size); have hbk : b < w2.heap.size := (Nat.lt_of_lt_of_le HHB.out HB2.out.size); have u4 := (hb.cell (p := ⟨b, o + k * 10 + 5, none⟩) hbk).trans v4; obtain ⟨u0, u1, u2, u3⟩ := Bk.c4 HX9.out; obtain ⟨r0, r1, r2, r3⟩ := Bk.c4 HR9.out; have f0 := HR9.out.free 0; have f1 := HR9.out.free 1; have f2 := HR9.out.free 2; have f3 := HR9.out.free 3; have hcX := FoB.Bk.chg HX9.out (FoB.box4_chg wk (w.heap.size + 1) (.int .i64 z0) (.slice z1a z1n z1c) (.slice z2a z2n z2c) (.slice z3a z3n z3c)) (by (simp)); unfold FoB.box4 at hcX; obtain ⟨t0, t1, t2, t3⟩ := Bk.c4 hcX; have t4 : ((((wk.setCell ⟨w.heap.size + 1, 0, none⟩ (.int .i64 z0)).setCell ⟨w.heap.size + 1, 1, none⟩ (.slice z1a z1n z1c)).setCell ⟨w.heap.size + 1, 2, none⟩ (.slice z2a z2n z2c)).setCell ⟨w.heap.size + 1, 3, none⟩ (.slice z3a z3n z3c)).cell? ⟨b, o + k * 10 + 5, none⟩ = some (.int .i64 SZ) := (by rw [World.cell?_setCell_far _ _ _ _ hn1, World.cell?_setCell_far _ _ _ _ hn1, World.cell?_setCell_far _ _ _ _ hn1, World.cell?_setCell_far _ _ _ _ hn1]; exact u4); clear hb hown hcX))
    all_goals
     go_wp2
     have hF := FoB.box4_bk HR9.out (.int .i64 z0) (.slice z1a z1n z1c) (.slice z2a z2n z2c) (.slice z3a z3n z3c)
     have hC9 := FoB.box4_chg wk (w.heap.size + 1) (.int .i64 z0) (.slice z1a z1n z1c) (.slice z2a z2n z2c) (.slice z3a z3n z3c)
     unfold FoB.box4 at hF hC9
     generalize ((((wk.setCell ⟨w.heap.size + 1, 0, none⟩ (.int .i64 z0)).setCell ⟨w.heap.size + 1, 1, none⟩ (.slice z1a z1n z1c)).setCell ⟨w.heap.size + 1, 2, none⟩ (.slice z2a z2n z2c)).setCell ⟨w.heap.size + 1, 3, none⟩ (.slice z3a z3n z3c)) = w9 at hF hC9 ⊢
     obtain ⟨e0, e1, e2, e3⟩ := Bk.c4 hF
     have hres := FsF.own_mono (FsF.own_chg HOW.out hC9 (fun x hx hh => by rw [List.mem_singleton] at hh; subst hh; exact HNS.out hx)) (show w.heap.size <= w.heap.size from Nat.le_refl _)
     refine bodyPost_ret (v := .tuple #[.agg #[.int .i64 z0, .slice z1a z1n z1c, .slice z2a z2n z2c, .slice z3a z3n z3c], .int .i64 vc]) (by simp [results, Tryz.results62, go_sem, e0, e1, e2, e3]) rfl ?_
     exact ⟨_, S, by rw [HVV0.out], by rw [HVV0.out]; exact hres, HB9.out.trans (FoB.Chg.from hC9 HB9.out.size (Nat.le_succ _))⟩
  ·have hin : (decide ((0 : Int) <= i) && decide (i <= 19)) = false := by rw [Bool.and_eq_false_iff, decide_eq_false_iff_not, decide_eq_false_iff_not]; omega
   rw [hin] at HIN
   have HVV := Lib.hid (show addV f k s i = (f, 1) from by
    have h1 : addC f k s i = 1 := by rw [HAC.out, if_pos rfl, if_neg hi]
    unfold addV; rw [h1, if_neg (by decide)])
   clear hNB hg hob hd hB hin hi
   go_enter Tryz.func62, Tryz.ntmps62
   go_wp2_with fail
   refine (HFI.out).mono ?_
   rintro e w1 ⟨rfl, hb⟩
   have HB1 := Lib.hid (HB0.out.trans (hb.mono HB0.out.size))
   have HX1 := Lib.hid (HX0.out.all hb)
   have HR1 := Lib.hid (HR0.out.all hb)
   have HS1 := Lib.hid (Nat.le_trans HS0.out hb.size)
   clear hb x0 x1 x2 x3
   go_wp2_with fail
   refine (HNA.out _).mono ?_
   rintro e wq ⟨rfl, rfl⟩
   go_wp2_with fail
   refine (HIN.out _).mono ?_
   rintro e wq ⟨rfl, rfl⟩
   obtain ⟨x0, x1, x2, x3⟩ := Bk.c4 HX1.out
   go_wp2_with fail
   refine (HCP.out _ HB1.out).mono ?_
   rintro e wk ⟨y, S, rfl, hown, hb⟩
   obtain ⟨z0, z1a, z1n, z1c, z2a, z2n, z2c, z3a, z3n, z3c, rfl⟩ := FsF.own_form hown
   have HB9 := Lib.hid (HB1.out.trans (hb.mono HB1.out.size))
   have HR9 := Lib.hid (HR1.out.all hb)
   have HNS := Lib.hid (show w.heap.size + 1 ∉ S from fun hh => by have h1 := (FsF.own_lies hown _ hh).1; have h2 := HS1.out; omega)
   have HOW := Lib.hid (FsF.own_mono hown HB1.out.size)
   clear hb hown x0 x1 x2 x3
   obtain ⟨r0, r1, r2, r3⟩ := Bk.c4 HR9.out
   have f0 := HR9.out.free 0
   have f1 := HR9.out.free 1
   have f2 := HR9.out.free 2
   have f3 := HR9.out.free 3
   go_wp2
   have hF := FoB.box4_bk HR9.out (.int .i64 z0) (.slice z1a z1n z1c) (.slice z2a z2n z2c) (.slice z3a z3n z3c)
   have hC9 := FoB.box4_chg wk (w.heap.size + 1) (.int .i64 z0) (.slice z1a z1n z1c) (.slice z2a z2n z2c) (.slice z3a z3n z3c)
   unfold FoB.box4 at hF hC9
   generalize ((((wk.setCell ⟨w.heap.size + 1, 0, none⟩ (.int .i64 z0)).setCell ⟨w.heap.size + 1, 1, none⟩ (.slice z1a z1n z1c)).setCell ⟨w.heap.size + 1, 2, none⟩ (.slice z2a z2n z2c)).setCell ⟨w.heap.size + 1, 3, none⟩ (.slice z3a z3n z3c)) = w9 at hF hC9 ⊢
   obtain ⟨e0, e1, e2, e3⟩ := Bk.c4 hF
   have hres := FsF.own_mono (FsF.own_chg HOW.out hC9 (fun x hx hh => by rw [List.mem_singleton] at hh; subst hh; exact HNS.out hx)) (show w.heap.size <= w.heap.size from Nat.le_refl _)
   refine bodyPost_ret (v := .tuple #[.agg #[.int .i64 z0, .slice z1a z1n z1c, .slice z2a z2n z2c, .slice z3a z3n z3c], .int .i64 1]) (by simp [results, Tryz.results62, go_sem, e0, e1, e2, e3]) rfl ?_
   exact ⟨_, S, by rw [HVV.out], by rw [HVV.out]; exact hres, HB9.out.trans (FoB.Chg.from hC9 HB9.out.size (Nat.le_succ _))⟩
theorem add_spec (w : World) (v : Value) (f : F) (d : Int) (s : ByteArray) (i : Int) (hc : FsF.cost f <= 1073741824) (hl : FsF.Lim f) (hs : s.size <= 1048576) (h : FsF.Holds w v f) :
  Calls Tryz.prog 23 #[v, .int .i64 d, .string s, .int .i64 i] w fun e w' => ∃ v' S, e = .returned (.tuple #[v', .int .i64 (addV f d s i).2]) /\ FsF.Own w' w.heap.size v' (addV f d s i).1 S /\ Below w.heap.size w w' := by
 have HFS := Lib.hid h
 have HCC := Lib.hid hc
 have HLM := Lib.hid hl
 obtain ⟨T, qa, Q, qc, ia, M, ic, da, D, dc, rfl⟩ := form_fs h
 clear h hc hl
 obtain ⟨w0, hw0⟩ : ∃ w0, (w.alloc (.cells #[.int .i64 T, .slice qa Q qc, .slice ia M ic, .slice da D dc] 33)).alloc (.cells #[.int .i64 0, .slice none 0 0, .slice none 0 0, .slice none 0 0] 33) = w0 := ⟨_, rfl⟩
 have hB : Below w.heap.size w w0 := by rw [<- hw0]; exact ((Below.refl _ w).alloc (Nat.le_refl _) _).alloc (by simp) _
 have HB0 := Lib.hid hB
 have HX0 := Lib.hid (show Bk w0 w.heap.size #[.int .i64 T, .slice qa Q qc, .slice ia M ic, .slice da D dc] 33 from by rw [<- hw0]; exact (new w _ _).alloc _)
 have HR0 := Lib.hid (show Bk w0 (w.heap.size + 1) #[.int .i64 0, .slice none 0 0, .slice none 0 0, .slice none 0 0] 33 from by
  have := new (w.alloc (.cells #[.int .i64 T, .slice qa Q qc, .slice ia M ic, .slice da D dc] 33)) #[.int .i64 0, .slice none 0 0, .slice none 0 0, .slice none 0 0] 33
  rw [World.size_alloc, hw0] at this; exact this)
 have HS0 := Lib.hid (show w.heap.size + 1 + 1 <= w0.heap.size by rw [<- hw0]; simp)
 have HCP := Lib.hid (fun (W : World) (hb : Below w.heap.size w W) => CoS.copy_spec W _ f HCC.out (FsF.holds_below HFS.out hb))
 obtain ⟨C, hC⟩ : ∃ C, C = dirC f d := ⟨_, rfl⟩
 have HDI := Lib.hid (show Calls Tryz.prog 44 #[.agg #[.int .i64 T, .slice qa Q qc, .slice ia M ic, .slice da D dc], .int .i64 d] w0 fun e w' => e = .returned (.int .i64 C) /\ Below w0.heap.size w0 w' from by rw [hC]; exact dir_spec w0 _ f d HCC.out HLM.out (FsF.holds_below HFS.out hB))
 obtain ⟨x0, x1, x2, x3⟩ := Bk.c4 HX0.out
 by_cases hz : C = 0
 ·subst hz
  obtain ⟨k, rfl, hg⟩ := CoFr.good_of (dirC_ok hC.symm).1
  have HAD := Lib.hid (fun (W : World) (hb : Below w.heap.size w W) => l10add W _ f k s i HCC.out HLM.out hs hC.symm (FsF.holds_below HFS.out hb))
  obtain ⟨⟨vf, vc⟩, hVV⟩ : ∃ p, p = addV f k s i := ⟨_, rfl⟩
  rw [<- hVV] at HAD
  have HVV := Lib.hid hVV.symm
  clear hC hg hVV hB
  go_enter Tryz.func23, Tryz.ntmps23
  go_wp2_with fail
  refine (HDI.out).mono ?_
  rintro e w1 ⟨rfl, hb⟩
  have HB1 := Lib.hid (HB0.out.trans (hb.mono HB0.out.size))
  have HX1 := Lib.hid (HX0.out.all hb)
  have HR1 := Lib.hid (HR0.out.all hb)
  have HS1 := Lib.hid (Nat.le_trans HS0.out hb.size)
  clear hb x0 x1 x2 x3
  obtain ⟨x0, x1, x2, x3⟩ := Bk.c4 HX1.out
  go_wp2_with fail
  refine (HAD.out _ HB1.out).mono ?_
  rintro e wk ⟨y, S, rfl, hown, hb⟩
  obtain ⟨z0, z1a, z1n, z1c, z2a, z2n, z2c, z3a, z3n, z3c, rfl⟩ := FsF.own_form hown
  have HB9 := Lib.hid (HB1.out.trans (hb.mono HB1.out.size))
  have HR9 := Lib.hid (HR1.out.all hb)
  have HNS := Lib.hid (show w.heap.size + 1 ∉ S from fun hh => by have h1 := (FsF.own_lies hown _ hh).1; have h2 := HS1.out; omega)
  have HOW := Lib.hid (FsF.own_mono hown HB1.out.size)
  clear hb hown x0 x1 x2 x3
  obtain ⟨r0, r1, r2, r3⟩ := Bk.c4 HR9.out
  have f0 := HR9.out.free 0
  have f1 := HR9.out.free 1
  have f2 := HR9.out.free 2
  have f3 := HR9.out.free 3
  go_wp2
  have hF := FoB.box4_bk HR9.out (.int .i64 z0) (.slice z1a z1n z1c) (.slice z2a z2n z2c) (.slice z3a z3n z3c)
  have hC9 := FoB.box4_chg wk (w.heap.size + 1) (.int .i64 z0) (.slice z1a z1n z1c) (.slice z2a z2n z2c) (.slice z3a z3n z3c)
  unfold FoB.box4 at hF hC9
  generalize ((((wk.setCell ⟨w.heap.size + 1, 0, none⟩ (.int .i64 z0)).setCell ⟨w.heap.size + 1, 1, none⟩ (.slice z1a z1n z1c)).setCell ⟨w.heap.size + 1, 2, none⟩ (.slice z2a z2n z2c)).setCell ⟨w.heap.size + 1, 3, none⟩ (.slice z3a z3n z3c)) = w9 at hF hC9 ⊢
  obtain ⟨e0, e1, e2, e3⟩ := Bk.c4 hF
  have hres := FsF.own_mono (FsF.own_chg HOW.out hC9 (fun x hx hh => by rw [List.mem_singleton] at hh; subst hh; exact HNS.out hx)) (show w.heap.size <= w.heap.size from Nat.le_refl _)
  refine bodyPost_ret (v := .tuple #[.agg #[.int .i64 z0, .slice z1a z1n z1c, .slice z2a z2n z2c, .slice z3a z3n z3c], .int .i64 vc]) (by simp [results, Tryz.results23, go_sem, e0, e1, e2, e3]) rfl ?_
  exact ⟨_, S, by rw [HVV.out], by rw [HVV.out]; exact hres, HB9.out.trans (FoB.Chg.from hC9 HB9.out.size (Nat.le_succ _))⟩
 ·have HVV := Lib.hid (show addV f d s i = (f, C) from by
   have h1 : addC f d s i = C := by unfold addC; rw [<- hC, if_neg hz]
   unfold addV; rw [h1, if_neg hz])
  have q1 : (C != 0) = true := by simpa using hz
  have q2 : (C == 0) = false := by simpa using hz
  clear hz hC hB
  go_enter Tryz.func23, Tryz.ntmps23
  go_wp2_with fail
  refine (HDI.out).mono ?_
  rintro e w1 ⟨rfl, hb⟩
  have HB1 := Lib.hid (HB0.out.trans (hb.mono HB0.out.size))
  have HX1 := Lib.hid (HX0.out.all hb)
  have HR1 := Lib.hid (HR0.out.all hb)
  have HS1 := Lib.hid (Nat.le_trans HS0.out hb.size)
  clear hb x0 x1 x2 x3
  obtain ⟨x0, x1, x2, x3⟩ := Bk.c4 HX1.out
  go_wp2_with fail
  refine (HCP.out _ HB1.out).mono ?_
  rintro e wk ⟨y, S, rfl, hown, hb⟩
  obtain ⟨z0, z1a, z1n, z1c, z2a, z2n, z2c, z3a, z3n, z3c, rfl⟩ := FsF.own_form hown
  have HB9 := Lib.hid (HB1.out.trans (hb.mono HB1.out.size))
  have HR9 := Lib.hid (HR1.out.all hb)
  have HNS := Lib.hid (show w.heap.size + 1 ∉ S from fun hh => by have h1 := (FsF.own_lies hown _ hh).1; have h2 := HS1.out; omega)
  have HOW := Lib.hid (FsF.own_mono hown HB1.out.size)
  clear hb hown x0 x1 x2 x3
  obtain ⟨r0, r1, r2, r3⟩ := Bk.c4 HR9.out
  have f0 := HR9.out.free 0
  have f1 := HR9.out.free 1
  have f2 := HR9.out.free 2
  have f3 := HR9.out.free 3
  go_wp2
  have hF := FoB.box4_bk HR9.out (.int .i64 z0) (.slice z1a z1n z1c) (.slice z2a z2n z2c) (.slice z3a z3n z3c)
  have hC9 := FoB.box4_chg wk (w.heap.size + 1) (.int .i64 z0) (.slice z1a z1n z1c) (.slice z2a z2n z2c) (.slice z3a z3n z3c)
  unfold FoB.box4 at hF hC9
  generalize ((((wk.setCell ⟨w.heap.size + 1, 0, none⟩ (.int .i64 z0)).setCell ⟨w.heap.size + 1, 1, none⟩ (.slice z1a z1n z1c)).setCell ⟨w.heap.size + 1, 2, none⟩ (.slice z2a z2n z2c)).setCell ⟨w.heap.size + 1, 3, none⟩ (.slice z3a z3n z3c)) = w9 at hF hC9 ⊢
  obtain ⟨e0, e1, e2, e3⟩ := Bk.c4 hF
  have hres := FsF.own_mono (FsF.own_chg HOW.out hC9 (fun x hx hh => by rw [List.mem_singleton] at hh; subst hh; exact HNS.out hx)) (show w.heap.size <= w.heap.size from Nat.le_refl _)
  refine bodyPost_ret (v := .tuple #[.agg #[.int .i64 z0, .slice z1a z1n z1c, .slice z2a z2n z2c, .slice z3a z3n z3c], .int .i64 C]) (by simp [results, Tryz.results23, go_sem, e0, e1, e2, e3]) rfl ?_
  exact ⟨_, S, by rw [HVV.out], by rw [HVV.out]; exact hres, HB9.out.trans (FoB.Chg.from hC9 HB9.out.size (Nat.le_succ _))⟩
theorem add_both {f : F} {d i : Int} {s : ByteArray} (h : FsF.cost f <= 1048576) : FsF.cost (addV f d s i).1 <= 1073741824 /\ 1 + FsF.wid (addV f d s i).1 <= 1073741824 := by
 unfold addV
 split
 ·exact FsOk.write_both h
 ·exact FsOk.same_both h
end Go.Proofs.YthppbcnejapbiaaGreatDoor.EnB
