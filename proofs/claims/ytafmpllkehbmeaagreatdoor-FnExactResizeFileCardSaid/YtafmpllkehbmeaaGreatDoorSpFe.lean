/- Contract: the model's function that frees an inode, from that of the one that resizes. Conditions: the cost. -/
import Derived.Test.YtafmpllkehbmeaaGreatDoorSpFr
namespace Go.Proofs.YtafmpllkehbmeaaGreatDoor.SpFe
open Go.ChangeShapes Go.WideShapes Go.ChangeAt Go.RowKit
open Foot Bx
open InoV (I usedV needV)
open FsV (F okF e0 z32 usersB)
open FsY FsZ FoB CoN CoFr SpFr
set_option linter.unusedVariables false

/-- What the function that resizes is to give. -/
def ResC (f : F) : Prop := ∀ (W : World) (u : Value) (k : Nat) (z : Int), GoodF f k → 0 ≤ z → z ≤ 256 → FsF.Holds W u f → Calls Tryz.prog 105 #[u, .int .i64 k, .int .i64 z] W fun e w' => ∃ v' S, e = .returned v' ∧ FsF.Own w' W.heap.size v' (withV f k (sized (ino f k) z) ((content f.data (ino f k).blocks).take z.toNat ++ Z (256 - z.toNat))) S ∧ Below W.heap.size W w'
theorem sized_zero (n : I) : (sized n 0).blocks = [] := by show holes _ _ = []; rw [← List.length_eq_zero_iff, holes_len]; rfl
theorem free_val {f f1 : F} {k : Nat} {c : List UInt8} (h : f1 = withV f k (sized (ino f k) 0) c) : { f1 with inodes := f1.inodes.set k InoV.zero } = withV f k InoV.zero [] := by
  subst h
  unfold withV
  rw [sized_zero]
  simp only [List.set_set]
  rfl

set_option maxRecDepth 100000 in
set_option maxHeartbeats 12800000 in
theorem lfree_spec (w : World) (v : Value) (f : F) (k : Nat) (hc : FsF.cost f ≤ 1073741824) (hrs : ResC f) (g : GoodF f k) (h : FsF.Holds w v f) :
    Calls Tryz.prog 106 #[v, .int .i64 k] w fun e w' => ∃ v' S, e = .returned v' ∧ FsF.Own w' w.heap.size v' (withV f k InoV.zero []) S ∧ Below w.heap.size w w' := by
  have HFS := Lib.hid h
  have HRS := Lib.hid hrs
  have HG := Lib.hid g
  have hk20 : k < 20 := g.lt
  obtain ⟨r0, r1, r2, rfl, g0, g1, g2⟩ := h
  have hil0 : f.inodes.length = 20 := (FsV.parts_of (FsV.ok_parts g.ok).2.1).2.1
  obtain ⟨qa, qc, rfl⟩ := QF.form g0
  obtain ⟨ia, ic, rfl⟩ := IF.form g1
  obtain ⟨da, dc, rfl⟩ := SF.form g2
  clear g0 g1 g2 hc hrs
  obtain ⟨f1, hf1⟩ : ∃ f1, f1 = withV f k (sized (ino f k) 0) ((content f.data (ino f k).blocks).take (0 : Int).toNat ++ Z (256 - (0 : Int).toNat)) := ⟨_, rfl⟩
  have hil : f1.inodes.length = 20 := by rw [hf1]; unfold withV; simp [hil0]
  have hdl : f1.data.length = 56 := by rw [hf1]; unfold withV; rw [sized_zero]; show (zeroD f.data _).length = 56; rw [zeroD_len]; exact g.dlen
  have HV := Lib.hid (free_val hf1)
  have HCA := Lib.hid (fun (W : World) (hw : Below w.heap.size w W) => show Calls Tryz.prog 105 #[.agg #[.int .i64 f.tick, .slice qa f.quotas.length qc, .slice ia f.inodes.length ic, .slice da f.data.length dc], .int .i64 k, .int .i64 0] W fun e w' => ∃ v' S, e = .returned v' ∧ FsF.Own w' W.heap.size v' f1 S ∧ Below W.heap.size W w' from by rw [hf1]; exact HRS.out W _ k 0 HG.out (Int.le_refl 0) (by decide) (FsF.holds_below HFS.out hw))
  have HIL := Lib.hid hil
  have HDL := Lib.hid hdl
  obtain ⟨T, hT⟩ : ∃ T, T = f.tick := ⟨_, rfl⟩
  obtain ⟨Q, hQ⟩ : ∃ Q, Q = f.quotas.length := ⟨_, rfl⟩
  obtain ⟨M, hM⟩ : ∃ M, M = f.inodes.length := ⟨_, rfl⟩
  obtain ⟨D, hD⟩ : ∃ D, D = f.data.length := ⟨_, rfl⟩
  rw [← hT, ← hQ, ← hM, ← hD] at HFS HCA ⊢
  clear hT hQ hM hD hf1 hil hdl hil0 g
  have HB0 := Lib.hid (((Below.refl w.heap.size w).alloc (Nat.le_refl _) (.cells #[.int .i64 T, .slice qa Q qc, .slice ia M ic, .slice da D dc] 27)).alloc (by simp) (.cells #[.int .i64 0, .slice none 0 0, .slice none 0 0, .slice none 0 0] 27))
  have HX0 := Lib.hid ((new w #[.int .i64 T, .slice qa Q qc, .slice ia M ic, .slice da D dc] 27).alloc (.cells #[.int .i64 0, .slice none 0 0, .slice none 0 0, .slice none 0 0] 27))
  have HR0 := Lib.hid (new_at (w.alloc (.cells #[.int .i64 T, .slice qa Q qc, .slice ia M ic, .slice da D dc] 27)) #[.int .i64 0, .slice none 0 0, .slice none 0 0, .slice none 0 0] 27 (w.heap.size + 1) (by simp))
  have HS0 := Lib.hid (show w.heap.size + 1 + 1 ≤ ((w.alloc (.cells #[.int .i64 T, .slice qa Q qc, .slice ia M ic, .slice da D dc] 27)).alloc (.cells #[.int .i64 0, .slice none 0 0, .slice none 0 0, .slice none 0 0] 27)).heap.size by simp)
  go_enter Tryz.func106, Tryz.ntmps106
  go_wp2_with fail
  generalize (w.alloc (.cells #[.int .i64 T, .slice qa Q qc, .slice ia M ic, .slice da D dc] 27)).alloc (.cells #[.int .i64 0, .slice none 0 0, .slice none 0 0, .slice none 0 0] 27) = w0 at *
  refine (HCA.out _ HB0.out).mono ?_
  rintro e w1 ⟨y, S, rfl, hown, hb⟩
  obtain ⟨qa', ql', qc', gi, ci, gd, cd, rfl, rfl⟩ := own_open hown HIL.out HDL.out
  have hsl : ∀ x ∈ S, w0.heap.size ≤ x ∧ x < w1.heap.size := FsF.own_lies hown
  have HFO := Lib.hid (show FO (w1.alloc (.cells #[.int .i64 f1.tick, .slice qa' f1.quotas.length qc', .slice (some ⟨gi, 0, none⟩) 20 ci, .slice (some ⟨gd, 0, none⟩) 56 cd] 27)) w0.heap.size w1.heap.size f1 (.slice qa' f1.quotas.length qc') gi ci gd cd S from ⟨new _ _ _, fun hh => by have := (hsl _ hh).2; omega, FsF.own_below hown ((Below.refl _ _).alloc (Nat.le_refl _) _), HIL.out, HDL.out⟩)
  have HR1 := Lib.hid ((HR0.out.all hb).alloc (.cells #[.int .i64 f1.tick, .slice qa' f1.quotas.length qc', .slice (some ⟨gi, 0, none⟩) 20 ci, .slice (some ⟨gd, 0, none⟩) 56 cd] 27))
  have HB1 := Lib.hid ((HB0.out.trans (hb.mono HB0.out.size)).alloc (Nat.le_trans HB0.out.size hb.size) (.cells #[.int .i64 f1.tick, .slice qa' f1.quotas.length qc', .slice (some ⟨gi, 0, none⟩) 20 ci, .slice (some ⟨gd, 0, none⟩) 56 cd] 27))
  have HS1 := Lib.hid hb.size
  clear hb hown hsl
  go_upto_region 2 with (fail)
  have HBW := Lib.hid ((Below.refl w1.heap.size w1).alloc (Nat.le_refl _) (.cells #[.int .i64 f1.tick, .slice qa' f1.quotas.length qc', .slice (some ⟨gi, 0, none⟩) 20 ci, .slice (some ⟨gd, 0, none⟩) 56 cd] 27))
  generalize w1.alloc (.cells #[.int .i64 f1.tick, .slice qa' f1.quotas.length qc', .slice (some ⟨gi, 0, none⟩) 20 ci, .slice (some ⟨gd, 0, none⟩) 56 cd] 27) = wa at *
  obtain ⟨rr0, rr1, rr2, hCl, hPt⟩ := HFO.out.icell hk20
  obtain ⟨m0, m1, m2, m3, m4, m5, m6, m7, m8, m9⟩ := hCl
  clear hPt
  have q0 : wa.frozen? ⟨gi, k * 10, none⟩ = false := HFO.out.ifree _
  have q1 : wa.frozen? ⟨gi, k * 10 + 1, none⟩ = false := HFO.out.ifree _
  have q2 : wa.frozen? ⟨gi, k * 10 + 2, none⟩ = false := HFO.out.ifree _
  have q3 : wa.frozen? ⟨gi, k * 10 + 3, none⟩ = false := HFO.out.ifree _
  have q4 : wa.frozen? ⟨gi, k * 10 + 4, none⟩ = false := HFO.out.ifree _
  have q5 : wa.frozen? ⟨gi, k * 10 + 5, none⟩ = false := HFO.out.ifree _
  have q6 : wa.frozen? ⟨gi, k * 10 + 6, none⟩ = false := HFO.out.ifree _
  have q7 : wa.frozen? ⟨gi, k * 10 + 7, none⟩ = false := HFO.out.ifree _
  have q8 : wa.frozen? ⟨gi, k * 10 + 8, none⟩ = false := HFO.out.ifree _
  have q9 : wa.frozen? ⟨gi, k * 10 + 9, none⟩ = false := HFO.out.ifree _
  obtain ⟨x0, x1, x2, x3⟩ := HFO.out.cells
  clear x0 x1 x3
  have hi0 : (0 : Int) ≤ k := by omega
  have hi1 : (k : Int) < 20 := by omega
  go_upto_region 3 with (fail)
  obtain ⟨S', hfo, hsub⟩ := HFO.out.setI hk20 (nil_inode wa w0.heap.size) (fun x hx => by cases hx) (fun hh => by cases hh)
  have hrc := FoB.row10_chg wa gi k (.int .i64 0) (.int .i64 0) (.int .i64 0) (.int .i64 0) (.int .i64 0) (.int .i64 0) (.int .i64 0) (.slice none 0 0) (.slice none 0 0) (.slice none 0 0)
  have hgl := HFO.out.gi_lt
  have hr2 := FoB.Bk.chg HR1.out hrc (fun hh => by rw [List.mem_singleton] at hh; have := HS0.out; omega)
  have hb2 := HB1.out.trans (FoB.Chg.from hrc HB1.out.size (by have := HS0.out; omega))
  rw [HV.out] at hfo
  unfold FoB.row10 at hfo hr2 hb2
  generalize ((((((((((wa.setCell ⟨gi, k * 10, none⟩ (.int .i64 0)).setCell ⟨gi, k * 10 + 1, none⟩ (.int .i64 0)).setCell ⟨gi, k * 10 + 2, none⟩ (.int .i64 0)).setCell ⟨gi, k * 10 + 3, none⟩ (.int .i64 0)).setCell ⟨gi, k * 10 + 4, none⟩ (.int .i64 0)).setCell ⟨gi, k * 10 + 5, none⟩ (.int .i64 0)).setCell ⟨gi, k * 10 + 6, none⟩ (.int .i64 0)).setCell ⟨gi, k * 10 + 7, none⟩ (.slice none 0 0)).setCell ⟨gi, k * 10 + 8, none⟩ (.slice none 0 0)).setCell ⟨gi, k * 10 + 9, none⟩ (.slice none 0 0)) = wb at hfo hr2 hb2 ⊢
  clear m0 m1 m2 m3 m4 m5 m6 m7 m8 m9 q0 q1 q2 q3 q4 q5 q6 q7 q8 q9 x2 hrc
  have HF := Lib.hid hfo
  have HR2 := Lib.hid hr2
  have HB2 := Lib.hid hb2
  clear hfo hr2 hb2 hsub
  obtain ⟨x0, x1, x2, x3⟩ := HF.out.cells
  obtain ⟨r0, r1, r2, r3⟩ := Bk.c4 HR2.out
  have f0 := HR2.out.free 0
  have f1' := HR2.out.free 1
  have f2 := HR2.out.free 2
  have f3 := HR2.out.free 3
  have hne : w.heap.size + 1 ∉ S' := fun hh => by have := (HF.out.lies _ hh).1; have := HS0.out; omega
  have HRV := Lib.hid HF.out.own
  obtain ⟨t9, ht9⟩ : ∃ t, t = (withV f k InoV.zero []).tick := ⟨_, rfl⟩
  rw [← ht9] at x0 HRV
  clear ht9
  go_wp2
  have hF := FoB.box4_bk HR2.out (.int .i64 t9) (.slice qa' f1.quotas.length qc') (.slice (some ⟨gi, 0, none⟩) 20 ci) (.slice (some ⟨gd, 0, none⟩) 56 cd)
  have hC9 := FoB.box4_chg wb (w.heap.size + 1) (.int .i64 t9) (.slice qa' f1.quotas.length qc') (.slice (some ⟨gi, 0, none⟩) 20 ci) (.slice (some ⟨gd, 0, none⟩) 56 cd)
  unfold FoB.box4 at hF hC9
  generalize ((((wb.setCell ⟨w.heap.size + 1, 0, none⟩ (.int .i64 t9)).setCell ⟨w.heap.size + 1, 1, none⟩ (.slice qa' f1.quotas.length qc')).setCell ⟨w.heap.size + 1, 2, none⟩ (.slice (some ⟨gi, 0, none⟩) 20 ci)).setCell ⟨w.heap.size + 1, 3, none⟩ (.slice (some ⟨gd, 0, none⟩) 56 cd)) = w9 at hF hC9 ⊢
  obtain ⟨e0, e1, e2, e3⟩ := Bk.c4 hF
  have hres := FsF.own_mono (FsF.own_chg HRV.out hC9 (fun x hx hh => by rw [List.mem_singleton] at hh; subst hh; exact hne hx)) HB0.out.size
  refine bodyPost_ret (v := .agg #[.int .i64 t9, .slice qa' f1.quotas.length qc', .slice (some ⟨gi, 0, none⟩) 20 ci, .slice (some ⟨gd, 0, none⟩) 56 cd]) (by simp [results, Tryz.results106, go_sem, e0, e1, e2, e3]) rfl ?_
  exact ⟨_, S', rfl, hres, HB2.out.trans (FoB.Chg.from hC9 HB2.out.size (Nat.le_succ _))⟩
end Go.Proofs.YtafmpllkehbmeaaGreatDoor.SpFe
