/- Helper texts joined, one behind another (a claim has at most 60 files): what each proves, its own head says: YtafmpllkehbmeaaGreatDoorCoRs. -/
import Derived.Test.YtafmpllkehbmeaaGreatDoorFsBaseD
import Derived.Test.YtafmpllkehbmeaaGreatDoorFsBaseC
import Derived.Deep.RegionLaw
import Derived.Deep.RegionHeld3

-- YtafmpllkehbmeaaGreatDoorCoRs
/- Contract: the program's ResizeFile. Conditions: the cost, the size is a 64-bit number. -/
namespace Go.Proofs.YtafmpllkehbmeaaGreatDoor.CoRs
open Go.ChangeShapes Go.WideShapes Go.ChangeAt Go.RowKit
open Foot Bx
open InoV (I usedV needV)
open FsV (F okF e0 z32 usersB)
open FsY FsZ FoB CoN
open RowG (cellsB cellsB_length)
set_option linter.unusedVariables false
open CoFr (good_of)
theorem wpList_clear_run {P : Program} (w : World) {ops : Array Oper} {rest : List Oper} {o : Oper} {a : Act} {Q : Exit → Act → World → Prop} (hgd : o.guard = none) (d : Operand) (t : TypeId)
    (ho : o.op = .call { callee := .builtin .clear, args := #[d], argTypes := #[t] }) (v : Value) (hd : a.eval d = v) {v' : Value} {w' : World}
    (hr : (Builtin.clear_ #[t] o.type #[v]).run P w = .ok v' w') (h : wpList P ops Q rest (a.put o.dst v') w') : wpList P ops Q (o :: rest) a w := by
  refine wpList_plain hgd fun K hK => ?_
  unfold Oper.wp execOp
  simp only [ho, resolve, invoke, builtin, Sem.run_bind, Sem.run_pure, Result.andThen_ok, List.map_toArray, List.map_cons, List.map_nil, hd, hr]
  exact hK _ _ h
theorem setCells_bk (g : Nat) (t : TypeId) : ∀ (us : List Value) (o : Nat) (w : World) (l : List Value), Bk w g l.toArray t → Bk (w.setCells g o us) g (IF.setSeq l o us).toArray t
  | [], _, _, _, h => h
  | u :: r, o, w, l, h => setCells_bk g t r (o + 1) _ _ (h.put o u)
theorem setCells_chg (g : Nat) : ∀ (us : List Value) (o : Nat) (w : World), Chg w (w.setCells g o us) [g]
  | [], _, _ => Chg.refl _ _
  | u :: r, o, w => (chg_set w ⟨g, o, none⟩ u).trans (setCells_chg g r (o + 1) _)
theorem clear_some {w : World} {g z cc : Nat} {c : List UInt8} (h : Bk w g (cellsB c).toArray 5) (hc : c.length = 256) (hz : z < 256) :
    ∃ w', (∀ ty : TypeId, (Builtin.clear_ #[22] ty #[.slice (some ⟨g, z, none⟩) (256 - z) cc]).run Tryz.prog w = .ok (.tuple #[]) w') ∧ Bk w' g (cellsB (c.take z ++ Z (256 - z))).toArray 5 ∧ Chg w w' [g] := by
  have hl : (cellsB c).length = 256 := by rw [cellsB_length, hc]
  refine ⟨_, fun ty => Lib.run_clear_slice w 22 5 ty (.int .u8 0) Tryz.underlying22 (fun w => by kernel_rfl) rfl rfl g z (256 - z) cc (by omega) (fun j hj => ?_) (fun j hj => h.free _), ?_, setCells_chg g _ _ _⟩
  · rw [CoN.byte_at h (z + j) (by omega)]; rfl
  · have h2 := setCells_bk g 5 (List.replicate (256 - z) (.int .u8 0)) z w (cellsB c) h
    have h3 := IF.set_mid ((cellsB c).take z) ((cellsB c).drop z) [] (List.replicate (256 - z) (.int .u8 0)) (by rw [List.length_replicate, List.length_drop, hl])
    rw [List.append_nil, List.append_nil, List.take_append_drop, List.length_take, hl, show min z 256 = z from by omega] at h3
    rw [h3] at h2
    rw [RowG.cellsB_append]
    have e1 : cellsB (c.take z) = (cellsB c).take z := by simp [cellsB, List.map_take]
    have e2 : cellsB (Z (256 - z)) = List.replicate (256 - z) (.int .u8 0) := by simp [cellsB, Z]
    rw [e1, e2]; exact h2
theorem clear_none {w : World} {a : Option Addr} {cc : Nat} (ty : TypeId) : (Builtin.clear_ #[22] ty #[.slice a 0 cc]).run Tryz.prog w = .ok (.tuple #[]) w := by
  cases a <;> simp [Builtin.clear_, run_underlying Tryz.underlying22]

set_option maxRecDepth 100000 in
set_option maxHeartbeats 12800000 in
theorem resize_impl (w : World) (v : Value) (f : F) (i z : Int) (hc : FsF.cost f ≤ 1073741824) (hl : FsF.Lim f) (hv : InOk.Vars w)  (h : FsF.Holds w v f) :
    Calls Tryz.prog 24 #[v, .int .i64 i, .int .i64 z] w fun e w' => ∃ v' S, e = .returned (.tuple #[v', .int .i64 (resizeV f i z).2]) ∧ FsF.Own w' w.heap.size v' (resizeV f i z).1 S ∧ Below w.heap.size w w' := by
  have HFS := Lib.hid h
  have HCC := Lib.hid hc
  have HLM := Lib.hid hl
  have HV := Lib.hid hv
  obtain ⟨r0, r1, r2, rfl, g0, g1, g2⟩ := h
  have HI1 := Lib.hid g1
  obtain ⟨qa, qc, rfl⟩ := QF.form g0
  obtain ⟨ia, ic, rfl⟩ := IF.form g1
  obtain ⟨da, dc, rfl⟩ := SF.form g2
  clear g0 g1 g2 hc hl hv
  obtain ⟨T, hT⟩ : ∃ T, T = f.tick := ⟨_, rfl⟩
  obtain ⟨Q, hQ⟩ : ∃ Q, Q = f.quotas.length := ⟨_, rfl⟩
  obtain ⟨M, hM⟩ : ∃ M, M = f.inodes.length := ⟨_, rfl⟩
  obtain ⟨D, hD⟩ : ∃ D, D = f.data.length := ⟨_, rfl⟩
  rw [← hT, ← hQ, ← hM, ← hD] at HFS ⊢
  rw [← hM] at HI1
  have HM := Lib.hid hM
  clear hT hQ hM hD
  have HB0 := Lib.hid (((Below.refl w.heap.size w).alloc (Nat.le_refl _) (.cells #[.int .i64 T, .slice qa Q qc, .slice ia M ic, .slice da D dc] 27)).alloc (by simp) (.cells #[.int .i64 0, .slice none 0 0, .slice none 0 0, .slice none 0 0] 27))
  have HX0 := Lib.hid ((new w #[.int .i64 T, .slice qa Q qc, .slice ia M ic, .slice da D dc] 27).alloc (.cells #[.int .i64 0, .slice none 0 0, .slice none 0 0, .slice none 0 0] 27))
  have HR0 := Lib.hid (new_at (w.alloc (.cells #[.int .i64 T, .slice qa Q qc, .slice ia M ic, .slice da D dc] 27)) #[.int .i64 0, .slice none 0 0, .slice none 0 0, .slice none 0 0] 27 (w.heap.size + 1) (by simp))
  have HS0 := Lib.hid (show w.heap.size + 1 + 1 ≤ ((w.alloc (.cells #[.int .i64 T, .slice qa Q qc, .slice ia M ic, .slice da D dc] 27)).alloc (.cells #[.int .i64 0, .slice none 0 0, .slice none 0 0, .slice none 0 0] 27)).heap.size by simp)
  have HCP := Lib.hid (fun (W : World) (hb : Below w.heap.size w W) => CpG.copy_impl W _ f HCC.out HLM.out (FsF.holds_below HFS.out hb))
  obtain ⟨C, hC⟩ : ∃ C, C = hasObjB f i := ⟨_, rfl⟩
  have HHA := Lib.hid (fun W (hw : Below w.heap.size w W) => show Calls Tryz.prog 72 #[.agg #[.int .i64 T, .slice qa Q qc, .slice ia M ic, .slice da D dc], .int .i64 i] W fun e w' => e = .returned (.bool C) ∧ Below W.heap.size W w' from by rw [hC]; exact has_impl W _ f i HCC.out HLM.out (HV.out.all hw) (FsF.holds_below HFS.out hw))
  have HCE := Lib.hid hC
  cases C
  · have HVV := Lib.hid (show resizeV f i z = (f, 1) from by unfold resizeV; rw [← hC]; rfl)
    clear hC
    go_enter Tryz.func24, Tryz.ntmps24
    go_wp2_with fail
    refine (HHA.out _ HB0.out).mono ?_
    rintro e w1 ⟨rfl, hb⟩
    have HB1 := Lib.hid (HB0.out.trans (hb.mono HB0.out.size))
    have HX1 := Lib.hid (HX0.out.all hb)
    have HR1 := Lib.hid (HR0.out.all hb)
    have HS1 := Lib.hid (Nat.le_trans HS0.out hb.size)
    clear hb
    obtain ⟨x0, x1, x2, x3⟩ := Bk.c4 HX1.out
    go_wp2_with fail
    refine (HCP.out _ HB1.out).mono ?_
    rintro e w2 ⟨y, S, rfl, hown, hb⟩
    obtain ⟨z0, z1a, z1n, z1c, z2a, z2n, z2c, z3a, z3n, z3c, rfl⟩ := FsF.own_form hown
    have HB2 := Lib.hid (HB1.out.trans (hb.mono HB1.out.size))
    have HR2 := Lib.hid (HR1.out.all hb)
    have HNS := Lib.hid (show w.heap.size + 1 ∉ S from fun hh => by have h1 := (FsF.own_lies hown _ hh).1; have h2 := HS1.out; omega)
    have HOW := Lib.hid (FsF.own_mono hown HB1.out.size)
    clear hb hown
    obtain ⟨r0, r1, r2, r3⟩ := Bk.c4 HR2.out
    have f0 := HR2.out.free 0
    have f1 := HR2.out.free 1
    have f2 := HR2.out.free 2
    have f3 := HR2.out.free 3
    go_wp2
    have hF := FoB.box4_bk HR2.out (.int .i64 z0) (.slice z1a z1n z1c) (.slice z2a z2n z2c) (.slice z3a z3n z3c)
    have hC9 := FoB.box4_chg w2 (w.heap.size + 1) (.int .i64 z0) (.slice z1a z1n z1c) (.slice z2a z2n z2c) (.slice z3a z3n z3c)
    unfold FoB.box4 at hF hC9
    generalize ((((w2.setCell ⟨w.heap.size + 1, 0, none⟩ (.int .i64 z0)).setCell ⟨w.heap.size + 1, 1, none⟩ (.slice z1a z1n z1c)).setCell ⟨w.heap.size + 1, 2, none⟩ (.slice z2a z2n z2c)).setCell ⟨w.heap.size + 1, 3, none⟩ (.slice z3a z3n z3c)) = w9 at hF hC9 ⊢
    obtain ⟨e0, e1, e2, e3⟩ := Bk.c4 hF
    have hres := FsF.own_mono (FsF.own_chg HOW.out hC9 (fun x hx hh => by rw [List.mem_singleton] at hh; subst hh; exact HNS.out hx)) (show w.heap.size ≤ w.heap.size from Nat.le_refl _)
    refine bodyPost_ret (v := .tuple #[.agg #[.int .i64 z0, .slice z1a z1n z1c, .slice z2a z2n z2c, .slice z3a z3n z3c], .int .i64 1]) (by simp [results, Tryz.results24, go_sem, e0, e1, e2, e3]) rfl ?_
    exact ⟨_, S, by rw [HVV.out], by rw [HVV.out]; exact hres, HB2.out.trans (FoB.Chg.from hC9 HB2.out.size (Nat.le_succ _))⟩
  · by_cases hz : 0 ≤ z
    · by_cases hm : 256 < z
      · have HVV := Lib.hid (show resizeV f i z = (f, 9) from by unfold resizeV; rw [← hC, decide_eq_true hz, if_pos hm]; rfl)
        have q0 : decide (z < 0) = false := decide_eq_false (by omega)
        have q1 : decide (256 < z) = true := decide_eq_true hm
        clear hC hz hm
        go_enter Tryz.func24, Tryz.ntmps24
        go_wp2_with fail
        refine (HHA.out _ HB0.out).mono ?_
        rintro e w1 ⟨rfl, hb⟩
        have HB1 := Lib.hid (HB0.out.trans (hb.mono HB0.out.size))
        have HX1 := Lib.hid (HX0.out.all hb)
        have HR1 := Lib.hid (HR0.out.all hb)
        have HS1 := Lib.hid (Nat.le_trans HS0.out hb.size)
        clear hb
        obtain ⟨x0, x1, x2, x3⟩ := Bk.c4 HX1.out
        go_wp2_with fail
        refine (HCP.out _ HB1.out).mono ?_
        rintro e w2 ⟨y, S, rfl, hown, hb⟩
        obtain ⟨z0, z1a, z1n, z1c, z2a, z2n, z2c, z3a, z3n, z3c, rfl⟩ := FsF.own_form hown
        have HB2 := Lib.hid (HB1.out.trans (hb.mono HB1.out.size))
        have HR2 := Lib.hid (HR1.out.all hb)
        have HNS := Lib.hid (show w.heap.size + 1 ∉ S from fun hh => by have h1 := (FsF.own_lies hown _ hh).1; have h2 := HS1.out; omega)
        have HOW := Lib.hid (FsF.own_mono hown HB1.out.size)
        clear hb hown
        obtain ⟨r0, r1, r2, r3⟩ := Bk.c4 HR2.out
        have f0 := HR2.out.free 0
        have f1 := HR2.out.free 1
        have f2 := HR2.out.free 2
        have f3 := HR2.out.free 3
        go_wp2
        have hF := FoB.box4_bk HR2.out (.int .i64 z0) (.slice z1a z1n z1c) (.slice z2a z2n z2c) (.slice z3a z3n z3c)
        have hC9 := FoB.box4_chg w2 (w.heap.size + 1) (.int .i64 z0) (.slice z1a z1n z1c) (.slice z2a z2n z2c) (.slice z3a z3n z3c)
        unfold FoB.box4 at hF hC9
        generalize ((((w2.setCell ⟨w.heap.size + 1, 0, none⟩ (.int .i64 z0)).setCell ⟨w.heap.size + 1, 1, none⟩ (.slice z1a z1n z1c)).setCell ⟨w.heap.size + 1, 2, none⟩ (.slice z2a z2n z2c)).setCell ⟨w.heap.size + 1, 3, none⟩ (.slice z3a z3n z3c)) = w9 at hF hC9 ⊢
        obtain ⟨e0, e1, e2, e3⟩ := Bk.c4 hF
        have hres := FsF.own_mono (FsF.own_chg HOW.out hC9 (fun x hx hh => by rw [List.mem_singleton] at hh; subst hh; exact HNS.out hx)) (show w.heap.size ≤ w.heap.size from Nat.le_refl _)
        refine bodyPost_ret (v := .tuple #[.agg #[.int .i64 z0, .slice z1a z1n z1c, .slice z2a z2n z2c, .slice z3a z3n z3c], .int .i64 9]) (by simp [results, Tryz.results24, go_sem, e0, e1, e2, e3]) rfl ?_
        exact ⟨_, S, by rw [HVV.out], by rw [HVV.out]; exact hres, HB2.out.trans (FoB.Chg.from hC9 HB2.out.size (Nat.le_succ _))⟩
      · obtain ⟨k, rfl, hg⟩ := good_of hC.symm
        obtain ⟨zn, rfl⟩ : ∃ zn : Nat, z = zn := ⟨z.toNat, by omega⟩
        have hzn : zn ≤ 256 := by omega
        have HVV := Lib.hid (show resizeV f k zn = (withV f k (sized (ino f k) zn) ((content f.data (ino f k).blocks).take zn ++ Z (256 - zn)), 0) from by unfold resizeV; rw [← hC, decide_eq_true hz, if_neg hm]; rfl)
        have HG := Lib.hid hg
        have q0 : decide ((zn : Int) < 0) = false := decide_eq_false (by omega)
        have q1 : decide ((256 : Int) < zn) = false := decide_eq_false (by omega)
        have HCT := Lib.hid (content_len hg.dsz hg.dlen hg.inr hg.size.2.2.2)
        clear hC hg hz hm
        have hM20 : M = 20 := by rw [HM.out]; exact (FsV.parts_of (FsV.ok_parts HG.out.ok).2.1).2.1
        subst hM20
        obtain ⟨a9, c9, e9, l9, hat⟩ := HI1.out
        rw [Value.slice.injEq] at e9
        obtain ⟨rfl, e8, rfl⟩ := e9
        clear e8 l9
        obtain ⟨b, o, rfl, hb, r0, r1, r2, hCl, hP⟩ := hat k (by rw [← HM.out]; exact HG.out.lt)
        rw [show f.inodes.getD k IF.z0 = ino f k from rfl] at hCl hP
        have HIN := Lib.hid (IF.parts_holds hP)
        obtain ⟨p0, p1, p2⟩ := hP
        obtain ⟨b0, e0', rfl⟩ := NiF.form p0
        obtain ⟨b1, e1', rfl⟩ := AeF.form p1
        obtain ⟨b2, e2', rfl⟩ := AeF.form p2
        have HHB := Lib.hid hb
        have HCL := Lib.hid hCl
        have hk20 := HG.out.lt
        have hk0 : (0 : Int) ≤ k := by omega
        have hk1 : (k : Int) < 20 := by omega
        have HCN := Lib.hid (show In.cost (ino f k) ≤ 1073741824 from Nat.le_trans (IF.cost_at (by rw [← HM.out]; exact hk20)) (Nat.le_trans (Nat.le_trans (Nat.le_add_left _ _) (FsF.le_inodes f)) HCC.out))
        clear hat hCl p0 p1 p2 hb
        go_enter Tryz.func24, Tryz.ntmps24
        go_wp2_with fail
        refine (HHA.out _ HB0.out).mono ?_
        rintro e w1 ⟨rfl, hb⟩
        have HB1 := Lib.hid (HB0.out.trans (hb.mono HB0.out.size))
        have HX1 := Lib.hid (HX0.out.all hb)
        have HR1 := Lib.hid (HR0.out.all hb)
        have HS1 := Lib.hid (Nat.le_trans HS0.out hb.size)
        clear hb
        obtain ⟨x0, x1, x2, x3⟩ := Bk.c4 HX1.out
        go_wp2_with fail
        refine (CoC.content_impl _ _ f k hk20 HG.out.ok (FsF.holds_below HFS.out HB1.out)).mono ?_
        rintro e w2 ⟨rfl, hbk, hb⟩
        have HB2 := Lib.hid (HB1.out.trans (hb.mono HB1.out.size))
        have HX2 := Lib.hid (HX1.out.all hb)
        have HR2 := Lib.hid (HR1.out.all hb)
        have HS2 := Lib.hid (Nat.le_trans HS1.out hb.size)
        have HBK := Lib.hid hbk
        obtain ⟨g, hgE⟩ : ∃ g, g = w1.heap.size + 1 := ⟨_, rfl⟩
        rw [← hgE] at HBK ⊢
        have hg1 : w.heap.size + 1 < g := by have := HS1.out; omega
        have HGE := Lib.hid hg1
        clear hb hbk hgE x0 x1 x2 x3
        have hneed8 : (needV (zn : Int)).toNat ≤ 8 := by have h1 := FsZw.need_mono (show (zn : Int) ≤ 256 by omega); have h8 : needV 256 = 8 := rfl; omega
        have HN8 := Lib.hid (show (sized (ino f k) zn).blocks.length ≤ 8 by show (holes _ _).length ≤ 8; rw [holes_len]; exact hneed8)
        have HNI := Lib.hid (show Inr (sized (ino f k) zn).blocks from FsZr.holes_inr HG.out.inr)
        clear hneed8
        by_cases hzz : zn = 256
        · subst hzz
          have HBK3 := Lib.hid (show Bk w2 g (cellsB ((content f.data (ino f k).blocks).take 256 ++ Z (256 - 256))).toArray 5 from by rw [Nat.sub_self, List.take_of_length_le (Nat.le_of_eq HCT.out), show Z 0 = [] from rfl, List.append_nil]; exact HBK.out)
          have HB3 := HB2
          have HX3 := HX2
          have HR3 := HR2
          have HS3 := HS2
          have HN8 := Lib.hid (show (sized (ino f k) 256).blocks.length ≤ 8 from HN8.out)
          have HNI := Lib.hid (show Inr (sized (ino f k) 256).blocks from HNI.out)
          go_wp2_with (with_reducible refine wpList_clear_run _ rfl (.tmp 30) 22 rfl _ rfl (clear_none _) ?_)
          obtain ⟨x0, x1, x2, x3⟩ := Bk.c4 HX3.out
          obtain ⟨d0, d1, d2, d3, d4, d5, d6, d7, d8, d9⟩ := HCL.out.below HHB.out HB3.out
          go_region_law (first
            | (go_simp; go_at_call 60; ((with_reducible refine (CoW.size_impl _ _ (ino f k) 256 (by omega) (by omega) HCN.out (In.holds_below HIN.out HB3.out.drew)).mono ?_)); rintro e w5 ⟨y5, S5, rfl, hown, hb⟩; have HO5 := Lib.hid (In.own_mono hown (Nat.le_trans (show w.heap.size ≤ w.heap.size + 1 + 1 by omega) HS3.out)); obtain ⟨u0, u1, u2, u3, u4, u5, u6, u7a, u7n, u7c, u8a, u8n, u8c, u9a, u9n, u9c, rfl⟩ := In.own_form hown; have HB5 := Lib.hid (HB3.out.drew.trans (hb.mono HB3.out.drew.size)); have HX5 := Lib.hid (Bk.all (Bk.drew HX3.out) hb); have HR5 := Lib.hid (Bk.all (Bk.drew HR3.out) hb); have HK5 := Lib.hid (Bk.all (Bk.drew HBK3.out) hb); have HS5 := Lib.hid (Nat.le_trans HS3.out hb.size); have HLT := Lib.hid (show ∀ x ∈ S5, w.heap.size + 1 + 1 ≤ x from fun x hx => Nat.le_trans HS3.out (In.own_lies hown x hx).1); clear hown hb; obtain ⟨x0, x1, x2, x3⟩ := Bk.c4 HX5.out)
            | (go_simp; go_at_call 66; ((with_reducible refine (CoI.with_impl _ w.heap.size _ _ _ f k (sized (ino f k) 256) ((content f.data (ino f k).blocks).take 256 ++ Z (256 - 256)) g S5 HG.out HB5.out.size HCC.out HLM.out HNI.out HN8.out (fun _ => ⟨rfl, by rw [List.length_append, List.length_take, HCT.out, Z_len]; omega, HK5.out⟩) ⟨_, _, _, rfl⟩ (FsF.holds_below HFS.out HB5.out) HO5.out).mono ?_)); rintro e w6 ⟨y6, S6, rfl, hown, hsub, hb⟩; have HO6 := Lib.hid hown; obtain ⟨z0, z1a, z1n, z1c, z2a, z2n, z2c, z3a, z3n, z3c, rfl⟩ := FsF.own_form hown; have HB6 := Lib.hid (HB5.out.trans (hb.mono HB5.out.size)); have HR6 := Lib.hid (HR5.out.all hb); have HNS := Lib.hid (show w.heap.size + 1 ∉ S6 from fun hh => (hsub _ hh).elim (fun h1 => by have h2 := HLT.out _ h1; omega) (fun h1 => by have h2 := HS5.out; omega)); clear hown hb hsub; obtain ⟨r0, r1, r2, r3⟩ := Bk.c4 HR6.out; have f0 := HR6.out.free 0; have f1 := HR6.out.free 1; have f2 := HR6.out.free 2; have f3 := HR6.out.free 3))
          all_goals
            have hF := FoB.box4_bk HR6.out (.int .i64 z0) (.slice z1a z1n z1c) (.slice z2a z2n z2c) (.slice z3a z3n z3c)
            have hC9 := FoB.box4_chg w6 (w.heap.size + 1) (.int .i64 z0) (.slice z1a z1n z1c) (.slice z2a z2n z2c) (.slice z3a z3n z3c)
            unfold FoB.box4 at hF hC9
            generalize ((((w6.setCell ⟨w.heap.size + 1, 0, none⟩ (.int .i64 z0)).setCell ⟨w.heap.size + 1, 1, none⟩ (.slice z1a z1n z1c)).setCell ⟨w.heap.size + 1, 2, none⟩ (.slice z2a z2n z2c)).setCell ⟨w.heap.size + 1, 3, none⟩ (.slice z3a z3n z3c)) = w9 at hF hC9 ⊢
            go_wp2
            obtain ⟨e0, e1, e2, e3⟩ := Bk.c4 hF
            have hres := FsF.own_chg HO6.out hC9 (fun x hx hh => by rw [List.mem_singleton] at hh; subst hh; exact HNS.out hx)
            refine bodyPost_ret (v := .tuple #[.agg #[.int .i64 z0, .slice z1a z1n z1c, .slice z2a z2n z2c, .slice z3a z3n z3c], .int .i64 0]) (by simp [results, Tryz.results24, go_sem, e0, e1, e2, e3]) rfl ?_
            exact ⟨_, S6, by rw [HVV.out], by rw [HVV.out]; exact hres, HB6.out.trans (FoB.Chg.from hC9 HB6.out.size (Nat.le_succ _))⟩
        · have hzl : zn < 256 := by omega
          obtain ⟨w3, hclr, hbk3, hc3⟩ := clear_some (cc := 256 - zn) HBK.out HCT.out hzl
          have HCLR := Lib.hid hclr
          have HBK3 := Lib.hid hbk3
          have HB3 := Lib.hid (HB2.out.trans (FoB.Chg.from hc3 HB2.out.size (by have := HGE.out; omega)))
          have HX3 := Lib.hid (FoB.Bk.chg HX2.out hc3 (by have := HGE.out; simp; omega))
          have HR3 := Lib.hid (FoB.Bk.chg HR2.out hc3 (by have := HGE.out; simp; omega))
          have HS3 := Lib.hid (Nat.le_trans HS2.out hc3.size)
          clear hclr hbk3 hc3 hzz
          go_wp2_with (with_reducible refine wpList_clear_run _ rfl (.tmp 30) 22 rfl _ rfl (HCLR.out _) ?_)
          obtain ⟨x0, x1, x2, x3⟩ := Bk.c4 HX3.out
          obtain ⟨d0, d1, d2, d3, d4, d5, d6, d7, d8, d9⟩ := HCL.out.below HHB.out HB3.out
          go_region_law (first
            | (go_simp; go_at_call 60; ((with_reducible refine (CoW.size_impl _ _ (ino f k) zn (by omega) (by omega) HCN.out (In.holds_below HIN.out HB3.out.drew)).mono ?_)); rintro e w5 ⟨y5, S5, rfl, hown, hb⟩; have HO5 := Lib.hid (In.own_mono hown (Nat.le_trans (show w.heap.size ≤ w.heap.size + 1 + 1 by omega) HS3.out)); obtain ⟨u0, u1, u2, u3, u4, u5, u6, u7a, u7n, u7c, u8a, u8n, u8c, u9a, u9n, u9c, rfl⟩ := In.own_form hown; have HB5 := Lib.hid (HB3.out.drew.trans (hb.mono HB3.out.drew.size)); have HX5 := Lib.hid (Bk.all (Bk.drew HX3.out) hb); have HR5 := Lib.hid (Bk.all (Bk.drew HR3.out) hb); have HK5 := Lib.hid (Bk.all (Bk.drew HBK3.out) hb); have HS5 := Lib.hid (Nat.le_trans HS3.out hb.size); have HLT := Lib.hid (show ∀ x ∈ S5, w.heap.size + 1 + 1 ≤ x from fun x hx => Nat.le_trans HS3.out (In.own_lies hown x hx).1); clear hown hb; obtain ⟨x0, x1, x2, x3⟩ := Bk.c4 HX5.out)
            | (go_simp; go_at_call 66; ((with_reducible refine (CoI.with_impl _ w.heap.size _ _ _ f k (sized (ino f k) zn) ((content f.data (ino f k).blocks).take zn ++ Z (256 - zn)) g S5 HG.out HB5.out.size HCC.out HLM.out HNI.out HN8.out (fun _ => ⟨rfl, by rw [List.length_append, List.length_take, HCT.out, Z_len]; omega, HK5.out⟩) ⟨_, _, _, rfl⟩ (FsF.holds_below HFS.out HB5.out) HO5.out).mono ?_)); rintro e w6 ⟨y6, S6, rfl, hown, hsub, hb⟩; have HO6 := Lib.hid hown; obtain ⟨z0, z1a, z1n, z1c, z2a, z2n, z2c, z3a, z3n, z3c, rfl⟩ := FsF.own_form hown; have HB6 := Lib.hid (HB5.out.trans (hb.mono HB5.out.size)); have HR6 := Lib.hid (HR5.out.all hb); have HNS := Lib.hid (show w.heap.size + 1 ∉ S6 from fun hh => (hsub _ hh).elim (fun h1 => by have h2 := HLT.out _ h1; omega) (fun h1 => by have h2 := HS5.out; omega)); clear hown hb hsub; obtain ⟨r0, r1, r2, r3⟩ := Bk.c4 HR6.out; have f0 := HR6.out.free 0; have f1 := HR6.out.free 1; have f2 := HR6.out.free 2; have f3 := HR6.out.free 3))
          all_goals
            have hF := FoB.box4_bk HR6.out (.int .i64 z0) (.slice z1a z1n z1c) (.slice z2a z2n z2c) (.slice z3a z3n z3c)
            have hC9 := FoB.box4_chg w6 (w.heap.size + 1) (.int .i64 z0) (.slice z1a z1n z1c) (.slice z2a z2n z2c) (.slice z3a z3n z3c)
            unfold FoB.box4 at hF hC9
            generalize ((((w6.setCell ⟨w.heap.size + 1, 0, none⟩ (.int .i64 z0)).setCell ⟨w.heap.size + 1, 1, none⟩ (.slice z1a z1n z1c)).setCell ⟨w.heap.size + 1, 2, none⟩ (.slice z2a z2n z2c)).setCell ⟨w.heap.size + 1, 3, none⟩ (.slice z3a z3n z3c)) = w9 at hF hC9 ⊢
            go_wp2
            obtain ⟨e0, e1, e2, e3⟩ := Bk.c4 hF
            have hres := FsF.own_chg HO6.out hC9 (fun x hx hh => by rw [List.mem_singleton] at hh; subst hh; exact HNS.out hx)
            refine bodyPost_ret (v := .tuple #[.agg #[.int .i64 z0, .slice z1a z1n z1c, .slice z2a z2n z2c, .slice z3a z3n z3c], .int .i64 0]) (by simp [results, Tryz.results24, go_sem, e0, e1, e2, e3]) rfl ?_
            exact ⟨_, S6, by rw [HVV.out], by rw [HVV.out]; exact hres, HB6.out.trans (FoB.Chg.from hC9 HB6.out.size (Nat.le_succ _))⟩
    · have HVV := Lib.hid (show resizeV f i z = (f, 1) from by unfold resizeV; rw [decide_eq_false hz, Bool.and_false]; rfl)
      have q0 : decide (z < 0) = true := decide_eq_true (by omega)
      clear hC hz
      go_enter Tryz.func24, Tryz.ntmps24
      go_wp2_with fail
      refine (HHA.out _ HB0.out).mono ?_
      rintro e w1 ⟨rfl, hb⟩
      have HB1 := Lib.hid (HB0.out.trans (hb.mono HB0.out.size))
      have HX1 := Lib.hid (HX0.out.all hb)
      have HR1 := Lib.hid (HR0.out.all hb)
      have HS1 := Lib.hid (Nat.le_trans HS0.out hb.size)
      clear hb
      obtain ⟨x0, x1, x2, x3⟩ := Bk.c4 HX1.out
      go_wp2_with fail
      refine (HCP.out _ HB1.out).mono ?_
      rintro e w2 ⟨y, S, rfl, hown, hb⟩
      obtain ⟨z0, z1a, z1n, z1c, z2a, z2n, z2c, z3a, z3n, z3c, rfl⟩ := FsF.own_form hown
      have HB2 := Lib.hid (HB1.out.trans (hb.mono HB1.out.size))
      have HR2 := Lib.hid (HR1.out.all hb)
      have HNS := Lib.hid (show w.heap.size + 1 ∉ S from fun hh => by have h1 := (FsF.own_lies hown _ hh).1; have h2 := HS1.out; omega)
      have HOW := Lib.hid (FsF.own_mono hown HB1.out.size)
      clear hb hown
      obtain ⟨r0, r1, r2, r3⟩ := Bk.c4 HR2.out
      have f0 := HR2.out.free 0
      have f1 := HR2.out.free 1
      have f2 := HR2.out.free 2
      have f3 := HR2.out.free 3
      go_wp2
      have hF := FoB.box4_bk HR2.out (.int .i64 z0) (.slice z1a z1n z1c) (.slice z2a z2n z2c) (.slice z3a z3n z3c)
      have hC9 := FoB.box4_chg w2 (w.heap.size + 1) (.int .i64 z0) (.slice z1a z1n z1c) (.slice z2a z2n z2c) (.slice z3a z3n z3c)
      unfold FoB.box4 at hF hC9
      generalize ((((w2.setCell ⟨w.heap.size + 1, 0, none⟩ (.int .i64 z0)).setCell ⟨w.heap.size + 1, 1, none⟩ (.slice z1a z1n z1c)).setCell ⟨w.heap.size + 1, 2, none⟩ (.slice z2a z2n z2c)).setCell ⟨w.heap.size + 1, 3, none⟩ (.slice z3a z3n z3c)) = w9 at hF hC9 ⊢
      obtain ⟨e0, e1, e2, e3⟩ := Bk.c4 hF
      have hres := FsF.own_mono (FsF.own_chg HOW.out hC9 (fun x hx hh => by rw [List.mem_singleton] at hh; subst hh; exact HNS.out hx)) (show w.heap.size ≤ w.heap.size from Nat.le_refl _)
      refine bodyPost_ret (v := .tuple #[.agg #[.int .i64 z0, .slice z1a z1n z1c, .slice z2a z2n z2c, .slice z3a z3n z3c], .int .i64 1]) (by simp [results, Tryz.results24, go_sem, e0, e1, e2, e3]) rfl ?_
      exact ⟨_, S, by rw [HVV.out], by rw [HVV.out]; exact hres, HB2.out.trans (FoB.Chg.from hC9 HB2.out.size (Nat.le_succ _))⟩
end Go.Proofs.YtafmpllkehbmeaaGreatDoor.CoRs
