/- Helper texts joined, one behind another (a claim has at most 60 files): what each proves, its own head says: YtbbnginolidedaaGreatDoorCoMv. -/
import Derived.Test.YtbbnginolidedaaGreatDoorFsBaseD
import Derived.Deep.Cut
import Derived.Deep.RegionLaw
import Derived.Deep.RegionHeld3

-- YtbbnginolidedaaGreatDoorCoMv
/- Contract: the program's MoveOwner. Conditions: the cost. -/
namespace Go.Proofs.YtbbnginolidedaaGreatDoor.CoMv
open Go.ChangeShapes Go.WideShapes Go.ChangeAt Go.RowKit
open Foot Bx
open InoV (I usedV needV)
open FsV (F okF e0 z32 usersB)
open FsY FsZ FoB CoN
open RowG (cellsB cellsB_length)
set_option linter.unusedVariables false
open CoFr (good_of)
open FsC (poolV)
open MpB (Is)

theorem own_shape {w : World} {base : Nat} {v : Value} {n : I} {S : List Nat} (h : In.Own w base v n S) : ∃ (a0 : Option Addr) (c0 : Nat) (a1 : Option Addr) (c1 : Nat) (a2 : Option Addr) (c2 : Nat), v = .agg #[.int .i64 n.kind, .int .i64 n.mode, .int .i64 n.uid, .int .i64 n.gid, .int .i64 n.links, .int .i64 n.size, .int .i64 n.tick, .slice a0 n.blocks.length c0, .slice a1 n.acl.length c1, .slice a2 n.dflt.length c2] := by
  obtain ⟨r0, r1, r2, S0, S1, S2, rfl, _, _, h0, h1, h2⟩ := h
  obtain ⟨x0, c0, rfl⟩ := NiF.own_form h0
  obtain ⟨x1, c1, rfl⟩ := AeF.own_form h1
  obtain ⟨x2, c2, rfl⟩ := AeF.own_form h2
  exact ⟨_, _, _, _, _, _, rfl⟩
set_option maxRecDepth 100000 in
set_option maxHeartbeats 1600000 in
theorem renewN_impl (w : World) (a : Nat) (q : Int) (b mc : Nat) (av : Option Addr) (ha : a ≤ 1000) :
    Calls Tryz.prog 59 #[poolV a 14 q b, .slice av 0 mc, .func (.func 74) #[] #[]] w fun e w' => e = .returned (.int .i64 0) ∧ Below w.heap.size w w' := by
  unfold poolV
  have HB0 := Lib.hid ((Below.refl w.heap.size w).alloc (Nat.le_refl _) (.cells #[.int .i64 a, .int .i64 14, .int .i64 q, .map (some b)] 83))
  go_enter Tryz.func59, Tryz.ntmps59
  go_wp2
  generalize w.alloc (.cells #[.int .i64 a, .int .i64 14, .int .i64 q, .map (some b)] 83) = w0 at *
  go_loopw [13] (fun iv wr => iv = .int .i64 0 ∧ Below w.heap.size w wr) (fun _ _ => 0)
  case atStart => exact ⟨rfl, HB0.out⟩
  case round =>
    obtain ⟨rfl, hb⟩ := hrel
    have HB := Lib.hid hb
    clear hb HB0
    go_wp2
    go_ret
    exact ⟨rfl, HB.out⟩
theorem renewA_impl (w : World) (a : Nat) (q : Int) (b N : Nat) (s0 : Int → Bool) (M c c' lo : Nat) (l0 : List Int) (a0 : Option Addr)
    (ha : a ≤ 1000) (hN : N ≤ 1073741824) (hlen : M ≤ 1000) (hs : Is w b N s0) (hrow : w.ownsRow lo 3 1 (.slice a0 M c') M (NiF.cells l0)) (hgb : b ∉ fpR (.slice a0 M c')) :
    Calls Tryz.prog 59 #[poolV a 14 q b, .slice a0 M c, .func (.func 74) #[] #[]] w fun e w' => ∃ l' : List Int, e = .returned (.int .i64 (renew a q isBlock s0 l0).2) ∧ ((renew a q isBlock s0 l0).2 = 0 → l' = (renew a q isBlock s0 l0).1) ∧ w'.ownsRow lo 3 1 (.slice a0 M c') M (NiF.cells l') ∧ Chg w w' (b :: fpR (.slice a0 M c')) := by
  have hl0 : l0.length = M := by have := hrow.1; simpa [NiF.cells] using this
  by_cases h0 : M = 0
  · subst h0
    obtain rfl : l0 = [] := List.length_eq_zero_iff.1 hl0
    refine (renewN_impl w a q b c a0 ha).mono ?_
    rintro e w' ⟨rfl, hb⟩
    exact ⟨[], rfl, fun _ => rfl, row_below hrow hb, Chg.of_below hb (Nat.le_refl _) _⟩
  · obtain ⟨g, rfl⟩ : ∃ g, a0 = some ⟨g, 0, none⟩ := by
      rcases hrow.2 with ⟨hv, h1⟩ | ⟨g, cap, cur, hv, _⟩
      · omega
      · rw [Value.slice.injEq] at hv; exact ⟨g, hv.1⟩
    have hg : g ≠ b := fun e => hgb (by rw [e]; simp [fpR, Value.ownBlock])
    have := CoR.renewB_impl w a q b N s0 g 0 M M c' c lo l0 (some ⟨g, 0, none⟩) ha hN hlen (by omega) (fun _ => rfl) hs hrow hg
    rw [List.drop_zero, List.take_of_length_le (Nat.le_of_eq hl0)] at this
    refine this.mono ?_
    rintro e w' ⟨l', he, hl, hr, hc⟩
    refine ⟨l', he, fun h => ?_, hr, hc.more (fun k hk => by simp [fpR, Value.ownBlock] at hk ⊢; omega)⟩
    rw [hl h, List.drop_eq_nil_of_le (by omega)]; simp

set_option maxRecDepth 100000 in
set_option maxHeartbeats 12800000 in
theorem move_impl (w : World) (v : Value) (f : F) (i u : Int) (hc : FsF.cost f ≤ 1073741824) (hl : FsF.Lim f) (hv : InOk.Vars w) (h : FsF.Holds w v f) :
    Calls Tryz.prog 24 #[v, .int .i64 i, .int .i64 u] w fun e w' => ∃ v' S, e = .returned (.tuple #[v', .int .i64 (moveV f i u).2]) ∧ FsF.Own w' w.heap.size v' (moveV f i u).1 S ∧ Below w.heap.size w w' := by
  have HFS := Lib.hid h
  have HCC := Lib.hid hc
  have HLM := Lib.hid hl
  have HV := Lib.hid hv
  obtain ⟨r0, r1, r2, rfl, g0, g1, g2⟩ := h
  have HI1 := Lib.hid g1
  obtain ⟨qa, qc, rfl⟩ := QF.form g0
  obtain ⟨ia, ic, rfl⟩ := IF.form g1
  obtain ⟨da, dc, rfl⟩ := SF.form g2
  clear g0 g1 g2 hc hl hv
  obtain ⟨T, hT⟩ : ∃ T, T = f.tick := ⟨_, rfl⟩
  obtain ⟨Q, hQ⟩ : ∃ Q, Q = f.quotas.length := ⟨_, rfl⟩
  obtain ⟨M, hM⟩ : ∃ M, M = f.inodes.length := ⟨_, rfl⟩
  obtain ⟨D, hD⟩ : ∃ D, D = f.data.length := ⟨_, rfl⟩
  rw [← hT, ← hQ, ← hM, ← hD] at HFS ⊢
  rw [← hM] at HI1
  have HM := Lib.hid hM
  clear hT hQ hM hD
  have HB0 := Lib.hid (((Below.refl w.heap.size w).alloc (Nat.le_refl _) (.cells #[.int .i64 T, .slice qa Q qc, .slice ia M ic, .slice da D dc] 27)).alloc (by simp) (.cells #[.int .i64 0, .slice none 0 0, .slice none 0 0, .slice none 0 0] 27))
  have HX0 := Lib.hid ((new w #[.int .i64 T, .slice qa Q qc, .slice ia M ic, .slice da D dc] 27).alloc (.cells #[.int .i64 0, .slice none 0 0, .slice none 0 0, .slice none 0 0] 27))
  have HR0 := Lib.hid (new_at (w.alloc (.cells #[.int .i64 T, .slice qa Q qc, .slice ia M ic, .slice da D dc] 27)) #[.int .i64 0, .slice none 0 0, .slice none 0 0, .slice none 0 0] 27 (w.heap.size + 1) (by simp))
  have HS0 := Lib.hid (show w.heap.size + 1 + 1 ≤ ((w.alloc (.cells #[.int .i64 T, .slice qa Q qc, .slice ia M ic, .slice da D dc] 27)).alloc (.cells #[.int .i64 0, .slice none 0 0, .slice none 0 0, .slice none 0 0] 27)).heap.size by simp)
  have HCP := Lib.hid (fun (W : World) (hb : Below w.heap.size w W) => CpG.copy_impl W _ f HCC.out HLM.out (FsF.holds_below HFS.out hb))
  obtain ⟨C, hC⟩ : ∃ C, C = hasObjB f i := ⟨_, rfl⟩
  have HHA := Lib.hid (fun W (hw : Below w.heap.size w W) => show Calls Tryz.prog 68 #[.agg #[.int .i64 T, .slice qa Q qc, .slice ia M ic, .slice da D dc], .int .i64 i] W fun e w' => e = .returned (.bool C) ∧ Below W.heap.size W w' from by rw [hC]; exact has_impl W _ f i HCC.out HLM.out (HV.out.all hw) (FsF.holds_below HFS.out hw))
  have HCE := Lib.hid hC
  cases C
  · have HVV := Lib.hid (show moveV f i u = (f, 1) from by unfold moveV; rw [← hC]; rfl)
    clear hC
    go_enter Tryz.func24, Tryz.ntmps24
    go_wp2_with fail
    refine (HHA.out _ HB0.out).mono ?_
    rintro e w1 ⟨rfl, hb⟩
    have HB1 := Lib.hid (HB0.out.trans (hb.mono HB0.out.size))
    have HX1 := Lib.hid (HX0.out.all hb)
    have HR1 := Lib.hid (HR0.out.all hb)
    have HS1 := Lib.hid (Nat.le_trans HS0.out hb.size)
    clear hb
    obtain ⟨x0, x1, x2, x3⟩ := Bk.c4 HX1.out
    go_wp2_with fail
    refine (HCP.out _ HB1.out).mono ?_
    rintro e w2 ⟨y, S, rfl, hown, hb⟩
    obtain ⟨z0, z1a, z1n, z1c, z2a, z2n, z2c, z3a, z3n, z3c, rfl⟩ := FsF.own_form hown
    have HB2 := Lib.hid (HB1.out.trans (hb.mono HB1.out.size))
    have HR2 := Lib.hid (HR1.out.all hb)
    have HNS := Lib.hid (show w.heap.size + 1 ∉ S from fun hh => by have h1 := (FsF.own_lies hown _ hh).1; have h2 := HS1.out; omega)
    have HOW := Lib.hid (FsF.own_mono hown HB1.out.size)
    clear hb hown
    obtain ⟨r0, r1, r2, r3⟩ := Bk.c4 HR2.out
    have f0 := HR2.out.free 0
    have f1 := HR2.out.free 1
    have f2 := HR2.out.free 2
    have f3 := HR2.out.free 3
    go_wp2
    have hF := FoB.box4_bk HR2.out (.int .i64 z0) (.slice z1a z1n z1c) (.slice z2a z2n z2c) (.slice z3a z3n z3c)
    have hC9 := FoB.box4_chg w2 (w.heap.size + 1) (.int .i64 z0) (.slice z1a z1n z1c) (.slice z2a z2n z2c) (.slice z3a z3n z3c)
    unfold FoB.box4 at hF hC9
    generalize ((((w2.setCell ⟨w.heap.size + 1, 0, none⟩ (.int .i64 z0)).setCell ⟨w.heap.size + 1, 1, none⟩ (.slice z1a z1n z1c)).setCell ⟨w.heap.size + 1, 2, none⟩ (.slice z2a z2n z2c)).setCell ⟨w.heap.size + 1, 3, none⟩ (.slice z3a z3n z3c)) = w9 at hF hC9 ⊢
    obtain ⟨e0, e1, e2, e3⟩ := Bk.c4 hF
    have hres := FsF.own_mono (FsF.own_chg HOW.out hC9 (fun x hx hh => by rw [List.mem_singleton] at hh; subst hh; exact HNS.out hx)) (show w.heap.size ≤ w.heap.size from Nat.le_refl _)
    refine bodyPost_ret (v := .tuple #[.agg #[.int .i64 z0, .slice z1a z1n z1c, .slice z2a z2n z2c, .slice z3a z3n z3c], .int .i64 1]) (by simp [results, Tryz.results24, go_sem, e0, e1, e2, e3]) rfl ?_
    exact ⟨_, S, by rw [HVV.out], by rw [HVV.out]; exact hres, HB2.out.trans (FoB.Chg.from hC9 HB2.out.size (Nat.le_succ _))⟩
  · by_cases hu : usersB u = false
    · have HVV := Lib.hid (show moveV f i u = (f, 1) from by unfold moveV; rw [hu, Bool.and_false]; rfl)
      have HUS := Lib.hid (fun W => show Calls Tryz.prog 72 #[.int .i64 u] W fun e w' => e = .returned (.bool false) ∧ W = w' from by have := FsC.user_impl u W; rw [hu] at this; exact this)
      clear hC hu
      go_enter Tryz.func24, Tryz.ntmps24
      go_wp2_with fail
      refine (HHA.out _ HB0.out).mono ?_
      rintro e w1 ⟨rfl, hb⟩
      have HB1 := Lib.hid (HB0.out.trans (hb.mono HB0.out.size))
      have HX1 := Lib.hid (HX0.out.all hb)
      have HR1 := Lib.hid (HR0.out.all hb)
      have HS1 := Lib.hid (Nat.le_trans HS0.out hb.size)
      clear hb
      obtain ⟨x0, x1, x2, x3⟩ := Bk.c4 HX1.out
      go_wp2_with fail
      refine (HUS.out _).mono ?_
      rintro e wu ⟨rfl, rfl⟩
      go_wp2_with fail
      refine (HCP.out _ HB1.out).mono ?_
      rintro e w2 ⟨y, S, rfl, hown, hb⟩
      obtain ⟨z0, z1a, z1n, z1c, z2a, z2n, z2c, z3a, z3n, z3c, rfl⟩ := FsF.own_form hown
      have HB2 := Lib.hid (HB1.out.trans (hb.mono HB1.out.size))
      have HR2 := Lib.hid (HR1.out.all hb)
      have HNS := Lib.hid (show w.heap.size + 1 ∉ S from fun hh => by have h1 := (FsF.own_lies hown _ hh).1; have h2 := HS1.out; omega)
      have HOW := Lib.hid (FsF.own_mono hown HB1.out.size)
      clear hb hown
      obtain ⟨r0, r1, r2, r3⟩ := Bk.c4 HR2.out
      have f0 := HR2.out.free 0
      have f1 := HR2.out.free 1
      have f2 := HR2.out.free 2
      have f3 := HR2.out.free 3
      go_wp2
      have hF := FoB.box4_bk HR2.out (.int .i64 z0) (.slice z1a z1n z1c) (.slice z2a z2n z2c) (.slice z3a z3n z3c)
      have hC9 := FoB.box4_chg w2 (w.heap.size + 1) (.int .i64 z0) (.slice z1a z1n z1c) (.slice z2a z2n z2c) (.slice z3a z3n z3c)
      unfold FoB.box4 at hF hC9
      generalize ((((w2.setCell ⟨w.heap.size + 1, 0, none⟩ (.int .i64 z0)).setCell ⟨w.heap.size + 1, 1, none⟩ (.slice z1a z1n z1c)).setCell ⟨w.heap.size + 1, 2, none⟩ (.slice z2a z2n z2c)).setCell ⟨w.heap.size + 1, 3, none⟩ (.slice z3a z3n z3c)) = w9 at hF hC9 ⊢
      obtain ⟨e0, e1, e2, e3⟩ := Bk.c4 hF
      have hres := FsF.own_mono (FsF.own_chg HOW.out hC9 (fun x hx hh => by rw [List.mem_singleton] at hh; subst hh; exact HNS.out hx)) (show w.heap.size ≤ w.heap.size from Nat.le_refl _)
      refine bodyPost_ret (v := .tuple #[.agg #[.int .i64 z0, .slice z1a z1n z1c, .slice z2a z2n z2c, .slice z3a z3n z3c], .int .i64 1]) (by simp [results, Tryz.results24, go_sem, e0, e1, e2, e3]) rfl ?_
      exact ⟨_, S, by rw [HVV.out], by rw [HVV.out]; exact hres, HB2.out.trans (FoB.Chg.from hC9 HB2.out.size (Nat.le_succ _))⟩
    · have hu2 : usersB u = true := by simpa using hu
      obtain ⟨uk, rfl, huk3⟩ : ∃ uk : Nat, u = uk ∧ uk ≤ 3 := by
        unfold usersB at hu2
        simp only [Bool.and_eq_true, decide_eq_true_eq] at hu2
        exact ⟨u.toNat, by omega, by omega⟩
      have HUS := Lib.hid (fun W => show Calls Tryz.prog 72 #[.int .i64 uk] W fun e w' => e = .returned (.bool true) ∧ W = w' from by have := FsC.user_impl uk W; rw [hu2] at this; exact this)
      obtain ⟨k, rfl, hg⟩ := good_of hC.symm
      have HG := Lib.hid hg
      obtain ⟨n, hn⟩ : ∃ n, n = ino f k := ⟨_, rfl⟩
      have HVV := Lib.hid (show moveV f k uk = if n.uid = uk then (f, 0) else if (mvR f n uk).2 = 0 then (withV f k { n with uid := uk, blocks := (mvR f n uk).1 } (content f.data n.blocks), 0) else (f, (mvR f n uk).2) from by
        unfold moveV
        rw [← hC, hu2, hn]; rfl)
      have HN := Lib.hid hn
      clear hC hu hu2 hg hn
      have hM20 : M = 20 := by rw [HM.out]; exact (FsV.parts_of (FsV.ok_parts HG.out.ok).2.1).2.1
      subst hM20
      obtain ⟨a9, c9, e9, l9, hat⟩ := HI1.out
      rw [Value.slice.injEq] at e9
      obtain ⟨rfl, e8, rfl⟩ := e9
      clear e8 l9
      obtain ⟨b, o, rfl, hb, r0, r1, r2, hCl, hP⟩ := hat k (by rw [← HM.out]; exact HG.out.lt)
      rw [show f.inodes.getD k IF.z0 = n from HN.out.symm] at hCl hP
      have HIN := Lib.hid (IF.parts_holds hP)
      obtain ⟨p0, p1, p2⟩ := hP
      obtain ⟨b0, e0', rfl⟩ := NiF.form p0
      obtain ⟨b1, e1', rfl⟩ := AeF.form p1
      obtain ⟨b2, e2', rfl⟩ := AeF.form p2
      have HHB := Lib.hid hb
      have HCL := Lib.hid hCl
      have hk20 := HG.out.lt
      have hk0 : (0 : Int) ≤ k := by omega
      have hk1 : (k : Int) < 20 := by omega
      have HCN := Lib.hid (show In.cost n ≤ 1073741824 from by rw [HN.out]; exact Nat.le_trans (IF.cost_at (by rw [← HM.out]; exact hk20)) (Nat.le_trans (Nat.le_trans (Nat.le_add_left _ _) (FsF.le_inodes f)) HCC.out))
      clear hat hCl p0 p1 p2 hb
      by_cases hq : n.uid = uk
      · have HVE := Lib.hid (show moveV f k uk = (f, 0) from by rw [HVV.out, if_pos hq])
        have q1 : (n.uid == (uk : Int)) = true := by simpa using hq
        clear hq
        go_enter Tryz.func24, Tryz.ntmps24
        go_wp2_with fail
        refine (HHA.out _ HB0.out).mono ?_
        rintro e w1 ⟨rfl, hb⟩
        have HB1 := Lib.hid (HB0.out.trans (hb.mono HB0.out.size))
        have HX1 := Lib.hid (HX0.out.all hb)
        have HR1 := Lib.hid (HR0.out.all hb)
        have HS1 := Lib.hid (Nat.le_trans HS0.out hb.size)
        clear hb
        obtain ⟨x0, x1, x2, x3⟩ := Bk.c4 HX1.out
        go_wp2_with fail
        refine (HUS.out _).mono ?_
        rintro e wu ⟨rfl, rfl⟩
        obtain ⟨d0, d1, d2, d3, d4, d5, d6, d7, d8, d9⟩ := HCL.out.below HHB.out HB1.out
        go_wp2_with fail
        refine (HCP.out _ HB1.out).mono ?_
        rintro e w2 ⟨y, S, rfl, hown, hb⟩
        obtain ⟨z0, z1a, z1n, z1c, z2a, z2n, z2c, z3a, z3n, z3c, rfl⟩ := FsF.own_form hown
        have HB2 := Lib.hid (HB1.out.trans (hb.mono HB1.out.size))
        have HR2 := Lib.hid (HR1.out.all hb)
        have HNS := Lib.hid (show w.heap.size + 1 ∉ S from fun hh => by have h1 := (FsF.own_lies hown _ hh).1; have h2 := HS1.out; omega)
        have HOW := Lib.hid (FsF.own_mono hown HB1.out.size)
        clear hb hown
        obtain ⟨r0, r1, r2, r3⟩ := Bk.c4 HR2.out
        have f0 := HR2.out.free 0
        have f1 := HR2.out.free 1
        have f2 := HR2.out.free 2
        have f3 := HR2.out.free 3
        go_wp2
        have hF := FoB.box4_bk HR2.out (.int .i64 z0) (.slice z1a z1n z1c) (.slice z2a z2n z2c) (.slice z3a z3n z3c)
        have hC9 := FoB.box4_chg w2 (w.heap.size + 1) (.int .i64 z0) (.slice z1a z1n z1c) (.slice z2a z2n z2c) (.slice z3a z3n z3c)
        unfold FoB.box4 at hF hC9
        generalize ((((w2.setCell ⟨w.heap.size + 1, 0, none⟩ (.int .i64 z0)).setCell ⟨w.heap.size + 1, 1, none⟩ (.slice z1a z1n z1c)).setCell ⟨w.heap.size + 1, 2, none⟩ (.slice z2a z2n z2c)).setCell ⟨w.heap.size + 1, 3, none⟩ (.slice z3a z3n z3c)) = w9 at hF hC9 ⊢
        obtain ⟨e0, e1, e2, e3⟩ := Bk.c4 hF
        have hres := FsF.own_mono (FsF.own_chg HOW.out hC9 (fun x hx hh => by rw [List.mem_singleton] at hh; subst hh; exact HNS.out hx)) (show w.heap.size ≤ w.heap.size from Nat.le_refl _)
        refine bodyPost_ret (v := .tuple #[.agg #[.int .i64 z0, .slice z1a z1n z1c, .slice z2a z2n z2c, .slice z3a z3n z3c], .int .i64 0]) (by simp [results, Tryz.results24, go_sem, e0, e1, e2, e3]) rfl ?_
        exact ⟨_, S, by rw [HVE.out], by rw [HVE.out]; exact hres, HB2.out.trans (FoB.Chg.from hC9 HB2.out.size (Nat.le_succ _))⟩
      · have q1 : (n.uid == (uk : Int)) = false := by simpa using hq
        have HVE := Lib.hid (show moveV f k uk = if (mvR f n uk).2 = 0 then (withV f k { n with uid := uk, blocks := (mvR f n uk).1 } (content f.data n.blocks), 0) else (f, (mvR f n uk).2) from by rw [HVV.out, if_neg hq])
        clear hq HVV
        go_enter Tryz.func24, Tryz.ntmps24
        go_wp2_with fail
        refine (HHA.out _ HB0.out).mono ?_
        rintro e w1 ⟨rfl, hb⟩
        have HB1 := Lib.hid (HB0.out.trans (hb.mono HB0.out.size))
        have HX1 := Lib.hid (HX0.out.all hb)
        have HR1 := Lib.hid (HR0.out.all hb)
        have HS1 := Lib.hid (Nat.le_trans HS0.out hb.size)
        clear hb
        obtain ⟨x0, x1, x2, x3⟩ := Bk.c4 HX1.out
        go_wp2_with fail
        refine (HUS.out _).mono ?_
        rintro e wu ⟨rfl, rfl⟩
        obtain ⟨d0, d1, d2, d3, d4, d5, d6, d7, d8, d9⟩ := HCL.out.below HHB.out HB1.out
        go_wp2_with fail
        refine (CpI.copyI_impl _ _ n HCN.out (In.holds_below HIN.out HB1.out)).mono ?_
        rintro e w5 ⟨y5, S5, rfl, hown, hb⟩
        obtain ⟨a0, c0, a1, c1, a2, c2, rfl⟩ := own_shape hown
        have HB5 := Lib.hid (HB1.out.trans (hb.mono HB1.out.size))
        have HX5 := Lib.hid (HX1.out.all hb)
        have HR5 := Lib.hid (HR1.out.all hb)
        have HO5 := Lib.hid hown
        have HS5 := Lib.hid (Nat.le_trans HS1.out hb.size)
        have HL5 := Lib.hid (In.own_lies hown)
        have HZ5 := Lib.hid hb.size
        clear hown hb d0 d1 d2 d3 d4 d5 d6 d7 d8 d9 x0 x1 x2 x3
        go_upto_region 7 with (fail)
        have hbu : (.cells #[.int .i64 n.kind, .int .i64 n.mode, .int .i64 uk, .int .i64 n.gid, .int .i64 n.links, .int .i64 n.size, .int .i64 n.tick, .slice a0 n.blocks.length c0, .slice a1 n.acl.length c1, .slice a2 n.dflt.length c2] 34 : Obj) = .cells #[.int .i64 n.kind, .int .i64 n.mode, .int .i64 uk, .int .i64 n.gid, .int .i64 n.links, .int .i64 n.size, .int .i64 n.tick, .slice a0 n.blocks.length c0, .slice a1 n.acl.length c1, .slice a2 n.dflt.length c2] 34 := rfl
        clear hbu
        have hnb := new w5 #[.int .i64 n.kind, .int .i64 n.mode, .int .i64 uk, .int .i64 n.gid, .int .i64 n.links, .int .i64 n.size, .int .i64 n.tick, .slice a0 n.blocks.length c0, .slice a1 n.acl.length c1, .slice a2 n.dflt.length c2] 34
        have HX6 := Lib.hid (HX5.out.alloc (.cells #[.int .i64 n.kind, .int .i64 n.mode, .int .i64 uk, .int .i64 n.gid, .int .i64 n.links, .int .i64 n.size, .int .i64 n.tick, .slice a0 n.blocks.length c0, .slice a1 n.acl.length c1, .slice a2 n.dflt.length c2] 34))
        have HR6 := Lib.hid (HR5.out.alloc (.cells #[.int .i64 n.kind, .int .i64 n.mode, .int .i64 uk, .int .i64 n.gid, .int .i64 n.links, .int .i64 n.size, .int .i64 n.tick, .slice a0 n.blocks.length c0, .slice a1 n.acl.length c1, .slice a2 n.dflt.length c2] 34))
        have HB6 := Lib.hid (HB5.out.alloc HB5.out.size (.cells #[.int .i64 n.kind, .int .i64 n.mode, .int .i64 uk, .int .i64 n.gid, .int .i64 n.links, .int .i64 n.size, .int .i64 n.tick, .slice a0 n.blocks.length c0, .slice a1 n.acl.length c1, .slice a2 n.dflt.length c2] 34))
        have HO6 := Lib.hid (In.own_below HO5.out ((Below.refl _ _).alloc (Nat.le_refl _) (.cells #[.int .i64 n.kind, .int .i64 n.mode, .int .i64 uk, .int .i64 n.gid, .int .i64 n.links, .int .i64 n.size, .int .i64 n.tick, .slice a0 n.blocks.length c0, .slice a1 n.acl.length c1, .slice a2 n.dflt.length c2] 34)))
        obtain ⟨nb, hnbe⟩ : ∃ nb, nb = w5.heap.size := ⟨_, rfl⟩
        rw [← hnbe] at hnb ⊢
        have HNE := Lib.hid hnbe
        clear hnbe
        generalize w5.alloc (.cells #[.int .i64 n.kind, .int .i64 n.mode, .int .i64 uk, .int .i64 n.gid, .int .i64 n.links, .int .i64 n.size, .int .i64 n.tick, .slice a0 n.blocks.length c0, .slice a1 n.acl.length c1, .slice a2 n.dflt.length c2] 34) = wc at *
        have HBK := Lib.hid hnb
        have hnbl : nb < wc.heap.size := hnb.lt
        have hwl : w.heap.size < wc.heap.size := HX6.out.lt
        clear hnb
        -- the rows
        obtain ⟨r0, r1, r2, T0, T1, T2, ea, hTT, hTn, o0, o1, o2⟩ := HO6.out
        simp only [Value.agg.injEq, Array.mk.injEq, List.cons.injEq, true_and, and_true] at ea
        obtain ⟨rfl, rfl, rfl⟩ := ea
        obtain ⟨⟨ya, yc, yc', ey, hyc, hyc', hrow⟩, hT0⟩ := o0
        rw [Value.slice.injEq] at ey
        obtain ⟨rfl, _, rfl⟩ := ey
        have HROW := Lib.hid hrow
        have HO1 := Lib.hid o1
        have HO2 := Lib.hid o2
        have HTT := Lib.hid hTT
        have HTN := Lib.hid hTn
        have HYC := Lib.hid hyc
        have HYD := Lib.hid hyc'
        have HGT := Lib.hid (show T0 = fpR (.slice a0 n.blocks.length yc') from hT0.trans (by cases a0 <;> rfl))
        have HTL := Lib.hid (show ∀ x ∈ S5, w1.heap.size ≤ x ∧ x < wc.heap.size from In.own_lies HO6.out)
        clear hTT hTn o1 o2 hrow hT0 hyc hyc' HO6
        obtain ⟨M, hM⟩ : ∃ M, M = n.blocks.length := ⟨_, rfl⟩
        have hM8 : M ≤ 8 := by have := HG.out.size.2.2.2; rw [← HN.out] at this; omega
        have HM2 := Lib.hid hM
        rw [← hM] at HBK HROW HGT HYC ⊢
        clear hM
        have b7 := HBK.out.cell 7
        dsimp at b7
        obtain ⟨x0, x1, x2, x3⟩ := Bk.c4 HX6.out
        have HPL := Lib.hid (FsD.bpool_le wc.drew _ f uk huk3 HCC.out HLM.out (FsV.half_of HG.out.ok) (FsF.holds_below HFS.out HB6.out.drew))
        obtain ⟨qv, hqv⟩ : ∃ q, q = (f.quotas.getD uk (0, 0)).2 := ⟨_, rfl⟩
        rw [← hqv] at HPL
        have HQV := Lib.hid hqv
        clear hqv
        obtain ⟨A, hA⟩ : ∃ A, A = 14 * uk := ⟨_, rfl⟩
        rw [← hA] at HPL
        have hA9 : A ≤ 1000 := by omega
        have HA := Lib.hid hA
        clear hA
        obtain ⟨R1, rc, hR⟩ : ∃ R1 rc, renew A qv isBlock (InoV.hasB (FsV.allB f.inodes)) n.blocks = (R1, rc) := ⟨_, _, rfl⟩
        have HREN := Lib.hid (fun (W : World) (bm Nm : Nat) (hNm : Nm ≤ 1073741824) (his : MpB.Is W bm Nm (InoV.hasB (FsV.allB f.inodes))) (hrw : W.ownsRow w1.heap.size 3 1 (.slice a0 M yc') M (NiF.cells n.blocks)) (hgb : bm ∉ fpR (.slice a0 M yc')) => show Calls Tryz.prog 59 #[.agg #[.int .i64 A, .int .i64 14, .int .i64 qv, .map (some bm)], .slice a0 M c0, .func (.func 74) #[] #[]] W fun e w' => ∃ l' : List Int, e = .returned (.int .i64 rc) ∧ (rc = 0 → l' = R1) ∧ w'.ownsRow w1.heap.size 3 1 (.slice a0 M yc') M (NiF.cells l') ∧ Chg W w' (bm :: fpR (.slice a0 M yc')) from by
          have := renewA_impl W A qv bm Nm _ M c0 yc' w1.heap.size n.blocks a0 (by omega) hNm (by omega) his hrw hgb
          rw [hR] at this
          exact this)
        have HRR := Lib.hid (show mvR f n uk = (R1, rc) from by
          unfold mvR
          rw [← HA.out, show quo f uk = qv from HQV.out.symm]
          exact hR)
        have HG0 := Lib.hid (show ∀ x ∈ fpR (.slice a0 M yc'), x ∈ S5 from fun x hx => by rw [HTT.out, HGT.out]; simp only [List.mem_append]; exact .inl (.inl hx))
        clear hR
        unfold FsC.poolV at HPL
        have b7d : wc.drew.cell? ⟨nb, 7, none⟩ = some (.slice a0 M c0) := b7
        have x0d : wc.drew.cell? ⟨w.heap.size, 0, none⟩ = some (.int .i64 T) := x0
        have x1d : wc.drew.cell? ⟨w.heap.size, 1, none⟩ = some (.slice qa Q qc) := x1
        have x2d : wc.drew.cell? ⟨w.heap.size, 2, none⟩ = some (.slice (some ⟨b, o, none⟩) 20 ic) := x2
        have x3d : wc.drew.cell? ⟨w.heap.size, 3, none⟩ = some (.slice da D dc) := x3
        have HZ6 := Lib.hid (show w1.heap.size ≤ wc.heap.size from by have h1 := HNE.out; have h2 := HZ5.out; omega)
        go_region_held3 (fun w' => w'.cell? ⟨w.heap.size, 0, none⟩ = some (.int .i64 T) ∧ w'.cell? ⟨w.heap.size, 1, none⟩ = some (.slice qa Q qc) ∧ w'.cell? ⟨w.heap.size, 2, none⟩ = some (.slice (some ⟨b, o, none⟩) 20 ic) ∧ w'.cell? ⟨w.heap.size, 3, none⟩ = some (.slice da D dc) ∧ w'.cell? ⟨nb, 7, none⟩ = some (.slice a0 M c0)) (first | with_reducible exact ⟨x0, x1, x2, x3, b7⟩ | with_reducible exact ⟨x0d, x1d, x2d, x3d, b7d⟩ | with_reducible exact ⟨v0, v1, v2, v3, v5⟩ | with_reducible exact ⟨u0, u1, u2, u3, u5⟩ | go_keep)
          (first
            | (go_at_call 58; (with_reducible refine HPL.out.mono ?_); rintro e w7 ⟨bm, Nm, hNm, rfl, his, hbm, hb⟩; have HB7 := Lib.hid (HB6.out.drew.trans (hb.mono HB6.out.drew.size)); have HX7 := Lib.hid (Bk.all (Bk.drew HX6.out) hb); have HR7 := Lib.hid (Bk.all (Bk.drew HR6.out) hb); have HK7 := Lib.hid (Bk.all (Bk.drew HBK.out) hb); have HW7 := Lib.hid (row_below HROW.out ((Below.refl wc.heap.size wc).drew.trans hb)); have HP7 := Lib.hid (AeF.own_below HO1.out ((Below.refl wc.heap.size wc).drew.trans hb)); have HQ7 := Lib.hid (AeF.own_below HO2.out ((Below.refl wc.heap.size wc).drew.trans hb)); have HIS := Lib.hid his; have HNM := Lib.hid hNm; have HBM := Lib.hid (show wc.heap.size ≤ bm from hbm); have HGB := Lib.hid (show bm ∉ fpR (.slice a0 M yc') from fun hh => by have h9 : wc.heap.size ≤ bm := hbm; have := (HTL.out _ (HG0.out _ hh)).2; omega); have HIL := Lib.hid his.lt; have v0 := HX7.out.cell 0; have v1 := HX7.out.cell 1; have v2 := HX7.out.cell 2; have v3 := HX7.out.cell 3; have v5 := HK7.out.cell 7; dsimp at v0 v1 v2 v3 v5; clear his hNm hbm hb)
            | (go_at_call 59; (with_reducible refine (HREN.out _ _ _ HNM.out HIS.out HW7.out HGB.out).mono ?_); rintro e w8 ⟨l', rfl, hl', hrow8, hc8⟩; have HL' := Lib.hid hl'; have HW8 := Lib.hid hrow8; have HC8 := Lib.hid hc8; have HT8 := Lib.hid (show ∀ x ∈ bm :: fpR (.slice a0 M yc'), w1.heap.size ≤ x ∧ x ≠ nb from fun x hx => by have h9 := HBM.out; rw [List.mem_cons] at hx; rcases hx with rfl | hx; (exact ⟨by have := HS1.out; have := HZ6.out; omega, by omega⟩); (exact ⟨(HTL.out _ (HG0.out _ hx)).1, by have := (HL5.out _ (HG0.out _ hx)).2; have := HNE.out; omega⟩)); have HB8 := Lib.hid (HB7.out.trans (hc8.below HB7.out.size (fun k hk => by have := (HT8.out k hk).1; have := HB1.out.size; omega))); have HX8 := Lib.hid (FoB.Bk.chg HX7.out hc8 (fun hh => by have := (HT8.out _ hh).1; have := HS1.out; omega)); have HR8 := Lib.hid (FoB.Bk.chg HR7.out hc8 (fun hh => by have := (HT8.out _ hh).1; have := HS1.out; omega)); have HK8 := Lib.hid (FoB.Bk.chg HK7.out hc8 (fun hh => (HT8.out _ hh).2 rfl)); have u0 := HX8.out.cell 0; have u1 := HX8.out.cell 1; have u2 := HX8.out.cell 2; have u3 := HX8.out.cell 3; have u5 := HK8.out.cell 7; dsimp at u0 u1 u2 u3 u5; clear hl' hrow8 hc8))
        clear b7d x0d x1d x2d x3d x0 x1 x2 x3 b7 v0 v1 v2 v3 v5 u0 u1 u2 u3 u5
        rename_i hHeld
        clear hHeld
        have HS8 := Lib.hid (show w.heap.size + 1 + 1 ≤ w8.heap.size from by have h1 := HX8.out.lt; have h2 := HR8.out.lt; have h3 := HC8.out.size; have h4 := HK8.out.lt; have h5 := HS5.out; have h6 := HNE.out; omega)
        by_cases hrc : rc = 0
        rotate_left
        · have HVF := Lib.hid (show moveV f k uk = (f, rc) from by rw [HVE.out, HRR.out]; exact if_neg hrc)
          have z1 : (rc != 0) = true := by simpa using hrc
          have z2 : (rc == 0) = false := by simpa using hrc
          obtain ⟨x0, x1, x2, x3⟩ := Bk.c4 HX8.out
          clear hrc
          go_wp2_with fail
          refine (HCP.out _ HB8.out).mono ?_
          rintro e wk ⟨y, S, rfl, hown, hb⟩
          obtain ⟨z0, z1a, z1n, z1c, z2a, z2n, z2c, z3a, z3n, z3c, rfl⟩ := FsF.own_form hown
          have HB2 := Lib.hid (HB8.out.trans (hb.mono HB8.out.size))
          have HR2 := Lib.hid (HR8.out.all hb)
          have HNS := Lib.hid (show w.heap.size + 1 ∉ S from fun hh => by have h1 := (FsF.own_lies hown _ hh).1; have h2 := HS8.out; omega)
          have HOW := Lib.hid (FsF.own_mono hown HB8.out.size)
          clear hb hown
          obtain ⟨r0, r1, r2, r3⟩ := Bk.c4 HR2.out
          have f0 := HR2.out.free 0
          have f1 := HR2.out.free 1
          have f2 := HR2.out.free 2
          have f3 := HR2.out.free 3
          go_wp2
          have hF := FoB.box4_bk HR2.out (.int .i64 z0) (.slice z1a z1n z1c) (.slice z2a z2n z2c) (.slice z3a z3n z3c)
          have hC9 := FoB.box4_chg wk (w.heap.size + 1) (.int .i64 z0) (.slice z1a z1n z1c) (.slice z2a z2n z2c) (.slice z3a z3n z3c)
          unfold FoB.box4 at hF hC9
          generalize ((((wk.setCell ⟨w.heap.size + 1, 0, none⟩ (.int .i64 z0)).setCell ⟨w.heap.size + 1, 1, none⟩ (.slice z1a z1n z1c)).setCell ⟨w.heap.size + 1, 2, none⟩ (.slice z2a z2n z2c)).setCell ⟨w.heap.size + 1, 3, none⟩ (.slice z3a z3n z3c)) = w9 at hF hC9 ⊢
          obtain ⟨e0, e1, e2, e3⟩ := Bk.c4 hF
          have hres := FsF.own_mono (FsF.own_chg HOW.out hC9 (fun x hx hh => by rw [List.mem_singleton] at hh; subst hh; exact HNS.out hx)) (show w.heap.size ≤ w.heap.size from Nat.le_refl _)
          refine bodyPost_ret (v := .tuple #[.agg #[.int .i64 z0, .slice z1a z1n z1c, .slice z2a z2n z2c, .slice z3a z3n z3c], .int .i64 rc]) (by simp [results, Tryz.results24, go_sem, e0, e1, e2, e3]) rfl ?_
          exact ⟨_, S, by rw [HVF.out], by rw [HVF.out]; exact hres, HB2.out.trans (FoB.Chg.from hC9 HB2.out.size (Nat.le_succ _))⟩
        · subst hrc
          have hlq : l' = R1 := HL'.out rfl
          have hll : l'.length = M := by have := HW8.out.1; simpa [NiF.cells] using this
          have hapT : ∀ T, (∀ x ∈ T, x ∈ S5) → Apart T (fpR (.slice a0 M yc')) → Apart T (bm :: fpR (.slice a0 M yc')) := fun T h1 h2 x hx hh => by
            have h3 := (HTL.out x (h1 x hx)).2
            have h4 := HBM.out
            rw [List.mem_cons] at hh
            rcases hh with rfl | hh
            · omega
            · exact h2 x hx hh
          obtain ⟨n1, n2, n3⟩ := nodup_parts (HTT.out ▸ HTN.out : (T0 ++ T1 ++ T2).Nodup)
          obtain ⟨n4, n5, n6⟩ := nodup_parts n1
          have hg0 : T0 = fpR (.slice a0 M yc') := HGT.out
          have HP8 := Lib.hid (AeF.own_chg HP7.out HC8.out (hapT _ (fun x hx => by rw [HTT.out]; simp [hx]) (by rw [← hg0]; exact n6.symm)))
          have HQ8 := Lib.hid (AeF.own_chg HQ7.out HC8.out (hapT _ (fun x hx => by rw [HTT.out]; simp [hx]) (fun x hx hh => n3 x (by rw [hg0]; simp [hh]) hx)))
          have HOW := Lib.hid (show In.Own w8 w1.heap.size (.agg #[.int .i64 n.kind, .int .i64 n.mode, .int .i64 uk, .int .i64 n.gid, .int .i64 n.links, .int .i64 n.size, .int .i64 n.tick, .slice a0 M c0, .slice a1 n.acl.length c1, .slice a2 n.dflt.length c2]) { n with uid := uk, blocks := l' } S5 from ⟨_, _, _, T0, T1, T2, rfl, HTT.out, HTN.out, ⟨⟨a0, c0, yc', by rw [hll], by rw [hll]; exact HYC.out, HYD.out, by rw [hll]; exact HW8.out⟩, HGT.out.trans (by cases a0 <;> rfl)⟩, HP8.out, HQ8.out⟩)
          have HVF := Lib.hid (show moveV f k uk = (withV f k { n with uid := uk, blocks := l' } (content f.data n.blocks), 0) from by rw [HVE.out, HRR.out, hlq]; exact if_pos rfl)
          have hinr : Inr l' := fun x hx => by
            rw [hlq] at hx
            obtain ⟨t, ht, rfl⟩ := List.mem_iff_getElem.1 hx
            have h0 : (renew (14 * uk) (quo f uk) isBlock (InoV.hasB (FsV.allB f.inodes)) n.blocks) = (R1, 0) := HRR.out
            obtain ⟨r1, r2⟩ := renew_facts _ _ _ _ _ (show (renew (14 * uk) (quo f uk) isBlock (InoV.hasB (FsV.allB f.inodes)) n.blocks).2 = 0 by rw [h0])
            rw [h0] at r1
            have hl9 : R1.length = n.blocks.length := by rw [← hlq, hll]; exact HM2.out
            by_cases hbt : isBlock n.blocks[t] = true
            · obtain ⟨kk, hkk, e2, _⟩ := (r1 t (by omega) ht).2 hbt
              dsimp only at e2
              exact .inr (by omega)
            · have e2 := (r1 t (by omega) ht).1 (by simpa using hbt)
              dsimp only at e2
              left
              rw [e2]
              simpa [isBlock] using hbt
          have HINR := Lib.hid hinr
          have HLL := Lib.hid hll
          have hcl := content_len HG.out.dsz HG.out.dlen HG.out.inr HG.out.size.2.2.2
          rw [← HN.out] at hcl
          have HCL2 := Lib.hid hcl
          clear hlq hll hapT n1 n2 n3 n4 n5 n6 hg0 hinr hcl
          have HCNT := Lib.hid (CoC.content_impl w8.drew _ f k hk20 HG.out.ok (FsF.holds_below HFS.out HB8.out.drew))
          rw [← HN.out] at HCNT
          have HWI := Lib.hid (fun (W : World) => CoI.with_impl W w.heap.size (.agg #[.int .i64 T, .slice qa Q qc, .slice (some ⟨b, o, none⟩) 20 ic, .slice da D dc]) (.agg #[.int .i64 n.kind, .int .i64 n.mode, .int .i64 uk, .int .i64 n.gid, .int .i64 n.links, .int .i64 n.size, .int .i64 n.tick, .slice a0 M c0, .slice a1 n.acl.length c1, .slice a2 n.dflt.length c2]) (.slice (some ⟨w8.heap.size + 1, 0, none⟩) 256 256) f k { n with uid := uk, blocks := l' } (content f.data n.blocks) (w8.heap.size + 1) S5 HG.out)
          obtain ⟨x0, x1, x2, x3⟩ := Bk.c4 HX8.out
          obtain ⟨k0, k1, k2, k3, k4, k5, k6, k7, k8, k9⟩ := Bk.c10 HK8.out
          go_upto_region 10 with (fail)
          have x0d : w8.drew.cell? ⟨w.heap.size, 0, none⟩ = some (.int .i64 T) := x0
          have x1d : w8.drew.cell? ⟨w.heap.size, 1, none⟩ = some (.slice qa Q qc) := x1
          have x2d : w8.drew.cell? ⟨w.heap.size, 2, none⟩ = some (.slice (some ⟨b, o, none⟩) 20 ic) := x2
          have x3d : w8.drew.cell? ⟨w.heap.size, 3, none⟩ = some (.slice da D dc) := x3
          have kd0 : w8.drew.cell? ⟨nb, 0, none⟩ = some (.int .i64 n.kind) := k0
          have kd1 : w8.drew.cell? ⟨nb, 1, none⟩ = some (.int .i64 n.mode) := k1
          have kd2 : w8.drew.cell? ⟨nb, 2, none⟩ = some (.int .i64 uk) := k2
          have kd3 : w8.drew.cell? ⟨nb, 3, none⟩ = some (.int .i64 n.gid) := k3
          have kd4 : w8.drew.cell? ⟨nb, 4, none⟩ = some (.int .i64 n.links) := k4
          have kd5 : w8.drew.cell? ⟨nb, 5, none⟩ = some (.int .i64 n.size) := k5
          have kd6 : w8.drew.cell? ⟨nb, 6, none⟩ = some (.int .i64 n.tick) := k6
          have kd7 : w8.drew.cell? ⟨nb, 7, none⟩ = some (.slice a0 M c0) := k7
          have kd8 : w8.drew.cell? ⟨nb, 8, none⟩ = some (.slice a1 n.acl.length c1) := k8
          have kd9 : w8.drew.cell? ⟨nb, 9, none⟩ = some (.slice a2 n.dflt.length c2) := k9
          go_region_held3 (fun w' => w'.cell? ⟨w.heap.size, 0, none⟩ = some (.int .i64 T) ∧ w'.cell? ⟨w.heap.size, 1, none⟩ = some (.slice qa Q qc) ∧ w'.cell? ⟨w.heap.size, 2, none⟩ = some (.slice (some ⟨b, o, none⟩) 20 ic) ∧ w'.cell? ⟨w.heap.size, 3, none⟩ = some (.slice da D dc) ∧ w'.cell? ⟨nb, 0, none⟩ = some (.int .i64 n.kind) ∧ w'.cell? ⟨nb, 1, none⟩ = some (.int .i64 n.mode) ∧ w'.cell? ⟨nb, 2, none⟩ = some (.int .i64 uk) ∧ w'.cell? ⟨nb, 3, none⟩ = some (.int .i64 n.gid) ∧ w'.cell? ⟨nb, 4, none⟩ = some (.int .i64 n.links) ∧ w'.cell? ⟨nb, 5, none⟩ = some (.int .i64 n.size) ∧ w'.cell? ⟨nb, 6, none⟩ = some (.int .i64 n.tick) ∧ w'.cell? ⟨nb, 7, none⟩ = some (.slice a0 M c0) ∧ w'.cell? ⟨nb, 8, none⟩ = some (.slice a1 n.acl.length c1) ∧ w'.cell? ⟨nb, 9, none⟩ = some (.slice a2 n.dflt.length c2)) (first | with_reducible exact ⟨x0, x1, x2, x3, k0, k1, k2, k3, k4, k5, k6, k7, k8, k9⟩ | with_reducible exact ⟨x0d, x1d, x2d, x3d, kd0, kd1, kd2, kd3, kd4, kd5, kd6, kd7, kd8, kd9⟩ | with_reducible exact ⟨v0, v1, v2, v3, y0, y1, y2, y3, y4, y5, y6, y7, y8, y9⟩ | with_reducible exact ⟨s0, s1, s2, s3, t0, t1, t2, t3, t4, t5, t6, t7, t8, t9⟩ | with_reducible exact ⟨hp0 _ _ _ _, hp1 _ _ _ _, hp2 _ _ _ _, hp3 _ _ _ _, hq0 _ _ _ _, hq1 _ _ _ _, hq2 _ _ _ _, hq3 _ _ _ _, hq4 _ _ _ _, hq5 _ _ _ _, hq6 _ _ _ _, hq7 _ _ _ _, hq8 _ _ _ _, hq9 _ _ _ _⟩ | go_keep)
            (first
              | (go_at_call 61; (with_reducible refine HCNT.out.mono ?_); rintro e wd ⟨rfl, hcb, hb⟩; have HBd := Lib.hid (HB8.out.drew.trans (hb.mono HB8.out.drew.size)); have HXd := Lib.hid (Bk.all (Bk.drew HX8.out) hb); have HRd := Lib.hid (Bk.all (Bk.drew HR8.out) hb); have HKd := Lib.hid (Bk.all (Bk.drew HK8.out) hb); have HOd := Lib.hid (In.own_below HOW.out ((Below.refl w8.heap.size w8).drew.trans hb)); have HSd := Lib.hid (Nat.le_trans HS8.out hb.size); have HCB := Lib.hid (show Bk wd (w8.heap.size + 1) _ _ from hcb); have v0 := HXd.out.cell 0; have v1 := HXd.out.cell 1; have v2 := HXd.out.cell 2; have v3 := HXd.out.cell 3; have y0 := HKd.out.cell 0; have y1 := HKd.out.cell 1; have y2 := HKd.out.cell 2; have y3 := HKd.out.cell 3; have y4 := HKd.out.cell 4; have y5 := HKd.out.cell 5; have y6 := HKd.out.cell 6; have y7 := HKd.out.cell 7; have y8 := HKd.out.cell 8; have y9 := HKd.out.cell 9; dsimp at v0 v1 v2 v3 y0 y1 y2 y3 y4 y5 y6 y7 y8 y9; clear hcb hb)
              | (go_at_call 62; (with_reducible refine (HWI.out _ HBd.out.size HCC.out HLM.out HINR.out (by show l'.length ≤ 8; rw [HLL.out]; exact hM8) (fun _ => ⟨by first | rfl | trivial, HCL2.out, HCB.out⟩) ⟨_, _, _, rfl⟩ (FsF.holds_below HFS.out HBd.out) (In.own_mono HOd.out (show w.heap.size ≤ w1.heap.size from HB1.out.size))).mono ?_); rintro e w6 ⟨y6, S6, rfl, hown, hsub, hb⟩; have HO9 := Lib.hid hown; obtain ⟨z0, z1a, z1n, z1c, z2a, z2n, z2c, z3a, z3n, z3c, rfl⟩ := FsF.own_form hown; have HB9 := Lib.hid (HBd.out.trans (hb.mono HBd.out.size)); have HR9 := Lib.hid (HRd.out.all hb); have HX9 := Lib.hid (HXd.out.all hb); have HK9 := Lib.hid (HKd.out.all hb); have HNS := Lib.hid (show w.heap.size + 1 ∉ S6 from fun hh => (hsub _ hh).elim (fun h1 => by have h2 := (HTL.out _ h1).1; have h3 := HS1.out; omega) (fun h1 => by have h2 := HSd.out; omega)); clear hown hb hsub; obtain ⟨r0, r1, r2, r3⟩ := Bk.c4 HR9.out; have f0 := HR9.out.free 0; have f1 := HR9.out.free 1; have f2 := HR9.out.free 2; have f3 := HR9.out.free 3; have s0 := HX9.out.cell 0; have s1 := HX9.out.cell 1; have s2 := HX9.out.cell 2; have s3 := HX9.out.cell 3; have t0 := HK9.out.cell 0; have t1 := HK9.out.cell 1; have t2 := HK9.out.cell 2; have t3 := HK9.out.cell 3; have t4 := HK9.out.cell 4; have t5 := HK9.out.cell 5; have t6 := HK9.out.cell 6; have t7 := HK9.out.cell 7; have t8 := HK9.out.cell 8; have t9 := HK9.out.cell 9; dsimp at s0 s1 s2 s3 t0 t1 t2 t3 t4 t5 t6 t7 t8 t9; have hnd2 : ¬ nb = w.heap.size + 1 := fun e => (by have h5 := HS5.out; have h6 := HNE.out; omega); have hp0 := fun u0 u1 u2 u3 : Value => ((FoB.box4_chg w6 (w.heap.size + 1) u0 u1 u2 u3).cell (p := ⟨w.heap.size, 0, none⟩) HX9.out.lt (by simp)).trans s0; have hp1 := fun u0 u1 u2 u3 : Value => ((FoB.box4_chg w6 (w.heap.size + 1) u0 u1 u2 u3).cell (p := ⟨w.heap.size, 1, none⟩) HX9.out.lt (by simp)).trans s1; have hp2 := fun u0 u1 u2 u3 : Value => ((FoB.box4_chg w6 (w.heap.size + 1) u0 u1 u2 u3).cell (p := ⟨w.heap.size, 2, none⟩) HX9.out.lt (by simp)).trans s2; have hp3 := fun u0 u1 u2 u3 : Value => ((FoB.box4_chg w6 (w.heap.size + 1) u0 u1 u2 u3).cell (p := ⟨w.heap.size, 3, none⟩) HX9.out.lt (by simp)).trans s3; have hq0 := fun u0 u1 u2 u3 : Value => ((FoB.box4_chg w6 (w.heap.size + 1) u0 u1 u2 u3).cell (p := ⟨nb, 0, none⟩) HK9.out.lt (by simpa using hnd2)).trans t0; have hq1 := fun u0 u1 u2 u3 : Value => ((FoB.box4_chg w6 (w.heap.size + 1) u0 u1 u2 u3).cell (p := ⟨nb, 1, none⟩) HK9.out.lt (by simpa using hnd2)).trans t1; have hq2 := fun u0 u1 u2 u3 : Value => ((FoB.box4_chg w6 (w.heap.size + 1) u0 u1 u2 u3).cell (p := ⟨nb, 2, none⟩) HK9.out.lt (by simpa using hnd2)).trans t2; have hq3 := fun u0 u1 u2 u3 : Value => ((FoB.box4_chg w6 (w.heap.size + 1) u0 u1 u2 u3).cell (p := ⟨nb, 3, none⟩) HK9.out.lt (by simpa using hnd2)).trans t3; have hq4 := fun u0 u1 u2 u3 : Value => ((FoB.box4_chg w6 (w.heap.size + 1) u0 u1 u2 u3).cell (p := ⟨nb, 4, none⟩) HK9.out.lt (by simpa using hnd2)).trans t4; have hq5 := fun u0 u1 u2 u3 : Value => ((FoB.box4_chg w6 (w.heap.size + 1) u0 u1 u2 u3).cell (p := ⟨nb, 5, none⟩) HK9.out.lt (by simpa using hnd2)).trans t5; have hq6 := fun u0 u1 u2 u3 : Value => ((FoB.box4_chg w6 (w.heap.size + 1) u0 u1 u2 u3).cell (p := ⟨nb, 6, none⟩) HK9.out.lt (by simpa using hnd2)).trans t6; have hq7 := fun u0 u1 u2 u3 : Value => ((FoB.box4_chg w6 (w.heap.size + 1) u0 u1 u2 u3).cell (p := ⟨nb, 7, none⟩) HK9.out.lt (by simpa using hnd2)).trans t7; have hq8 := fun u0 u1 u2 u3 : Value => ((FoB.box4_chg w6 (w.heap.size + 1) u0 u1 u2 u3).cell (p := ⟨nb, 8, none⟩) HK9.out.lt (by simpa using hnd2)).trans t8; have hq9 := fun u0 u1 u2 u3 : Value => ((FoB.box4_chg w6 (w.heap.size + 1) u0 u1 u2 u3).cell (p := ⟨nb, 9, none⟩) HK9.out.lt (by simpa using hnd2)).trans t9; unfold FoB.box4 at hp0 hp1 hp2 hp3 hq0 hq1 hq2 hq3 hq4 hq5 hq6 hq7 hq8 hq9))
          all_goals
            have hF := FoB.box4_bk HR9.out (.int .i64 z0) (.slice z1a z1n z1c) (.slice z2a z2n z2c) (.slice z3a z3n z3c)
            have hC9 := FoB.box4_chg w6 (w.heap.size + 1) (.int .i64 z0) (.slice z1a z1n z1c) (.slice z2a z2n z2c) (.slice z3a z3n z3c)
            unfold FoB.box4 at hF hC9
            generalize ((((w6.setCell ⟨w.heap.size + 1, 0, none⟩ (.int .i64 z0)).setCell ⟨w.heap.size + 1, 1, none⟩ (.slice z1a z1n z1c)).setCell ⟨w.heap.size + 1, 2, none⟩ (.slice z2a z2n z2c)).setCell ⟨w.heap.size + 1, 3, none⟩ (.slice z3a z3n z3c)) = w9 at hF hC9 ⊢
            go_wp2
            obtain ⟨e0, e1, e2, e3⟩ := Bk.c4 hF
            have hres := FsF.own_chg HO9.out hC9 (fun x hx hh => by rw [List.mem_singleton] at hh; subst hh; exact HNS.out hx)
            refine bodyPost_ret (v := .tuple #[.agg #[.int .i64 z0, .slice z1a z1n z1c, .slice z2a z2n z2c, .slice z3a z3n z3c], .int .i64 0]) (by simp [results, Tryz.results24, go_sem, e0, e1, e2, e3]) rfl ?_
            exact ⟨_, S6, by rw [HVF.out], by rw [HVF.out]; exact hres, HB9.out.trans (FoB.Chg.from hC9 HB9.out.size (Nat.le_succ _))⟩
end Go.Proofs.YtbbnginolidedaaGreatDoor.CoMv
