/- Contract: the program's copyInode gives the same inode, its slices in rows of the call's own. Conditions: the lengths. -/
import Derived.Test.YtafmpllkehbmeaaGreatDoorClN
import Derived.Test.YtafmpllkehbmeaaGreatDoorFoB
import Derived.Deep.RegionLaw
import Derived.Deep.RegionHeld3
namespace Go.Proofs.YtafmpllkehbmeaaGreatDoor.CpI
open Go.ChangeShapes Go.WideShapes Go.ChangeAt Go.RowKit
open Foot Bx
open InoV (I)
open ClN
set_option linter.unusedVariables false

/-- An inode's box, its own slices behind it. -/
def Fin (w : World) (n : I) (W : World) (v0 v1 v2 : Value) : Prop :=
  Below w.heap.size w W ∧ Bk W w.heap.size #[.int .i64 n.kind, .int .i64 n.mode, .int .i64 n.uid, .int .i64 n.gid, .int .i64 n.links, .int .i64 n.size, .int .i64 n.tick, v0, v1, v2] 34 ∧
  Bk W (w.heap.size + 1) #[.int .i64 0, .int .i64 0, .int .i64 0, .int .i64 0, .int .i64 0, .int .i64 0, .int .i64 0, .slice none 0 0, .slice none 0 0, .slice none 0 0] 34 ∧
  W.ownsRow (w.heap.size + 1 + 1) 3 1 v0 n.blocks.length (NiF.cells n.blocks) ∧ AeF.Own W (w.heap.size + 1 + 1) v1 n.acl (fpR v1) ∧ AeF.Own W (w.heap.size + 1 + 1) v2 n.dflt (fpR v2) ∧ (fpR v0 ++ fpR v1 ++ fpR v2).Nodup
theorem fin_mk {w W : World} {n : I} {x7 x8 x9 v0 v1 v2 : Value} (hb : Below w.heap.size w W) (hx : Bk W w.heap.size #[.int .i64 n.kind, .int .i64 n.mode, .int .i64 n.uid, .int .i64 n.gid, .int .i64 n.links, .int .i64 n.size, .int .i64 n.tick, x7, x8, x9] 34)
    (hr : Bk W (w.heap.size + 1) #[.int .i64 0, .int .i64 0, .int .i64 0, .int .i64 0, .int .i64 0, .int .i64 0, .int .i64 0, .slice none 0 0, .slice none 0 0, .slice none 0 0] 34)
    (h0 : W.ownsRow (w.heap.size + 1 + 1) 3 1 v0 n.blocks.length (NiF.cells n.blocks)) (h1 : AeF.Own W (w.heap.size + 1 + 1) v1 n.acl (fpR v1)) (h2 : AeF.Own W (w.heap.size + 1 + 1) v2 n.dflt (fpR v2)) (hnd : (fpR v0 ++ fpR v1 ++ fpR v2).Nodup) :
    Fin w n (((W.setCell ⟨w.heap.size, 7, none⟩ v0).setCell ⟨w.heap.size, 8, none⟩ v1).setCell ⟨w.heap.size, 9, none⟩ v2) v0 v1 v2 := by
  have k1 : Bk _ w.heap.size [_, _, _, _, _, _, _, _, _, _].toArray _ := Bk.put (l := [.int .i64 n.kind, .int .i64 n.mode, .int .i64 n.uid, .int .i64 n.gid, .int .i64 n.links, .int .i64 n.size, .int .i64 n.tick, x7, x8, x9]) hx 7 v0
  have k2 : Bk _ w.heap.size [_, _, _, _, _, _, _, _, _, _].toArray _ := k1.put 8 v1
  have k3 : Bk _ w.heap.size [_, _, _, _, _, _, _, _, _, _].toArray _ := k2.put 9 v2
  have hlt : ∀ i, (⟨w.heap.size, i, none⟩ : Addr).block < w.heap.size + 1 + 1 := fun i => by show w.heap.size < _; omega
  exact ⟨((hb.setCell (p := ⟨w.heap.size, 7, none⟩) (Nat.le_refl _) v0).setCell (p := ⟨w.heap.size, 8, none⟩) (Nat.le_refl _) v1).setCell (p := ⟨w.heap.size, 9, none⟩) (Nat.le_refl _) v2, k3,
    ((hr.far (p := ⟨w.heap.size, 7, none⟩) (by simp) v0).far (p := ⟨w.heap.size, 8, none⟩) (by simp) v1).far (p := ⟨w.heap.size, 9, none⟩) (by simp) v2,
    ownsRow_setCell_below (ownsRow_setCell_below (ownsRow_setCell_below h0 (hlt 7) v0) (hlt 8) v1) (hlt 9) v2, AeF.own_set (AeF.own_set (AeF.own_set h1 (hlt 7) v0) (hlt 8) v1) (hlt 9) v2, AeF.own_set (AeF.own_set (AeF.own_set h2 (hlt 7) v0) (hlt 8) v1) (hlt 9) v2, hnd⟩

set_option maxRecDepth 100000 in
set_option maxHeartbeats 6400000 in
/-- The program's copy of an inode. -/
theorem copyT_impl (w : World) (v : Value) (n : I) (hc : In.cost n ≤ 1073741824) (h : In.Holds w v n) :
    Calls Tryz.prog 77 #[v] w fun e w' => ∃ y0 y1 y2 : Value, e = .returned (.agg #[.int .i64 n.kind, .int .i64 n.mode, .int .i64 n.uid, .int .i64 n.gid, .int .i64 n.links, .int .i64 n.size, .int .i64 n.tick, y0, y1, y2]) ∧ w'.ownsRow w.heap.size 3 1 y0 n.blocks.length (NiF.cells n.blocks) ∧ AeF.Own w' w.heap.size y1 n.acl (fpR y1) ∧ AeF.Own w' w.heap.size y2 n.dflt (fpR y2) ∧ (fpR y0 ++ fpR y1 ++ fpR y2).Nodup ∧ Below w.heap.size w w' := by
  obtain ⟨r0, r1, r2, rfl, g0, g1, g2⟩ := h
  have hb0 := Nat.le_trans (In.le_blocks n) hc
  have hb1 := Nat.le_trans (In.le_acl n) hc
  have hb2 := Nat.le_trans (In.le_dflt n) hc
  have HC0 := Lib.hid hb0
  have HC1 := Lib.hid hb1
  have HC2 := Lib.hid hb2
  have H0 := Lib.hid g0
  have H1 := Lib.hid g1
  have H2 := Lib.hid g2
  obtain ⟨a0, d0, rfl⟩ := NiF.form g0
  obtain ⟨a1, d1, rfl⟩ := AeF.form g1
  obtain ⟨a2, d2, rfl⟩ := AeF.form g2
  clear g0 g1 g2 hb0 hb1 hb2 hc
  obtain ⟨K0, K1, K2, K3, K4, K5, K6, hK⟩ : ∃ K0 K1 K2 K3 K4 K5 K6, K0 = n.kind ∧ K1 = n.mode ∧ K2 = n.uid ∧ K3 = n.gid ∧ K4 = n.links ∧ K5 = n.size ∧ K6 = n.tick := ⟨_, _, _, _, _, _, _, rfl, rfl, rfl, rfl, rfl, rfl, rfl⟩
  have HK := Lib.hid hK
  obtain ⟨k0, k1, k2, k3, k4, k5, k6⟩ := hK
  rw [← k0, ← k1, ← k2, ← k3, ← k4, ← k5, ← k6]
  clear k0 k1 k2 k3 k4 k5 k6
  obtain ⟨L0, hL0⟩ : ∃ L, L = n.blocks.length := ⟨_, rfl⟩
  obtain ⟨L1, hL1⟩ : ∃ L, L = n.acl.length := ⟨_, rfl⟩
  obtain ⟨L2, hL2⟩ : ∃ L, L = n.dflt.length := ⟨_, rfl⟩
  rw [← hL0] at H0 ⊢
  rw [← hL1] at H1 ⊢
  rw [← hL2] at H2 ⊢
  have HL0 := Lib.hid hL0
  have HL1 := Lib.hid hL1
  have HL2 := Lib.hid hL2
  clear hL0 hL1 hL2
  have HB := Lib.hid (((Below.refl w.heap.size w).alloc (Nat.le_refl _) (.cells #[.int .i64 K0, .int .i64 K1, .int .i64 K2, .int .i64 K3, .int .i64 K4, .int .i64 K5, .int .i64 K6, .slice a0 L0 d0, .slice a1 L1 d1, .slice a2 L2 d2] 34)).alloc (by simp) (.cells #[.int .i64 0, .int .i64 0, .int .i64 0, .int .i64 0, .int .i64 0, .int .i64 0, .int .i64 0, .slice none 0 0, .slice none 0 0, .slice none 0 0] 34))
  have HX := Lib.hid ((new w #[.int .i64 K0, .int .i64 K1, .int .i64 K2, .int .i64 K3, .int .i64 K4, .int .i64 K5, .int .i64 K6, .slice a0 L0 d0, .slice a1 L1 d1, .slice a2 L2 d2] 34).alloc (.cells #[.int .i64 0, .int .i64 0, .int .i64 0, .int .i64 0, .int .i64 0, .int .i64 0, .int .i64 0, .slice none 0 0, .slice none 0 0, .slice none 0 0] 34))
  have HR := Lib.hid (new_at (w.alloc (.cells #[.int .i64 K0, .int .i64 K1, .int .i64 K2, .int .i64 K3, .int .i64 K4, .int .i64 K5, .int .i64 K6, .slice a0 L0 d0, .slice a1 L1 d1, .slice a2 L2 d2] 34)) #[.int .i64 0, .int .i64 0, .int .i64 0, .int .i64 0, .int .i64 0, .int .i64 0, .int .i64 0, .slice none 0 0, .slice none 0 0, .slice none 0 0] 34 (w.heap.size + 1) (by simp))
  have HCN := Lib.hid (fun (W : World) (hb : Below w.heap.size w W) => show Calls Tryz.prog 144 #[.slice a0 L0 d0] W fun e w' => ∃ v', e = .returned v' ∧ w'.ownsRow W.heap.size 3 1 v' n.blocks.length (NiF.cells n.blocks) ∧ Below W.heap.size W w' from cloneN_any W _ n.blocks HC0.out (NiF.holds_below H0.out hb))
  have HCA := Lib.hid (fun (W : World) (hb : Below w.heap.size w W) => show Calls Tryz.prog 145 #[.slice a1 L1 d1] W fun e w' => ∃ v', e = .returned v' ∧ AeF.Own w' W.heap.size v' n.acl (fpR v') ∧ Below W.heap.size W w' from cloneA_any W _ n.acl HC1.out (AeF.holds_below H1.out hb))
  have HCD := Lib.hid (fun (W : World) (hb : Below w.heap.size w W) => show Calls Tryz.prog 145 #[.slice a2 L2 d2] W fun e w' => ∃ v', e = .returned v' ∧ AeF.Own w' W.heap.size v' n.dflt (fpR v') ∧ Below W.heap.size W w' from cloneA_any W _ n.dflt HC2.out (AeF.holds_below H2.out hb))
  go_enter Tryz.func77, Tryz.ntmps77
  go_wp2
  generalize hW0 : (w.alloc (.cells #[.int .i64 K0, .int .i64 K1, .int .i64 K2, .int .i64 K3, .int .i64 K4, .int .i64 K5, .int .i64 K6, .slice a0 L0 d0, .slice a1 L1 d1, .slice a2 L2 d2] 34)).alloc (.cells #[.int .i64 0, .int .i64 0, .int .i64 0, .int .i64 0, .int .i64 0, .int .i64 0, .int .i64 0, .slice none 0 0, .slice none 0 0, .slice none 0 0] 34) = w0 at *
  have hsz0 : w0.heap.size = w.heap.size + 1 + 1 := by rw [← hW0]; simp
  have HSZ := Lib.hid hsz0
  have hs0 := Nat.le_of_eq hsz0.symm
  clear hW0 hsz0
  have c7 : w0.cell? ⟨w.heap.size, 7, none⟩ = some (.slice a0 L0 d0) := HX.out.cell 7
  have c8 : w0.cell? ⟨w.heap.size, 8, none⟩ = some (.slice a1 L1 d1) := HX.out.cell 8
  have c9 : w0.cell? ⟨w.heap.size, 9, none⟩ = some (.slice a2 L2 d2) := HX.out.cell 9
  refine Code.wp_mono (Q := NoPanic fun e a W => e = .normal ∧ ∃ (x3 x4 x5 x6 x7 x8 x9 x10 x11 x12 x13 x14 x15 v0 v1 v2 : Value), a = { tmps := #[.agg #[.int .i64 K0, .int .i64 K1, .int .i64 K2, .int .i64 K3, .int .i64 K4, .int .i64 K5, .int .i64 K6, .slice a0 L0 d0, .slice a1 L1 d1, .slice a2 L2 d2], .pointer (some ⟨w.heap.size, 0, none⟩), .pointer (some ⟨w.heap.size + 1, 0, none⟩), x3, x4, x5, x6, x7, x8, x9, x10, x11, x12, x13, x14, x15], defers := [] } ∧ Fin w n W v0 v1 v2) ?mid ?reg
  case mid =>
    rintro e a W hq
    obtain ⟨rfl, x3, x4, x5, x6, x7, x8, x9, x10, x11, x12, x13, x14, x15, v0, v1, v2, rfl, hfin⟩ := NoPanic.imp _ _ _ hq
    clear hq
    obtain ⟨F1, F2, F3, F4, F5, F6, F7⟩ := hfin
    obtain ⟨y0, z0, rfl⟩ := Dk.slice_of F4
    obtain ⟨y1, z1, rfl⟩ := AeF.own_form F5
    obtain ⟨y2, z2, rfl⟩ := AeF.own_form F6
    have HF1 := Lib.hid F1
    have HF4 := Lib.hid F4
    have HF5 := Lib.hid F5
    have HF6 := Lib.hid F6
    have HF7 := Lib.hid F7
    rw [← HL0.out, ← HL1.out, ← HL2.out] at F2 HF7
    rw [← HL0.out] at HF4
    rw [← HL1.out] at HF5
    rw [← HL2.out] at HF6
    have HF3 := Lib.hid F3
    obtain ⟨k0, k1, k2, k3, k4, k5, k6⟩ := HK.out
    rw [← k0, ← k1, ← k2, ← k3, ← k4, ← k5, ← k6] at F2
    clear F1 F4 F5 F6 F7 k0 k1 k2 k3 k4 k5 k6
    obtain ⟨c0, c1, c2, c3, c4, c5, c6, c7, c8, c9⟩ := Bk.c10 F2
    obtain ⟨r0, r1, r2, r3, r4, r5, r6, r7, r8, r9⟩ := Bk.c10 F3
    have f0 := F3.free 0
    have f1 := F3.free 1
    have f2 := F3.free 2
    have f3 := F3.free 3
    have f4 := F3.free 4
    have f5 := F3.free 5
    have f6 := F3.free 6
    have f7 := F3.free 7
    have f8 := F3.free 8
    have f9 := F3.free 9
    clear F2 F3
    go_wp2
    have hF := FoB.box10_bk HF3.out (.int .i64 K0) (.int .i64 K1) (.int .i64 K2) (.int .i64 K3) (.int .i64 K4) (.int .i64 K5) (.int .i64 K6) (.slice y0 L0 z0) (.slice y1 L1 z1) (.slice y2 L2 z2)
    have hC := FoB.box10_chg W (w.heap.size + 1) (.int .i64 K0) (.int .i64 K1) (.int .i64 K2) (.int .i64 K3) (.int .i64 K4) (.int .i64 K5) (.int .i64 K6) (.slice y0 L0 z0) (.slice y1 L1 z1) (.slice y2 L2 z2)
    unfold FoB.box10 at hF hC
    generalize ((((((((((W.setCell ⟨w.heap.size + 1, 0, none⟩ (.int .i64 K0)).setCell ⟨w.heap.size + 1, 1, none⟩ (.int .i64 K1)).setCell ⟨w.heap.size + 1, 2, none⟩ (.int .i64 K2)).setCell ⟨w.heap.size + 1, 3, none⟩ (.int .i64 K3)).setCell ⟨w.heap.size + 1, 4, none⟩ (.int .i64 K4)).setCell ⟨w.heap.size + 1, 5, none⟩ (.int .i64 K5)).setCell ⟨w.heap.size + 1, 6, none⟩ (.int .i64 K6)).setCell ⟨w.heap.size + 1, 7, none⟩ (.slice y0 L0 z0)).setCell ⟨w.heap.size + 1, 8, none⟩ (.slice y1 L1 z1)).setCell ⟨w.heap.size + 1, 9, none⟩ (.slice y2 L2 z2)) = w9 at hF hC ⊢
    obtain ⟨e0, e1, e2, e3, e4, e5, e6, e7, e8, e9⟩ := Bk.c10 hF
    have hnd := HF7.out
    have hout : ∀ k ∈ fpR (.slice y0 L0 z0) ++ fpR (.slice y1 L1 z1) ++ fpR (.slice y2 L2 z2), w.heap.size + 1 + 1 ≤ k := fun k hk => by
      rcases List.mem_append.1 hk with hk | hk
      · rcases List.mem_append.1 hk with hk | hk
        · exact (row_lies HF4.out k hk).1
        · exact (AeF.own_lies HF5.out k hk).1
      · exact (AeF.own_lies HF6.out k hk).1
    have hap : ∀ S : List Nat, (∀ k ∈ S, k ∈ fpR (.slice y0 L0 z0) ++ fpR (.slice y1 L1 z1) ++ fpR (.slice y2 L2 z2)) → Apart S [w.heap.size + 1] := fun S hs k hk hh => by
      have := hout k (hs k hk)
      rw [List.mem_singleton] at hh; omega
    have o0 := row_mono (row_chg HF4.out hC (hap _ (fun k hk => by simp [hk]))) (show w.heap.size ≤ w.heap.size + 1 + 1 by omega)
    have o1 := AeF.own_mono (AeF.own_chg HF5.out hC (hap _ (fun k hk => by simp [hk]))) (show w.heap.size ≤ w.heap.size + 1 + 1 by omega)
    have o2 := AeF.own_mono (AeF.own_chg HF6.out hC (hap _ (fun k hk => by simp [hk]))) (show w.heap.size ≤ w.heap.size + 1 + 1 by omega)
    have hbel := HF1.out.trans (FoB.Chg.from hC HF1.out.size (by omega))
    obtain ⟨k0, k1, k2, k3, k4, k5, k6⟩ := HK.out
    refine bodyPost_ret (v := .agg #[.int .i64 K0, .int .i64 K1, .int .i64 K2, .int .i64 K3, .int .i64 K4, .int .i64 K5, .int .i64 K6, .slice y0 L0 z0, .slice y1 L1 z1, .slice y2 L2 z2]) (by simp [results, Tryz.results77, go_sem, e0, e1, e2, e3, e4, e5, e6, e7, e8, e9]) rfl ⟨_, _, _, by rw [k0, k1, k2, k3, k4, k5, k6], o0, o1, o2, hnd, hbel⟩
  case reg =>
    go_region_law (first
        | (go_simp; go_at_call 144; ((with_reducible refine (HCN.out _ ?_).mono ?_)); (exact HB.out.drew); rintro e w1 ⟨v0, rfl, hown0, hb1⟩; obtain ⟨va0, vc0, rfl⟩ := Dk.slice_of hown0; have HO1 := Lib.hid hown0; have HS1 := Lib.hid hb1.size; have HB1 := Lib.hid (HB.out.drew.trans (hb1.mono HB.out.drew.size)); have HX1 := Lib.hid (Bk.all (Bk.drew HX.out) hb1); have HR1 := Lib.hid (Bk.all (Bk.drew HR.out) hb1); clear hown0 hb1; have c8 : w1.cell? ⟨w.heap.size, 8, none⟩ = some (.slice a1 L1 d1) := (HX1.out.cell 8); have c9 : w1.cell? ⟨w.heap.size, 9, none⟩ = some (.slice a2 L2 d2) := (HX1.out.cell 9))
        | (go_simp; go_at_call 145; ((with_reducible refine (HCA.out _ ?_).mono ?_)); (exact HB1.out); rintro e w2 ⟨v1, rfl, hown1, hb2⟩; obtain ⟨va1, vc1, rfl⟩ := AeF.own_form hown1; have HO2 := Lib.hid hown1; have HS2 := Lib.hid hb2.size; have HO1b := Lib.hid (row_below HO1.out hb2); have HB2 := Lib.hid (HB1.out.trans (hb2.mono HB1.out.size)); have HX2 := Lib.hid (HX1.out.all hb2); have HR2 := Lib.hid (HR1.out.all hb2); clear hown1 hb2; have c9 : w2.cell? ⟨w.heap.size, 9, none⟩ = some (.slice a2 L2 d2) := (HX2.out.cell 9))
        | (go_simp; go_at_call 145; ((with_reducible refine (HCD.out _ ?_).mono ?_)); (exact HB2.out); rintro e w3 ⟨v2, rfl, hown2, hb3⟩; obtain ⟨va2, vc2, rfl⟩ := AeF.own_form hown2; have HO3 := Lib.hid hown2; have HS3 := Lib.hid hb3.size; have HO1c := Lib.hid (row_below HO1b.out hb3); have HO2b := Lib.hid (AeF.own_below HO2.out hb3); have HB3 := Lib.hid (HB2.out.trans (hb3.mono HB2.out.size)); have HX3 := Lib.hid (HX2.out.all hb3); have HR3 := Lib.hid (HR2.out.all hb3); clear hown2 hb3; have c7 : w3.cell? ⟨w.heap.size, 7, none⟩ = some (.slice a0 L0 d0) := (HX3.out.cell 7); have c8 : w3.cell? ⟨w.heap.size, 8, none⟩ = some (.slice a1 L1 d1) := (HX3.out.cell 8); have c9 : w3.cell? ⟨w.heap.size, 9, none⟩ = some (.slice a2 L2 d2) := (HX3.out.cell 9); have f7 := HX3.out.free 7; have f8 := HX3.out.free 8; have f9 := HX3.out.free 9))
    all_goals
      refine NoPanic.normal ⟨rfl, _, _, _, _, _, _, _, _, _, _, _, _, _, .slice va0 n.blocks.length vc0, .slice va1 n.acl.length vc1, .slice va2 n.dflt.length vc2, rfl, ?_⟩
      obtain ⟨rfl, rfl, rfl, rfl, rfl, rfl, rfl⟩ := HK.out
      have s1 : w0.heap.size ≤ w1.heap.size := HS1.out
      have s2 := HS2.out
      exact fin_mk HB3.out HX3.out HR3.out (row_mono HO1c.out hs0) (AeF.own_mono HO2b.out (by omega)) (AeF.own_mono HO3.out (by omega)) (nodup_app (nodup_app (fpR_nodup _) (fpR_nodup _) (Lies.apart (row_lies HO1.out) (AeF.own_lies HO2.out) (Nat.le_refl _))) (fpR_nodup _) (apart_app.2 ⟨Lies.apart (row_lies HO1.out) (AeF.own_lies HO3.out) s2, Lies.apart (AeF.own_lies HO2.out) (AeF.own_lies HO3.out) (Nat.le_refl _)⟩))

theorem copyI_impl (w : World) (v : Value) (n : I) (hc : In.cost n ≤ 1073741824) (h : In.Holds w v n) :
    Calls Tryz.prog 77 #[v] w fun e w' => ∃ v' S, e = .returned v' ∧ In.Own w' w.heap.size v' n S ∧ Below w.heap.size w w' :=
  (copyT_impl w v n hc h).mono fun e w' ⟨y0, y1, y2, he, h0, h1, h2, h3, h4⟩ => ⟨_, _, he, ⟨_, _, _, _, _, _, rfl, rfl, h3, NiF.own_of h0, h1, h2⟩, h4⟩
end Go.Proofs.YtafmpllkehbmeaaGreatDoor.CpI
