/- Helper texts joined, one behind another (a claim has at most 60 files): what each proves, its own head says: YtbbnginolidedaaGreatDoorSpWr, YtbbnginolidedaaGreatDoorSpWe. -/
import Derived.Test.YtbbnginolidedaaGreatDoorFsBaseG
import Derived.Test.YtbbnginolidedaaGreatDoorIsName
import Derived.Deep.RegionLaw
import Derived.Deep.RegionHeld3
import Derived.Deep.Cut
import Derived.Test.YtbbnginolidedaaGreatDoorFsBaseE

-- YtbbnginolidedaaGreatDoorSpWr
/- Contract: the model's l09Write writes into an inode in use, block by block. Conditions: the cost, the inode is in use, the string's size. -/
namespace Go.Proofs.YtbbnginolidedaaGreatDoor.SpWr
open Go.ChangeShapes Go.WideShapes Go.ChangeAt Go.RowKit
open Foot Bx
open InoV (I okI usedV needV hasB)
open FsV (F okF e0 z32 usersB allB Half pick useB)
open FsY FsZ FoB FsWm SpWp
open SpSz (Far Grw grw_app grw_row grw_fin)
open CoR (mid mid_set mid_skip mid_len mid_zero mid_at)
set_option linter.unusedVariables false

theorem grw_below {w W W' : World} {lo b nb B : Nat} {f : F} {n : I} {q : Value} {gi ci gd cd : Nat} {S : List Nat} {a0 : Option Addr} {c0 : Nat} {y1 y2 : Value} {X m : Nat} {d : List ByteArray} {jj : Nat} {a : Option Addr} {c : Nat} (h : Grw w lo b nb B f n q gi ci gd cd S a0 c0 y1 y2 X m d jj a c W) (hb : Below W.heap.size W W') : Grw w lo b nb B f n q gi ci gd cd S a0 c0 y1 y2 X m d jj a c W' := by
  obtain ⟨h1, h2, h3, h4, h5, h6, h7, h8⟩ := h
  exact ⟨h1.below hb, h2.all hb, fun hh => ⟨(h3 hh).1, row_below (h3 hh).2 hb⟩, fun hh => ⟨(h4 hh).1, (h4 hh).2.1, (h4 hh).2.2.1, (h4 hh).2.2.2.1, (h4 hh).2.2.2.2.1, row_below (h4 hh).2.2.2.2.2 hb⟩, AeF.own_below h5 hb, AeF.own_below h6 hb, h7.all hb, h8.trans (hb.mono h8.size)⟩
/-- The row when all holes are there. -/
theorem grw_full {w W : World} {lo b nb B : Nat} {f : F} {n : I} {q : Value} {gi ci gd cd : Nat} {S : List Nat} {a0 : Option Addr} {c0 : Nat} {y1 y2 : Value} {m : Nat} {d : List ByteArray} {jj : Nat} {a : Option Addr} {c : Nat} (h : Grw w lo b nb B f n q gi ci gd cd S a0 c0 y1 y2 n.blocks.length m d jj a c W) (hj : n.blocks.length + jj = m) : W.ownsRow B 3 1 (.slice a m c) m (NiF.cells (holes n.blocks m)) := by
  obtain ⟨_, _, h3, h4, _⟩ := h
  have e1 := CoW.grown_holes (l := n.blocks) (m := m) (j := jj) (by omega)
  rw [List.take_of_length_le (by rw [CoW.grown_len]; omega)] at e1
  by_cases hX : n.blocks.length < m
  · have := (h3 hX).2
    rw [hj, e1] at this
    exact this
  · obtain ⟨hx, _, rfl, rfl, rfl, hr⟩ := h4 (by omega)
    rw [CoW.grown_zero] at e1
    rw [← e1, ← hx]
    exact hr

set_option maxRecDepth 100000 in
set_option maxHeartbeats 12800000 in
theorem lwrite_spec (w : World) (v : Value) (f : F) (k : Nat) (a : Int) (s : ByteArray) (hc : FsF.cost f ≤ 1073741824) (hob : hasObjB f k = true) (hs : s.size ≤ 1073741824) (h : FsF.Holds w v f) :
    Calls Tryz.prog 80 #[v, .int .i64 k, .int .i64 a, .string s] w fun e w' => ∃ v' S, e = .returned (.tuple #[v', .int .i64 (writeV f k a s).2]) ∧ FsF.Own w' w.heap.size v' (writeV f k a s).1 S ∧ Below w.heap.size w w' := by
  have HFS := Lib.hid h
  have HCC := Lib.hid hc
  have HOB := Lib.hid hob
  have g := (FsOk.has_kind hob).1
  have HG := Lib.hid g
  have hk20 : k < 20 := g.lt
  obtain ⟨r0, r1, r2, rfl, g0, g1, g2⟩ := h
  have HIL := Lib.hid (show f.inodes.length = 20 from (FsV.parts_of (FsV.ok_parts g.ok).2.1).2.1)
  have HDL := Lib.hid g.dlen
  obtain ⟨qa, qc, rfl⟩ := QF.form g0
  obtain ⟨ia, ic, rfl⟩ := IF.form g1
  obtain ⟨da, dc, rfl⟩ := SF.form g2
  clear g0 g1 g2 hc hob
  have HCA := Lib.hid (fun (W : World) (hw : Below w.heap.size w W) => show Calls Tryz.prog 79 #[.agg #[.int .i64 f.tick, .slice qa f.quotas.length qc, .slice ia f.inodes.length ic, .slice da f.data.length dc]] W fun e w' => ∃ v' S, e = .returned v' ∧ FsF.Own w' W.heap.size v' f S ∧ Below W.heap.size W w' from CoS.copy_spec W _ f HCC.out (FsF.holds_below HFS.out hw))
  have HCX := Lib.hid (show In.cost (ino f k) ≤ 1073741824 from Nat.le_trans (IF.cost_mem g.mem) (Nat.le_trans (Nat.le_trans (Nat.le_add_left _ _) (FsF.le_inodes f)) HCC.out))
  obtain ⟨T, hT⟩ : ∃ T, T = f.tick := ⟨_, rfl⟩
  obtain ⟨Q, hQ⟩ : ∃ Q, Q = f.quotas.length := ⟨_, rfl⟩
  obtain ⟨M0, hM⟩ : ∃ M, M = f.inodes.length := ⟨_, rfl⟩
  obtain ⟨D, hD⟩ : ∃ D, D = f.data.length := ⟨_, rfl⟩
  rw [← hT, ← hQ, ← hM, ← hD] at HFS HCA ⊢
  clear hT hQ hM hD g
  have HB0 := Lib.hid (((Below.refl w.heap.size w).alloc (Nat.le_refl _) (.cells #[.int .i64 T, .slice qa Q qc, .slice ia M0 ic, .slice da D dc] 27)).alloc (by simp) (.cells #[.int .i64 0, .slice none 0 0, .slice none 0 0, .slice none 0 0] 27))
  have HX0 := Lib.hid ((new w #[.int .i64 T, .slice qa Q qc, .slice ia M0 ic, .slice da D dc] 27).alloc (.cells #[.int .i64 0, .slice none 0 0, .slice none 0 0, .slice none 0 0] 27))
  have HR0 := Lib.hid (new_at (w.alloc (.cells #[.int .i64 T, .slice qa Q qc, .slice ia M0 ic, .slice da D dc] 27)) #[.int .i64 0, .slice none 0 0, .slice none 0 0, .slice none 0 0] 27 (w.heap.size + 1) (by simp))
  have HS0 := Lib.hid (show w.heap.size + 1 + 1 ≤ ((w.alloc (.cells #[.int .i64 T, .slice qa Q qc, .slice ia M0 ic, .slice da D dc] 27)).alloc (.cells #[.int .i64 0, .slice none 0 0, .slice none 0 0, .slice none 0 0] 27)).heap.size by simp)
  obtain ⟨x0, x1, x2, x3⟩ := Bk.c4 HX0.out
  by_cases ha : 0 ≤ a
  rotate_left
  · have HVV := Lib.hid (show writeV f k a s = (f, 1) from by unfold writeV; rw [HOB.out, decide_eq_false ha]; rfl)
    have q0 : decide (a < 0) = true := decide_eq_true (by omega)
    clear ha x0 x1 x2 x3
    go_enter Tryz.func80, Tryz.ntmps80
    go_wp2_with fail
    refine (HCA.out _ HB0.out).mono ?_
    rintro e w2 ⟨y, S, rfl, hown, hb⟩
    obtain ⟨z0, z1a, z1n, z1c, z2a, z2n, z2c, z3a, z3n, z3c, rfl⟩ := FsF.own_form hown
    have HBq := Lib.hid (HB0.out.trans (hb.mono HB0.out.size))
    have HRq := Lib.hid (HR0.out.all hb)
    have HNS := Lib.hid (show w.heap.size + 1 ∉ S from fun hh => by have h1 := (FsF.own_lies hown _ hh).1; have h2 := HS0.out; omega)
    have HOW := Lib.hid (FsF.own_mono hown HB0.out.size)
    clear hb hown
    obtain ⟨r0, r1, r2, r3⟩ := Bk.c4 HRq.out
    have f0 := HRq.out.free 0
    have f1 := HRq.out.free 1
    have f2 := HRq.out.free 2
    have f3 := HRq.out.free 3
    go_wp2
    have hF := FoB.box4_bk HRq.out (.int .i64 z0) (.slice z1a z1n z1c) (.slice z2a z2n z2c) (.slice z3a z3n z3c)
    have hC9 := FoB.box4_chg w2 (w.heap.size + 1) (.int .i64 z0) (.slice z1a z1n z1c) (.slice z2a z2n z2c) (.slice z3a z3n z3c)
    unfold FoB.box4 at hF hC9
    generalize ((((w2.setCell ⟨w.heap.size + 1, 0, none⟩ (.int .i64 z0)).setCell ⟨w.heap.size + 1, 1, none⟩ (.slice z1a z1n z1c)).setCell ⟨w.heap.size + 1, 2, none⟩ (.slice z2a z2n z2c)).setCell ⟨w.heap.size + 1, 3, none⟩ (.slice z3a z3n z3c)) = w9 at hF hC9 ⊢
    obtain ⟨e0, e1, e2, e3⟩ := Bk.c4 hF
    have hres := FsF.own_mono (FsF.own_chg HOW.out hC9 (fun x hx hh => by rw [List.mem_singleton] at hh; subst hh; exact HNS.out hx)) (show w.heap.size ≤ w.heap.size from Nat.le_refl _)
    refine bodyPost_ret (v := .tuple #[.agg #[.int .i64 z0, .slice z1a z1n z1c, .slice z2a z2n z2c, .slice z3a z3n z3c], .int .i64 1]) (by simp [results, Tryz.results80, go_sem, e0, e1, e2, e3]) rfl ?_
    exact ⟨_, S, by rw [HVV.out], by rw [HVV.out]; exact hres, HBq.out.trans (FoB.Chg.from hC9 HBq.out.size (Nat.le_succ _))⟩
  · have q0 : decide (a < 0) = false := decide_eq_false (by omega)
    by_cases hm : 256 - (s.size : Int) < a
    · have HVV := Lib.hid (show writeV f k a s = (f, 9) from by unfold writeV; rw [HOB.out, decide_eq_true ha]; exact if_pos hm)
      have q1 : decide (256 - (s.size : Int) < a) = true := decide_eq_true hm
      clear ha hm x0 x1 x2 x3
      go_enter Tryz.func80, Tryz.ntmps80
      go_wp2_with fail
      refine (HCA.out _ HB0.out).mono ?_
      rintro e w2 ⟨y, S, rfl, hown, hb⟩
      obtain ⟨z0, z1a, z1n, z1c, z2a, z2n, z2c, z3a, z3n, z3c, rfl⟩ := FsF.own_form hown
      have HBq := Lib.hid (HB0.out.trans (hb.mono HB0.out.size))
      have HRq := Lib.hid (HR0.out.all hb)
      have HNS := Lib.hid (show w.heap.size + 1 ∉ S from fun hh => by have h1 := (FsF.own_lies hown _ hh).1; have h2 := HS0.out; omega)
      have HOW := Lib.hid (FsF.own_mono hown HB0.out.size)
      clear hb hown
      obtain ⟨r0, r1, r2, r3⟩ := Bk.c4 HRq.out
      have f0 := HRq.out.free 0
      have f1 := HRq.out.free 1
      have f2 := HRq.out.free 2
      have f3 := HRq.out.free 3
      go_wp2
      have hF := FoB.box4_bk HRq.out (.int .i64 z0) (.slice z1a z1n z1c) (.slice z2a z2n z2c) (.slice z3a z3n z3c)
      have hC9 := FoB.box4_chg w2 (w.heap.size + 1) (.int .i64 z0) (.slice z1a z1n z1c) (.slice z2a z2n z2c) (.slice z3a z3n z3c)
      unfold FoB.box4 at hF hC9
      generalize ((((w2.setCell ⟨w.heap.size + 1, 0, none⟩ (.int .i64 z0)).setCell ⟨w.heap.size + 1, 1, none⟩ (.slice z1a z1n z1c)).setCell ⟨w.heap.size + 1, 2, none⟩ (.slice z2a z2n z2c)).setCell ⟨w.heap.size + 1, 3, none⟩ (.slice z3a z3n z3c)) = w9 at hF hC9 ⊢
      obtain ⟨e0, e1, e2, e3⟩ := Bk.c4 hF
      have hres := FsF.own_mono (FsF.own_chg HOW.out hC9 (fun x hx hh => by rw [List.mem_singleton] at hh; subst hh; exact HNS.out hx)) (show w.heap.size ≤ w.heap.size from Nat.le_refl _)
      refine bodyPost_ret (v := .tuple #[.agg #[.int .i64 z0, .slice z1a z1n z1c, .slice z2a z2n z2c, .slice z3a z3n z3c], .int .i64 9]) (by simp [results, Tryz.results80, go_sem, e0, e1, e2, e3]) rfl ?_
      exact ⟨_, S, by rw [HVV.out], by rw [HVV.out]; exact hres, HBq.out.trans (FoB.Chg.from hC9 HBq.out.size (Nat.le_succ _))⟩
    · have q1 : decide (256 - (s.size : Int) < a) = false := decide_eq_false hm
      clear x0 x1 x2 x3
      by_cases h0 : s.size = 0
      · have HVV := Lib.hid (show writeV f k a s = (f, 0) from by unfold writeV; rw [HOB.out, decide_eq_true ha]; exact (if_neg hm).trans (if_pos h0))
        have e1 := IsName.emp_true s h0
        have e2 : s.toList = [] := List.isEmpty_iff.1 e1
        clear ha hm h0
        go_enter Tryz.func80, Tryz.ntmps80
        go_wp2_with fail
        refine (HCA.out _ HB0.out).mono ?_
        rintro e w1 ⟨y, S, rfl, hown, hb⟩
        obtain ⟨z0, z1a, z1n, z1c, z2a, z2n, z2c, z3a, z3n, z3c, rfl⟩ := FsF.own_form hown
        have HBq := Lib.hid ((HB0.out.trans (hb.mono HB0.out.size)).alloc (Nat.le_trans HB0.out.size hb.size) (.cells #[.int .i64 z0, .slice z1a z1n z1c, .slice z2a z2n z2c, .slice z3a z3n z3c] 27))
        have HRq := Lib.hid ((HR0.out.all hb).alloc (.cells #[.int .i64 z0, .slice z1a z1n z1c, .slice z2a z2n z2c, .slice z3a z3n z3c] 27))
        have HNS := Lib.hid (show w.heap.size + 1 ∉ S from fun hh => by have h1 := (FsF.own_lies hown _ hh).1; have h2 := HS0.out; omega)
        have HOW := Lib.hid (FsF.own_below (FsF.own_mono hown HB0.out.size) ((Below.refl _ _).alloc (Nat.le_refl _) (.cells #[.int .i64 z0, .slice z1a z1n z1c, .slice z2a z2n z2c, .slice z3a z3n z3c] 27)))
        have HXq := Lib.hid (new w1 #[.int .i64 z0, .slice z1a z1n z1c, .slice z2a z2n z2c, .slice z3a z3n z3c] 27)
        clear hb hown
        go_upto_region 7 with (fail)
        generalize w1.alloc (.cells #[.int .i64 z0, .slice z1a z1n z1c, .slice z2a z2n z2c, .slice z3a z3n z3c] 27) = wa at *
        obtain ⟨x0, x1, x2, x3⟩ := Bk.c4 HXq.out
        obtain ⟨r0, r1, r2, r3⟩ := Bk.c4 HRq.out
        have f0 := HRq.out.free 0
        have f1 := HRq.out.free 1
        have f2 := HRq.out.free 2
        have f3 := HRq.out.free 3
        go_wp2
        have hF := FoB.box4_bk HRq.out (.int .i64 z0) (.slice z1a z1n z1c) (.slice z2a z2n z2c) (.slice z3a z3n z3c)
        have hC9 := FoB.box4_chg wa (w.heap.size + 1) (.int .i64 z0) (.slice z1a z1n z1c) (.slice z2a z2n z2c) (.slice z3a z3n z3c)
        unfold FoB.box4 at hF hC9
        generalize ((((wa.setCell ⟨w.heap.size + 1, 0, none⟩ (.int .i64 z0)).setCell ⟨w.heap.size + 1, 1, none⟩ (.slice z1a z1n z1c)).setCell ⟨w.heap.size + 1, 2, none⟩ (.slice z2a z2n z2c)).setCell ⟨w.heap.size + 1, 3, none⟩ (.slice z3a z3n z3c)) = w9 at hF hC9 ⊢
        obtain ⟨e0, e1, e2, e3⟩ := Bk.c4 hF
        have hres := FsF.own_mono (FsF.own_chg HOW.out hC9 (fun x hx hh => by rw [List.mem_singleton] at hh; subst hh; exact HNS.out hx)) (show w.heap.size ≤ w.heap.size from Nat.le_refl _)
        refine bodyPost_ret (v := .tuple #[.agg #[.int .i64 z0, .slice z1a z1n z1c, .slice z2a z2n z2c, .slice z3a z3n z3c], .int .i64 0]) (by simp [results, Tryz.results80, go_sem, e0, e1, e2, e3]) rfl ?_
        exact ⟨_, S, by rw [HVV.out], by rw [HVV.out]; exact hres, HBq.out.trans (FoB.Chg.from hC9 HBq.out.size (Nat.le_succ _))⟩
      · skip
        have e1 := IsName.emp_false s h0
        have e2 : (!s.toList.isEmpty) = true := by rw [e1]; rfl
        obtain ⟨an, rfl⟩ : ∃ an : Nat, a = an := ⟨a.toNat, by omega⟩
        obtain ⟨l, hl⟩ : ∃ l, l = s.size := ⟨_, rfl⟩
        have hl0 : 0 < l := by omega
        have hal : an + l ≤ 256 := by omega
        obtain ⟨n, hn⟩ : ∃ n, n = ino f k := ⟨_, rfl⟩
        have HVV := Lib.hid (show writeV f k an s = if (wrR f n an l).2 = 0 then (withV f k { wrI n an l with blocks := wrB f n an l } (splice (content f.data n.blocks) an s.data.toList), 0) else (f, (wrR f n an l).2) from by
          unfold writeV
          rw [HOB.out, decide_eq_true ha, hn, hl]
          exact (if_neg hm).trans (if_neg h0))
        have HN := Lib.hid hn
        have HL := Lib.hid hl
        have hlS : s.size = l := hl.symm
        have HST := Lib.hid (show s.data.toList.length = l by rw [hl]; simp)
        clear ha hm h0 hn hl
        rw [hlS] at q1
        go_enter Tryz.func80, Tryz.ntmps80
        go_wp2_with fail
        have HLS := Lib.hid hlS
        generalize (w.alloc (.cells #[.int .i64 T, .slice qa Q qc, .slice ia M0 ic, .slice da D dc] 27)).alloc (.cells #[.int .i64 0, .slice none 0 0, .slice none 0 0, .slice none 0 0] 27) = w0 at *
        refine (HCA.out _ HB0.out).mono ?_
        rintro e w1 ⟨y, S, rfl, hown, hb⟩
        obtain ⟨qa', ql', qc', gi, ci, gd, cd, rfl, rfl⟩ := own_open hown HIL.out HDL.out
        have hsl : ∀ x ∈ S, w0.heap.size ≤ x ∧ x < w1.heap.size := FsF.own_lies hown
        have HFO := Lib.hid (show FO (w1.alloc (.cells #[.int .i64 f.tick, .slice qa' f.quotas.length qc', .slice (some ⟨gi, 0, none⟩) 20 ci, .slice (some ⟨gd, 0, none⟩) 56 cd] 27)) w0.heap.size w1.heap.size f (.slice qa' f.quotas.length qc') gi ci gd cd S from ⟨new _ _ _, fun hh => by have := (hsl _ hh).2; omega, FsF.own_below hown ((Below.refl _ _).alloc (Nat.le_refl _) _), HIL.out, HDL.out⟩)
        have HR1 := Lib.hid ((HR0.out.all hb).alloc (.cells #[.int .i64 f.tick, .slice qa' f.quotas.length qc', .slice (some ⟨gi, 0, none⟩) 20 ci, .slice (some ⟨gd, 0, none⟩) 56 cd] 27))
        have HB1 := Lib.hid ((HB0.out.trans (hb.mono HB0.out.size)).alloc (Nat.le_trans HB0.out.size hb.size) (.cells #[.int .i64 f.tick, .slice qa' f.quotas.length qc', .slice (some ⟨gi, 0, none⟩) 20 ci, .slice (some ⟨gd, 0, none⟩) 56 cd] 27))
        have HS1 := Lib.hid hb.size
        have HX1 := Lib.hid ((HX0.out.all hb).alloc (.cells #[.int .i64 f.tick, .slice qa' f.quotas.length qc', .slice (some ⟨gi, 0, none⟩) 20 ci, .slice (some ⟨gd, 0, none⟩) 56 cd] 27))
        have HSL := Lib.hid hsl
        clear hb hown hsl
        go_upto_region 8 with (fail)
        have HBW := Lib.hid ((Below.refl w1.heap.size w1).alloc (Nat.le_refl _) (.cells #[.int .i64 f.tick, .slice qa' f.quotas.length qc', .slice (some ⟨gi, 0, none⟩) 20 ci, .slice (some ⟨gd, 0, none⟩) 56 cd] 27))
        have HBN := Lib.hid (show w1.heap.size < (w1.alloc (.cells #[.int .i64 f.tick, .slice qa' f.quotas.length qc', .slice (some ⟨gi, 0, none⟩) 20 ci, .slice (some ⟨gd, 0, none⟩) 56 cd] 27)).heap.size by simp)
        generalize w1.alloc (.cells #[.int .i64 f.tick, .slice qa' f.quotas.length qc', .slice (some ⟨gi, 0, none⟩) 20 ci, .slice (some ⟨gd, 0, none⟩) 56 cd] 27) = wa at *
        obtain ⟨rr0, rr1, rr2, hCl, hPt⟩ := HFO.out.icell hk20
        rw [← HN.out] at HCX hCl hPt
        obtain ⟨p0, p1, p2⟩ := id hPt
        obtain ⟨a0, d0, rfl⟩ := NiF.form p0
        obtain ⟨a1, d1, rfl⟩ := AeF.form p1
        obtain ⟨a2, d2, rfl⟩ := AeF.form p2
        have HP := Lib.hid (IF.parts_holds hPt)
        obtain ⟨m0, m1, m2, m3, m4, m5, m6, m7, m8, m9⟩ := hCl
        obtain ⟨x0, x1, x2, x3⟩ := HFO.out.cells
        clear x0 x1 x3 p0 p1 p2 hPt
        have hi0 : (0 : Int) ≤ k := by omega
        have hi1 : (k : Int) < 20 := by omega
        go_wp2_with fail
        clear m0 m1 m2 m3 m4 m5 m6 m7 m8 m9 x2
        refine (ClS.inode_row _ _ n HCX.out HP.out).mono ?_
        rintro e w2 ⟨a', c', b1, e1, b2, e2, rfl, hrow, ho1, ho2, hnd, hb⟩
        have HF2 := Lib.hid (HFO.out.below hb)
        have HR2 := Lib.hid (HR1.out.all hb)
        have HX2 := Lib.hid (HX1.out.all hb)
        have HB2 := Lib.hid (HB1.out.trans (hb.mono HB1.out.size))
        have HS2 := Lib.hid hb.size
        have HRW := Lib.hid hrow
        have HA1 := Lib.hid ho1
        have HA2 := Lib.hid ho2
        have HFA := Lib.hid (show Far w w1.heap.size w2.heap.size gd S (fpR (.slice a' n.blocks.length c') ++ fpR (.slice b1 n.acl.length e1) ++ fpR (.slice b2 n.dflt.length e2)) from by
          have hw : w1.heap.size < wa.heap.size := HBN.out
          have hs := hb.size
          refine ⟨fun k hk => ⟨by have := (HSL.out k hk).1; have := HS0.out; omega, (HSL.out k hk).2⟩, by omega, fun k hk => ?_, HFO.out.gd_mem⟩
          rcases List.mem_append.1 hk with hk | hk
          · rcases List.mem_append.1 hk with hk | hk
            · have := row_lies hrow k hk; omega
            · have := AeF.own_lies ho1 k hk; omega
          · have := AeF.own_lies ho2 k hk; omega)
        have HY := Lib.hid (show Apart (fpR (.slice b1 n.acl.length e1)) (fpR (.slice b2 n.dflt.length e2)) from fun k hk hh => (nodup_parts hnd).2.2 k (List.mem_append.2 (.inr hk)) hh)
        clear hb hrow ho1 ho2 hnd
        go_upto_region 9 with (fail)
        have hbw : Below w2.heap.size w2 (w2.alloc (.cells #[.int .i64 n.kind, .int .i64 n.mode, .int .i64 n.uid, .int .i64 n.gid, .int .i64 n.links, .int .i64 n.size, .int .i64 n.tick, .slice a' n.blocks.length c', .slice b1 n.acl.length e1, .slice b2 n.dflt.length e2] 34)) := (Below.refl w2.heap.size w2).alloc (Nat.le_refl _) _
        have HF3 := Lib.hid (HF2.out.below hbw)
        have HK3 := Lib.hid (new w2 #[.int .i64 n.kind, .int .i64 n.mode, .int .i64 n.uid, .int .i64 n.gid, .int .i64 n.links, .int .i64 n.size, .int .i64 n.tick, .slice a' n.blocks.length c', .slice b1 n.acl.length e1, .slice b2 n.dflt.length e2] 34)
        have HW3 := Lib.hid (row_below HRW.out hbw)
        have HA13 := Lib.hid (AeF.own_below HA1.out hbw)
        have HA23 := Lib.hid (AeF.own_below HA2.out hbw)
        have HR3 := Lib.hid (HR2.out.all hbw)
        have HX3 := Lib.hid (HX2.out.all hbw)
        have HB3 := Lib.hid (HB2.out.trans (hbw.mono HB2.out.size))
        clear hbw
        generalize w2.alloc (.cells #[.int .i64 n.kind, .int .i64 n.mode, .int .i64 n.uid, .int .i64 n.gid, .int .i64 n.links, .int .i64 n.size, .int .i64 n.tick, .slice a' n.blocks.length c', .slice b1 n.acl.length e1, .slice b2 n.dflt.length e2] 34) = wb at *

        obtain ⟨SZ, hSZ⟩ : ∃ SZ : Int, SZ = max ((an + l : Nat) : Int) n.size := ⟨_, rfl⟩
        have hgs := HG.out.size
        rw [← HN.out] at hgs
        have hsz0 : 0 ≤ SZ := by omega
        have hsz1 : SZ ≤ 256 := by omega
        have hmx : max n.size ((an : Int) + (l : Int)) = SZ := by rw [hSZ, Int.max_comm]; push_cast; rfl
        obtain ⟨m, hm⟩ : ∃ m : Nat, needV SZ = m := ⟨(needV SZ).toNat, (Int.toNat_of_nonneg (FsZw.need_nn SZ)).symm⟩
        obtain ⟨X, hXe⟩ : ∃ X, X = n.blocks.length := ⟨_, rfl⟩
        have hXm : X ≤ m := by
          have h1 := FsZw.need_mono (show n.size ≤ SZ by omega)
          have h2 := hgs.2.2.1
          omega
        have hm8 : m ≤ 8 := by have h2 := FsZw.need_mono hsz1; have h8 : needV 256 = 8 := rfl; omega
        have hBn : wa.heap.size ≤ w2.heap.size := HS2.out
        have hbB : w1.heap.size < wa.heap.size := HBN.out
        have hwB : w.heap.size ≤ wa.heap.size := HB1.out.size
        have HSb := Lib.hid (fun k hk => (HFA.out.1 k hk).2)
        have hc5 := chg_set wb ⟨w2.heap.size, 5, none⟩ (.int .i64 SZ)
        have one : ∀ T : List Nat, w2.heap.size ∉ T → Apart T [w2.heap.size] := fun T hT k hk hh => by rw [List.mem_singleton] at hh; exact hT (hh ▸ hk)
        have HF4 := Lib.hid (HF3.out.chg hc5 (by simp; omega) (one _ fun hh => by have := HSb.out _ hh; omega))
        have HK4 := Lib.hid (show Bk _ w2.heap.size #[.int .i64 n.kind, .int .i64 n.mode, .int .i64 n.uid, .int .i64 n.gid, .int .i64 n.links, .int .i64 SZ, .int .i64 n.tick, .slice a' n.blocks.length c', .slice b1 n.acl.length e1, .slice b2 n.dflt.length e2] _ from Bk.put (l := [.int .i64 n.kind, .int .i64 n.mode, .int .i64 n.uid, .int .i64 n.gid, .int .i64 n.links, .int .i64 n.size, .int .i64 n.tick, .slice a' n.blocks.length c', .slice b1 n.acl.length e1, .slice b2 n.dflt.length e2]) HK3.out 5 (.int .i64 SZ))
        have HW4 := Lib.hid (row_chg HW3.out hc5 (one _ (CoL.row_nin HW3.out HK3.out (by decide))))
        have HA14 := Lib.hid (AeF.own_chg HA13.out hc5 (one _ (CoL.row_nin HA13.out.1 HK3.out (by decide))))
        have HA24 := Lib.hid (AeF.own_chg HA23.out hc5 (one _ (CoL.row_nin HA23.out.1 HK3.out (by decide))))
        have HR4 := Lib.hid (FoB.Bk.chg HR3.out hc5 (fun hh => by rw [List.mem_singleton] at hh; exact FsM.bk_ne HR3.out HK3.out (by decide) hh))
        have HX4 := Lib.hid (FoB.Bk.chg HX3.out hc5 (fun hh => by rw [List.mem_singleton] at hh; exact FsM.bk_ne HX3.out HK3.out (by decide) hh))
        have HB4 := Lib.hid (HB3.out.trans (FoB.Chg.from hc5 HB3.out.size (show w.heap.size ≤ w2.heap.size by omega)))
        have cw5 : wb.cell? ⟨w2.heap.size, 5, none⟩ = some (.int .i64 n.size) := HK3.out.cell 5
        have fw5 := HK3.out.free 5
        have HSZ := Lib.hid hSZ
        have HM := Lib.hid hm
        have HXE := Lib.hid hXe
        clear hSZ hm hgs hc5 one
        go_wp2_with fail
        refine (max_spec n.size ((an : Int) + (l : Int)) _).mono ?_
        rintro e w3 ⟨rfl, rfl⟩
        rw [hmx]
        clear hmx
        go_wp2
        generalize wb.setCell ⟨w2.heap.size, 5, none⟩ (.int .i64 SZ) = w5 at HF4 HK4 HW4 HA14 HA24 HR4 HX4 HB4 ⊢
        have HG0 := Lib.hid (show Grw w w0.heap.size w1.heap.size w2.heap.size wa.heap.size f { n with size := SZ } (.slice qa' f.quotas.length qc') gi ci gd cd S a' c' (.slice b1 n.acl.length e1) (.slice b2 n.dflt.length e2) X m f.data 0 a' c' w5 from ⟨HF4.out, by rw [Nat.add_zero, HXE.out]; exact HK4.out, fun hh => ⟨HXE.out, by rw [Nat.add_zero, CoW.grown_zero, HXE.out]; exact HW4.out⟩, fun hh => ⟨by omega, by show m ≤ n.blocks.length; rw [← HXE.out]; omega, rfl, rfl, rfl, HW4.out⟩, HA14.out, HA24.out, HR4.out, HB4.out⟩)
        clear cw5 fw5 hXe
        go_loopw [] (fun wr => ∃ (jj : Nat) (a7 : Option Addr) (c9 : Nat), X + jj ≤ m ∧ Grw w w0.heap.size w1.heap.size w2.heap.size wa.heap.size f { n with size := SZ } (.slice qa' f.quotas.length qc') gi ci gd cd S a' c' (.slice b1 n.acl.length e1) (.slice b2 n.dflt.length e2) X m f.data jj a7 c9 wr ∧ Bk wr w.heap.size #[.int .i64 T, .slice qa Q qc, .slice ia M0 ic, .slice da D dc] 27) (fun wr => m - CoW.lenAt wr w2.heap.size)
        case atStart => exact ⟨0, a', c', hXm, HG0.out, HX4.out⟩
        case round =>
          obtain ⟨jj, a7, c9, hjj, hgr, hxx⟩ := hrel
          have cw7 : wr.cell? ⟨w2.heap.size, 7, none⟩ = some (.slice a7 (X + jj) c9) := hgr.2.1.cell 7
          have cw5 : wr.cell? ⟨w2.heap.size, 5, none⟩ = some (.int .i64 SZ) := hgr.2.1.cell 5
          have HME := Lib.hid (show CoW.lenAt wr w2.heap.size = X + jj from by unfold CoW.lenAt; rw [cw7])
          have HGR := Lib.hid (grw_below hgr ((Below.refl wr.heap.size wr).drew))
          have HXX := Lib.hid (show Bk wr.drew w.heap.size #[.int .i64 T, .slice qa Q qc, .slice ia M0 ic, .slice da D dc] 27 from hxx)
          have HND := Lib.hid (InEq.need_spec SZ wr.drew (by unfold Foot.Rg; omega))
          rw [HM.out] at HND
          have cd7 : wr.drew.cell? ⟨w2.heap.size, 7, none⟩ = some (.slice a7 (X + jj) c9) := cw7
          have cd5 : wr.drew.cell? ⟨w2.heap.size, 5, none⟩ = some (.int .i64 SZ) := cw5
          obtain ⟨J, hJ⟩ : ∃ J, J = X + jj := ⟨_, rfl⟩
          rw [← hJ] at cw7 cd7 hjj HME
          have HJ := Lib.hid hJ
          have hj9 : J ≤ 8 := by omega
          clear hgr hxx hJ HG0
          by_cases hlt : J < m
          · go_upto_region 10 with (fail)
            rename_i hKr
            go_cut [53] from 47 to 52 (fun s53 wc => s53 = .bool true ∧ wc = wr.drew)
            case first =>
              go_region_held3 (fun w' => w'.cell? ⟨w2.heap.size, 7, none⟩ = some (.slice a7 J c9) ∧ w'.cell? ⟨w2.heap.size, 5, none⟩ = some (.int .i64 SZ)) (first | with_reducible exact ⟨cw7, cw5⟩ | with_reducible exact ⟨cd7, cd5⟩ | go_keep)
                ((go_at_call 144; (with_reducible refine HND.out.mono ?_); rintro e w' ⟨rfl, rfl⟩))
              all_goals
                go_wp2
                go_meet
                exact ⟨by first | rfl | (simp; omega), rfl⟩
            case rest =>
              obtain ⟨rfl, rfl⟩ := hcut
              refine hKr _ _ ?_
              clear hKr
              generalize wr.drew = wd at *
              clear cw7 cw5
              have hdx : w2.heap.size < wd.heap.size := HGR.out.2.1.lt
              obtain ⟨hXL, hro⟩ := HGR.out.2.2.1 (by have := HJ.out; omega)
              have HX := Lib.hid HGR.out.2.1
              have fw7 := HX.out.free 7
              rw [← HJ.out] at hro
              have HO := Lib.hid hro
              clear hro hXL
              obtain ⟨i0, hi, hz0', hz1', hz2'⟩ := info_parts Ni.intInfo
              have HF0 := Lib.hid hi
              have HF1 := Lib.hid hz0'
              have HF2' := Lib.hid hz1'
              have HF3' := Lib.hid hz2'
              clear hi hz0' hz1' hz2'
              go_wp2_with (first | (at_builtin; refine wpList_append_own _ rfl _ _ 31 rfl wa.heap.size 3 i0 (.int .i64 0) 1 8 Tryz.underlying31 HF0.out HF1.out HF2'.out HF3'.out rfl (by decide) _ _ _ rfl (HO.out.alloc _) ⟨wd.heap.size, 0, none⟩ 1 1 [.int .i64 (-1)] rfl rfl (InEq.cells1_new _ _ _) ?c2 ?c3 ?c4 ?c5 ?_))
              case c2 => first | rfl | simp [Value.oneCell']
              case c3 => unfold maxLen; omega
              case c4 => omega
              case c5 => first | omega | (simp; omega)
              intro v' w6 hown1 hg1 _
              obtain ⟨b6, c6, rfl⟩ := Dk.slice_of hown1
              have hrn := row_below HO.out ((Below.refl _ _).alloc (Nat.le_refl _) (.cells #[.int .i64 (-1)] 3))
              have hx1 := (HX.out.alloc (.cells #[.int .i64 (-1)] 3)).grown hg1 (fun e => CoL.row_nin hrn (HX.out.alloc (.cells #[.int .i64 (-1)] 3)) (by decide) (by unfold fpR; rw [← e]; simp))
              have hx2 := (HXX.out.alloc (.cells #[.int .i64 (-1)] 3)).grown hg1 (fun e => CoL.row_nin hrn (HXX.out.alloc (.cells #[.int .i64 (-1)] 3)) (by decide) (by unfold fpR; rw [← e]; simp))
              have zc7 : w6.cell? ⟨w2.heap.size, 7, none⟩ = some (.slice a7 J c9) := by rw [HJ.out]; exact hx1.cell 7
              have zf7 := hx1.free 7
              have HX6 := Lib.hid (hx2.far (p := ⟨w2.heap.size, 7, none⟩) (fun e => FsM.bk_ne hx2 hx1 (by decide) e) (.slice b6 (J + 1) c6))
              have hnx : Grw w w0.heap.size w1.heap.size w2.heap.size wa.heap.size f { n with size := SZ } (.slice qa' f.quotas.length qc') gi ci gd cd S a' c' (.slice b1 n.acl.length e1) (.slice b2 n.dflt.length e2) X m f.data (jj + 1) b6 c6 (w6.setCell ⟨w2.heap.size, 7, none⟩ (.slice b6 (J + 1) c6)) := by
                rw [HJ.out] at hown1 hg1 ⊢
                exact grw_app HGR.out (by have := HJ.out; omega) hwB hBn hbB HSb.out hown1 hg1
              have HNX := Lib.hid hnx
              have HLN := Lib.hid (show CoW.lenAt (w6.setCell ⟨w2.heap.size, 7, none⟩ (.slice b6 (J + 1) c6)) w2.heap.size = J + 1 from by
                unfold CoW.lenAt
                rw [show (w6.setCell ⟨w2.heap.size, 7, none⟩ (.slice b6 (J + 1) c6)).cell? ⟨w2.heap.size, 7, none⟩ = some (.slice b6 (X + (jj + 1)) c6) from hnx.2.1.cell 7]
                show X + (jj + 1) = J + 1
                have := HJ.out; omega)
              clear hnx hx1 hx2 hown1 hg1 hrn cd7 cd5 fw7
              go_wp2
              go_roundw
              case rel => exact ⟨jj + 1, b6, c6, by have := HJ.out; omega, HNX.out, HX6.out⟩
              case measure => rw [HME.out, HLN.out]; omega
          · go_upto_region 10 with (fail)
            rename_i hKr
            go_cut [53] from 47 to 52 (fun s53 wc => s53 = .bool false ∧ wc = wr.drew)
            case first =>
              go_region_held3 (fun w' => w'.cell? ⟨w2.heap.size, 7, none⟩ = some (.slice a7 J c9) ∧ w'.cell? ⟨w2.heap.size, 5, none⟩ = some (.int .i64 SZ)) (first | with_reducible exact ⟨cw7, cw5⟩ | with_reducible exact ⟨cd7, cd5⟩ | go_keep)
                ((go_at_call 144; (with_reducible refine HND.out.mono ?_); rintro e w' ⟨rfl, rfl⟩))
              all_goals
                go_wp2
                go_meet
                exact ⟨by first | rfl | (simp; omega), rfl⟩
            case rest =>
              obtain ⟨rfl, rfl⟩ := hcut
              refine hKr _ _ ?_
              clear hKr
              generalize wr.drew = wd at *
              clear cw7 cw5
              have hje : X + jj = m := by have := HJ.out; omega
              have hfull := grw_full (n := { n with size := SZ }) (show Grw w w0.heap.size w1.heap.size w2.heap.size wa.heap.size f { n with size := SZ } (.slice qa' f.quotas.length qc') gi ci gd cd S a' c' (.slice b1 n.acl.length e1) (.slice b2 n.dflt.length e2) n.blocks.length m f.data jj a7 c9 wd from by have := HGR.out; rw [HXE.out] at this; exact this) (by show n.blocks.length + jj = m; rw [← HXE.out]; exact hje)
              have hm0 : 0 < m := by
                have h1 := HM.out
                have h2 := HSZ.out
                unfold needV at h1
                split at h1 <;> omega
              obtain ⟨g, rfl⟩ : ∃ g, a7 = some ⟨g, 0, none⟩ := by
                rcases hfull.2 with ⟨hv, h0⟩ | ⟨g, cap, cur, hv, _⟩
                · omega
                · rw [Value.slice.injEq] at hv; exact ⟨g, hv.1⟩
              obtain ⟨l0, hl0e⟩ : ∃ l0, l0 = holes n.blocks m := ⟨_, rfl⟩
              rw [← hl0e] at hfull
              obtain ⟨N, hNe⟩ : ∃ N : I, N = { n with size := SZ, blocks := l0 } := ⟨_, rfl⟩
              obtain ⟨q1, q2, q3, q4, q5, q6, q7, q8⟩ := HGR.out
              rw [hje] at q2
              obtain ⟨L1, hL1⟩ : ∃ L1, L1 = lastB an l := ⟨_, rfl⟩
              obtain ⟨o6, ho6⟩ : ∃ o, o = an / 32 := ⟨_, rfl⟩
              have hod : (an : Int) / 32 = (o6 : Int) := by rw [ho6]; omega
              have hNI : N = wrI n an l := by
                rw [hNe, hl0e]
                unfold wrI sized
                rw [← HSZ.out, HM.out, Int.toNat_natCast]
              have hfl : o6 < L1 := by rw [hL1, ho6]; exact FsZw.first_lt hl0
              have hLe : L1 ≤ m := by
                have := FsZw.lastB_le n an l
                rw [← hNI, ← hL1, hNe, hl0e] at this
                dsimp only at this
                rw [holes_len] at this
                exact this
              have hLL := FsZw.last_lo (a := an) hl0
              rw [← hL1] at hLL
              have hgl := row_lies hfull g (by simp [fpR, Value.ownBlock])
              have hS0' := HS0.out
              have hS1' := HS1.out
              have hWS : WS w w0.heap.size w1.heap.size w2.heap.size wa.heap.size wd.heap.size g m l0 (.slice b1 n.acl.length e1) (.slice b2 n.dflt.length e2) := by
                refine ⟨fun x hx => ?_, ⟨by omega, by omega, by omega, by omega, by omega⟩, ⟨by omega, ?_, by omega, by omega⟩, ⟨?_, ?_⟩, by rw [hl0e, holes_len]⟩
                · unfold Rr at hx
                  simp only [List.mem_append, List.mem_cons, List.mem_nil_iff, or_false] at hx
                  rcases hx with ((rfl | rfl | rfl | rfl | rfl) | hx) | hx
                  · exact HXX.out.lt
                  · exact q7.lt
                  · exact q1.box.lt
                  · exact q2.lt
                  · exact hgl.2
                  · exact (row_lies q5.1 x hx).2
                  · exact (row_lies q6.1 x hx).2
                · intro e
                  exact CoL.row_nin hfull q2 (by decide) (by rw [← e]; simp [fpR, Value.ownBlock])
                · exact fun hh => FsM.rows_apart q5.1 hfull (by decide) g hh (by simp [fpR, Value.ownBlock])
                · exact fun hh => FsM.rows_apart q6.1 hfull (by decide) g hh (by simp [fpR, Value.ownBlock])
              have hWI : WI w w0.heap.size w1.heap.size w2.heap.size wa.heap.size wd.heap.size f N (.slice qa' f.quotas.length qc') gi ci gd cd g m c9 (.slice b1 n.acl.length e1) (.slice b2 n.dflt.length e2) #[.int .i64 T, .slice qa Q qc, .slice ia M0 ic, .slice da D dc] l0 o6 f.inodes (segD an s.data.toList o6 [] f.data) [] wd := by
                refine ⟨S, q1, by rw [hNe]; exact q2, by rw [mid_zero]; exact hfull, by rw [hNe]; exact q5, by rw [hNe]; exact q6, HXX.out, q7, fun x hx hh => ?_, Nat.le_refl _, q8⟩
                have hx2 := HFA.out.1 x hx
                unfold Rr at hh
                simp only [List.mem_append, List.mem_cons, List.mem_nil_iff, or_false] at hh
                rcases hh with ((rfl | rfl | rfl | rfl | rfl) | hh) | hh
                · omega
                · omega
                · omega
                · omega
                · omega
                · have := (row_lies q5.1 x hh).1; omega
                · have := (row_lies q6.1 x hh).1; omega
              have hgu := HG.out.uid
              rw [← HN.out] at hgu
              obtain ⟨uk, huk⟩ : ∃ uk : Nat, n.uid = uk := ⟨n.uid.toNat, by omega⟩
              have huk3 : uk ≤ 3 := by omega
              obtain ⟨win, hwin⟩ : ∃ win, win = (l0.take L1).drop o6 := ⟨_, rfl⟩
              have hl0l : l0.length = m := by rw [hl0e, holes_len]
              have hwl : win.length = L1 - o6 := by rw [hwin, List.length_drop, List.length_take]; omega
              have hwat : ∀ j, j < L1 - o6 → win.getD j 0 = l0.getD (o6 + j) 0 := fun j hj => by
                rw [getD_at (by omega), getD_at (by omega)]
                simp [hwin]
              obtain ⟨qv, hqv⟩ : ∃ q, q = (f.quotas.getD uk (0, 0)).2 := ⟨_, rfl⟩
              have HRR := Lib.hid (show wrR f n an l = renew (14 * uk) qv isHole (hasB (allB f.inodes)) win from by
                unfold wrR
                rw [← hL1, ← hNI, huk, Int.toNat_natCast, show quo f uk = qv from hqv.symm, ← ho6, hwin, hNe])
              have HWS := Lib.hid hWS
              have HWI := Lib.hid hWI
              have HWA := Lib.hid hwat
              have HWL := Lib.hid hwl
              have HWN := Lib.hid hwin
              have HL0 := Lib.hid hl0l
              have HL0E := Lib.hid hl0e
              have HNE := Lib.hid hNe
              have HNI := Lib.hid hNI
              have HUK := Lib.hid huk
              have HQV := Lib.hid hqv
              have HL1 := Lib.hid hL1
              have HO6 := Lib.hid ho6
              have HJE := Lib.hid hje
              clear hWS hWI hwat hwl hwin hl0l hl0e hNe hNI huk hqv hL1 ho6 hje hfull q1 q2 q3 q4 q5 q6 q7 q8 cd7 cd5 HGR hgl hgu
              go_wp2
              obtain ⟨H0, hH0⟩ : ∃ H0, H0 = wd.heap.size := ⟨_, rfl⟩
              rw [← hH0] at HWS HWI
              clear hH0
              have HVI := Lib.hid (vi_zero f k uk N qv win l0 o6)
              go_loopw [12] (fun kv wr => ∃ (j : Nat) (pre : List Int) (s' : Int → Bool) (ins : List I), j ≤ L1 - o6 ∧ kv = .int .i64 ((o6 + j : Nat) : Int) ∧ VI f k uk N qv win l0 o6 j pre s' ins ∧ WI w w0.heap.size w1.heap.size w2.heap.size wa.heap.size H0 f N (.slice qa' f.quotas.length qc') gi ci gd cd g m c9 (.slice b1 n.acl.length e1) (.slice b2 n.dflt.length e2) #[.int .i64 T, .slice qa Q qc, .slice ia M0 ic, .slice da D dc] l0 o6 ins (segD an s.data.toList o6 pre f.data) pre wr) (fun kv _ => L1 - (intOf kv).toNat)
              case atStart => exact ⟨0, [], _, f.inodes, Nat.zero_le _, by rw [Nat.add_zero], HVI.out, HWI.out⟩
              case round =>
                obtain ⟨j, pre, s', ins, hj, rfl, hvi, hwi⟩ := hrel
                clear HVI HWI
                have HVI := Lib.hid hvi
                have HWI := Lib.hid hwi
                have hpl : pre.length = j := vi_len hvi (by rw [HWL.out]; exact hj)
                have HPL := Lib.hid hpl
                obtain ⟨K, hK⟩ : ∃ K, K = o6 + j := ⟨_, rfl⟩
                rw [← hK]
                have HK := Lib.hid hK
                clear hvi hwi hpl
                by_cases hlt : j < L1 - o6
                · have hKL : K < L1 := by omega
                  have hK9 : K ≤ 8 := by omega
                  have hKm : K < m := by omega
                  have hal2 : K * 32 < an + l := by omega
                  clear hK
                  obtain ⟨S9, q1, q2, q3, q4, q5, q6, q7, q8, q9, q10⟩ := HWI.out
                  obtain ⟨bi, hbi⟩ : ∃ b, b = l0.getD K 0 := ⟨_, rfl⟩
                  have hkl0 : K < l0.length := by rw [HL0.out]; exact hKm
                  have hpk : o6 + pre.length = K := by rw [HPL.out]; exact HK.out.symm
                  have cgK : wr.cell? ⟨g, K, none⟩ = some (.int .i64 bi) := by
                    rw [q3.cellAt K (by simpa using hKm), NiF.cells, List.getElem?_map, ← hpk, mid_at (by rw [hpk]; exact hkl0), hpk, hbi]; rfl
                  have fgK := q3.frozenAt K
                  have cn7 : wr.cell? ⟨w2.heap.size, 7, none⟩ = some (.slice (some ⟨g, 0, none⟩) m c9) := q2.cell 7
                  have hmc : m ≤ c9 := CoW.row_wide q3
                  obtain ⟨C, hC⟩ : ∃ C, (bi == (-1 : Int)) = C := ⟨_, rfl⟩
                  have HBI := Lib.hid hbi
                  have HKL0 := Lib.hid hkl0
                  have HPK := Lib.hid hpk
                  have HCC2 := Lib.hid hC
                  have hJw : j < win.length := by rw [HWL.out]; exact hlt
                  have HWJ := Lib.hid (show win.getD j 0 = l0.getD (o6 + j) 0 from HWA.out j hlt)
                  have huf : (ino f k).uid = uk := by rw [← HN.out]; exact HUK.out
                  have HUF := Lib.hid huf
                  have hlh : l0 = holes (ino f k).blocks m := by rw [← HN.out]; exact HL0E.out
                  have HLH := Lib.hid hlh
                  have HLM := Lib.hid (show (ino f k).blocks.length ≤ m from by rw [← HN.out, ← HXE.out]; exact hXm)
                  have HNU := Lib.hid (show N.uid = uk from by rw [HNE.out]; exact HUK.out)
                  obtain ⟨hhalf, hpick, hfil⟩ := vi_half HG.out huf hlh HLM.out (show o6 ≤ l0.length by rw [HL0.out]; omega) HWN.out HNU.out (by omega) HVI.out (segD an s.data.toList o6 pre f.data) (seg_len _ _ HG.out)
                  have hrng := vi_rng HG.out huf huk3 hlh HLM.out hfil
                  have HSZS := Lib.hid (seg_sz (s := s.data.toList) HG.out hrng (show an / 32 ≤ o6 from Nat.le_of_eq HO6.out.symm) (fun t ht => by rw [HST.out]; rw [HPL.out] at ht; omega))
                  have hcost := vi_cost HG.out (show l0.length ≤ 8 by rw [HL0.out]; exact hm8) ⟨by rw [HNE.out, ← HN.out], by rw [HNE.out, ← HN.out]⟩ hfil HVI.out (segD an s.data.toList o6 pre f.data) (seg_len _ _ HG.out) HSZS.out
                  have HHF := Lib.hid hhalf
                  have HPI := Lib.hid hpick
                  have HRN := Lib.hid hrng
                  have HCO := Lib.hid hcost
                  clear hbi hkl0 hpk huf hlh hhalf hpick hfil hrng hcost q1 q2 q3 q4 q5 q6 q7 q8 q9 q10
                  have hd67 : decide ((K : Int) * 32 < (an : Int) + (l : Int)) = true := decide_eq_true (by omega)
                  go_upto_if 75 with (fail)
                  rename_i hKr
                  clear hd67
                  go_cut [13, 14] from 76 to 98 (fun s13 s14 wc => Stp f k uk N qv win l0 o6 j pre (fun ins pre' W => WI w w0.heap.size w1.heap.size w2.heap.size wa.heap.size H0 f N (.slice qa' f.quotas.length qc') gi ci gd cd g m c9 (.slice b1 n.acl.length e1) (.slice b2 n.dflt.length e2) #[.int .i64 T, .slice qa Q qc, .slice ia M0 ic, .slice da D dc] l0 o6 ins (segD an s.data.toList o6 pre f.data) pre' W) wc)
                  case first =>
                    obtain ⟨S9, q1, q2, q3, q4, q5, q6, q7, q8, q9, q10⟩ := HWI.out
                    cases C
                    · have hb1 : bi ≠ -1 := by have := HCC2.out; simpa using this
                      have hu1 := old_used (l0 := l0) HG.out HLH.out HLM.out HKL0.out (by rw [← HBI.out]; exact hb1)
                      rw [← HBI.out] at hu1
                      have hr1 := (FsV.own_facts HG.out.ok).2 bi hu1
                      obtain ⟨xn, hxn⟩ : ∃ xn : Nat, bi = xn := ⟨bi.toNat, by omega⟩
                      have HST2 := Lib.hid (show Stp f k uk N qv win l0 o6 j pre (fun ins pre' W => WI w w0.heap.size w1.heap.size w2.heap.size wa.heap.size H0 f N (.slice qa' f.quotas.length qc') gi ci gd cd g m c9 (.slice b1 n.acl.length e1) (.slice b2 n.dflt.length e2) #[.int .i64 T, .slice qa Q qc, .slice ia M0 ic, .slice da D dc] l0 o6 ins (segD an s.data.toList o6 pre f.data) pre' W) wr from by
                        have h1 := vi_skip HVI.out hJw HWJ.out (by rw [← HK.out]; exact HKL0.out) (by rw [← HK.out, ← HBI.out]; exact hb1) (by rw [← HK.out, ← HBI.out]; exact hu1)
                        have h2 := wi_skip HWI.out (by rw [HPK.out]; exact HKL0.out)
                        rw [HPK.out, ← HBI.out, hxn] at h1 h2
                        exact ⟨xn, s', ins, by omega, h1, h2⟩)
                      clear hb1 hu1 hr1 hxn q1 q2 q3 q4 q5 q6 q7 q8 q9 q10
                      go_wp2
                      go_meet
                      exact HST2.out
                    · have hb1 : l0.getD (o6 + j) 0 = -1 := by have := HCC2.out; rw [← HK.out, ← HBI.out]; simpa using this
                      have HB1' := Lib.hid hb1
                      have HNB := Lib.hid (FsH.nblk_any wr _ { f with inodes := ins, data := segD an s.data.toList o6 pre f.data } uk huk3 (Nat.le_trans HCO.out (by decide)) HHF.out q1.holds)
                      obtain ⟨⟨x, cc⟩, hp⟩ : ∃ p, pk (14 * uk) qv s' = p := ⟨_, rfl⟩
                      rw [show (({ f with inodes := ins, data := segD an s.data.toList o6 pre f.data } : F).quotas.getD uk (0, 0)).2 = qv from HQV.out.symm, HPI.out, hp] at HNB
                      have HP := Lib.hid hp
                      unfold FsC.pairV at HNB
                      obtain ⟨x0, x1, x2, x3⟩ := q1.cells
                      have cn2 : wr.cell? ⟨w2.heap.size, 2, none⟩ = some (.int .i64 uk) := by have := q2.cell 2; dsimp at this; rw [HNU.out] at this; exact this
                      clear hb1 hp q1 q2 q3 q4 q5 q6 q7 q8 q9 q10
                      dsimp only at HNB x0
                      go_wp2_with fail
                      refine HNB.out.mono ?_
                      rintro e w6 ⟨rfl, hb⟩
                      have HW6 := Lib.hid (wi_below HWI.out hb)
                      clear hb cgK fgK cn7 x0 x1 x2 x3 cn2
                      obtain ⟨S9, q1, q2, q3, q4, q5, q6, q7, q8, q9, q10⟩ := HW6.out
                      have cgK : ∃ u, w6.cell? ⟨g, K, none⟩ = some u := by
                        rw [q3.cellAt K (by simpa using hKm)]
                        exact ⟨_, List.getElem?_eq_getElem (by have := q3.1; simp at this ⊢; omega)⟩
                      obtain ⟨u9, cgK⟩ := cgK
                      have fgK := q3.frozenAt K
                      have cn7 : w6.cell? ⟨w2.heap.size, 7, none⟩ = some (.slice (some ⟨g, 0, none⟩) m c9) := q2.cell 7
                      by_cases h0 : cc = 0
                      rotate_left
                      · have HVE := Lib.hid (show writeV f k an s = (f, cc) from by
                          have h1 := vi_fail HVI.out hJw HWJ.out HB1'.out HP.out h0
                          rw [HVV.out, HRR.out, h1]
                          exact if_neg h0)
                        have z1 : (cc != 0) = true := by simpa using h0
                        have z2 : (cc == 0) = false := by simpa using h0
                        have HB6 := Lib.hid q10
                        have HR6 := Lib.hid q7
                        have HS6 := Lib.hid (show w.heap.size + 1 + 1 ≤ w6.heap.size from by have := q7.lt; omega)
                        obtain ⟨x0, x1, x2, x3⟩ := Bk.c4 q6
                        clear h0 q1 q2 q3 q4 q5 q6 q7 q8 q9 q10 cgK fgK cn7
                        go_wp2_with fail
                        refine (HCA.out _ HB6.out).mono ?_
                        rintro e wk ⟨y, S, rfl, hown, hb⟩
                        obtain ⟨z0, z1a, z1n, z1c, z2a, z2n, z2c, z3a, z3n, z3c, rfl⟩ := FsF.own_form hown
                        have HBq := Lib.hid (HB6.out.trans (hb.mono HB6.out.size))
                        have HRq := Lib.hid (HR6.out.all hb)
                        have HNS := Lib.hid (show w.heap.size + 1 ∉ S from fun hh => by have h1 := (FsF.own_lies hown _ hh).1; have h2 := HS6.out; omega)
                        have HOW := Lib.hid (FsF.own_mono hown HB6.out.size)
                        clear hb hown
                        obtain ⟨r0, r1, r2, r3⟩ := Bk.c4 HRq.out
                        have f0 := HRq.out.free 0
                        have f1 := HRq.out.free 1
                        have f2 := HRq.out.free 2
                        have f3 := HRq.out.free 3
                        go_wp2
                        have hF := FoB.box4_bk HRq.out (.int .i64 z0) (.slice z1a z1n z1c) (.slice z2a z2n z2c) (.slice z3a z3n z3c)
                        have hC9 := FoB.box4_chg wk (w.heap.size + 1) (.int .i64 z0) (.slice z1a z1n z1c) (.slice z2a z2n z2c) (.slice z3a z3n z3c)
                        unfold FoB.box4 at hF hC9
                        generalize ((((wk.setCell ⟨w.heap.size + 1, 0, none⟩ (.int .i64 z0)).setCell ⟨w.heap.size + 1, 1, none⟩ (.slice z1a z1n z1c)).setCell ⟨w.heap.size + 1, 2, none⟩ (.slice z2a z2n z2c)).setCell ⟨w.heap.size + 1, 3, none⟩ (.slice z3a z3n z3c)) = w9 at hF hC9 ⊢
                        obtain ⟨e0, e1, e2, e3⟩ := Bk.c4 hF
                        have hres := FsF.own_mono (FsF.own_chg HOW.out hC9 (fun x hx hh => by rw [List.mem_singleton] at hh; subst hh; exact HNS.out hx)) (show w.heap.size ≤ w.heap.size from Nat.le_refl _)
                        refine bodyPost_ret (v := .tuple #[.agg #[.int .i64 z0, .slice z1a z1n z1c, .slice z2a z2n z2c, .slice z3a z3n z3c], .int .i64 cc]) (by simp [results, Tryz.results80, go_sem, e0, e1, e2, e3]) rfl ?_
                        exact ⟨_, S, by rw [HVE.out], by rw [HVE.out]; exact hres, HBq.out.trans (FoB.Chg.from hC9 HBq.out.size (Nat.le_succ _))⟩
                      · subst h0
                        obtain ⟨k', hk', hxk, _⟩ := FsZ.pick_ok (p := fun k => s' (k : Int)) (a := 14 * uk) (m := 14) (q := qv) (by have := HP.out; unfold pk at this; rw [this])
                        rw [show pick (fun k => s' (k : Int)) (14 * uk) 14 qv = (x, 0) from HP.out] at hxk
                        dsimp only at hxk
                        obtain ⟨xn, hxe, hx56⟩ : ∃ xn : Nat, x = xn ∧ xn < 56 := ⟨14 * uk + k', hxk, by omega⟩
                        rw [hxe] at HP
                        subst hxe
                        have HV2 := Lib.hid (vi_new HVI.out hJw HWJ.out HB1'.out HP.out)
                        have HW7 := Lib.hid (wi_set (x := (xn : Int)) HWS.out HW6.out (by rw [HPK.out]; exact HKL0.out))
                        rw [HPK.out] at HW7
                        clear hxk q1 q2 q3 q4 q5 q6 q7 q8 q9 q10
                        go_upto_region 20 with (fail)
                        generalize w6.setCell ⟨g, K, none⟩ (.int .i64 (xn : Int)) = wq at HW7 ⊢
                        clear cgK fgK cn7
                        obtain ⟨S9, q1, q2, q3, q4, q5, q6, q7, q8, q9, q10⟩ := HW7.out
                        have hml : (mid l0 o6 (pre ++ [(xn : Int)])).length = m := by have := q3.1; simpa [NiF.cells] using this
                        obtain ⟨N9, hN9⟩ : ∃ N9 : I, N9 = { N with blocks := mid l0 o6 (pre ++ [(xn : Int)]) } := ⟨_, rfl⟩
                        have HML := Lib.hid hml
                        have HN9 := Lib.hid hN9
                        have HCQ := Lib.hid (show Calls Tryz.prog 142 #[.agg #[.int .i64 N.kind, .int .i64 N.mode, .int .i64 N.uid, .int .i64 N.gid, .int .i64 N.links, .int .i64 N.size, .int .i64 N.tick, .slice (some ⟨g, 0, none⟩) m c9, .slice b1 n.acl.length e1, .slice b2 n.dflt.length e2]] wq.drew _ from by
                          have hin : In.Holds wq (.agg #[.int .i64 N.kind, .int .i64 N.mode, .int .i64 N.uid, .int .i64 N.gid, .int .i64 N.links, .int .i64 N.size, .int .i64 N.tick, .slice (some ⟨g, 0, none⟩) m c9, .slice b1 n.acl.length e1, .slice b2 n.dflt.length e2]) N9 := by
                            rw [hN9]
                            refine ⟨_, _, _, rfl, ?_, AeF.own_holds q4, AeF.own_holds q5⟩
                            have := NiF.own_holds (NiF.own_of (l := mid l0 o6 (pre ++ [(xn : Int)])) (v := .slice (some ⟨g, 0, none⟩) m c9) (by rw [hml]; exact q3))
                            exact this
                          exact ClS.inode_row wq.drew _ N9 (by
                            rw [hN9]
                            have h1 := AclV.ok_len (InoV.ok_acls HG.out.inode).1
                            have h2 := AclV.ok_len (InoV.ok_acls HG.out.inode).2
                            rw [← HN.out] at h1 h2
                            show (mid l0 o6 (pre ++ [(xn : Int)])).length + N.acl.length + N.dflt.length ≤ 1073741824
                            rw [hml, HNE.out]
                            show m + n.acl.length + n.dflt.length ≤ 1073741824
                            omega) (In.holds_below hin (Below.refl wq.heap.size wq).drew))
                        have hgiS := q1.gi_mem
                        have ya0 : wq.cell? ⟨w1.heap.size, 2, none⟩ = some (.slice (some ⟨gi, 0, none⟩) 20 ci) := q1.cells.2.2.1
                        have ya1 : wq.cell? ⟨w2.heap.size, 0, none⟩ = some (.int .i64 N.kind) := q2.cell 0
                        have ya2 : wq.cell? ⟨w2.heap.size, 1, none⟩ = some (.int .i64 N.mode) := q2.cell 1
                        have ya3 : wq.cell? ⟨w2.heap.size, 2, none⟩ = some (.int .i64 N.uid) := q2.cell 2
                        have ya4 : wq.cell? ⟨w2.heap.size, 3, none⟩ = some (.int .i64 N.gid) := q2.cell 3
                        have ya5 : wq.cell? ⟨w2.heap.size, 4, none⟩ = some (.int .i64 N.links) := q2.cell 4
                        have ya6 : wq.cell? ⟨w2.heap.size, 5, none⟩ = some (.int .i64 N.size) := q2.cell 5
                        have ya7 : wq.cell? ⟨w2.heap.size, 6, none⟩ = some (.int .i64 N.tick) := q2.cell 6
                        have ya8 : wq.cell? ⟨w2.heap.size, 7, none⟩ = some (.slice (some ⟨g, 0, none⟩) m c9) := q2.cell 7
                        have ya9 : wq.cell? ⟨w2.heap.size, 8, none⟩ = some (.slice b1 n.acl.length e1) := q2.cell 8
                        have ya10 : wq.cell? ⟨w2.heap.size, 9, none⟩ = some (.slice b2 n.dflt.length e2) := q2.cell 9
                        have yb0 : wq.drew.cell? ⟨w1.heap.size, 2, none⟩ = some (.slice (some ⟨gi, 0, none⟩) 20 ci) := ya0
                        have yb1 : wq.drew.cell? ⟨w2.heap.size, 0, none⟩ = some (.int .i64 N.kind) := ya1
                        have yb2 : wq.drew.cell? ⟨w2.heap.size, 1, none⟩ = some (.int .i64 N.mode) := ya2
                        have yb3 : wq.drew.cell? ⟨w2.heap.size, 2, none⟩ = some (.int .i64 N.uid) := ya3
                        have yb4 : wq.drew.cell? ⟨w2.heap.size, 3, none⟩ = some (.int .i64 N.gid) := ya4
                        have yb5 : wq.drew.cell? ⟨w2.heap.size, 4, none⟩ = some (.int .i64 N.links) := ya5
                        have yb6 : wq.drew.cell? ⟨w2.heap.size, 5, none⟩ = some (.int .i64 N.size) := ya6
                        have yb7 : wq.drew.cell? ⟨w2.heap.size, 6, none⟩ = some (.int .i64 N.tick) := ya7
                        have yb8 : wq.drew.cell? ⟨w2.heap.size, 7, none⟩ = some (.slice (some ⟨g, 0, none⟩) m c9) := ya8
                        have yb9 : wq.drew.cell? ⟨w2.heap.size, 8, none⟩ = some (.slice b1 n.acl.length e1) := ya9
                        have yb10 : wq.drew.cell? ⟨w2.heap.size, 9, none⟩ = some (.slice b2 n.dflt.length e2) := ya10
                        have hi0 : (0 : Int) ≤ k := by omega
                        have hi1 : (k : Int) < 20 := by omega
                        clear q1 q2 q3 q4 q5 q6 q7 q8 q9 q10 hml hN9
                        go_region_held3 (fun w' => w'.cell? ⟨w1.heap.size, 2, none⟩ = some (.slice (some ⟨gi, 0, none⟩) 20 ci) ∧ w'.cell? ⟨w2.heap.size, 0, none⟩ = some (.int .i64 N.kind) ∧ w'.cell? ⟨w2.heap.size, 1, none⟩ = some (.int .i64 N.mode) ∧ w'.cell? ⟨w2.heap.size, 2, none⟩ = some (.int .i64 N.uid) ∧ w'.cell? ⟨w2.heap.size, 3, none⟩ = some (.int .i64 N.gid) ∧ w'.cell? ⟨w2.heap.size, 4, none⟩ = some (.int .i64 N.links) ∧ w'.cell? ⟨w2.heap.size, 5, none⟩ = some (.int .i64 N.size) ∧ w'.cell? ⟨w2.heap.size, 6, none⟩ = some (.int .i64 N.tick) ∧ w'.cell? ⟨w2.heap.size, 7, none⟩ = some (.slice (some ⟨g, 0, none⟩) m c9) ∧ w'.cell? ⟨w2.heap.size, 8, none⟩ = some (.slice b1 n.acl.length e1) ∧ w'.cell? ⟨w2.heap.size, 9, none⟩ = some (.slice b2 n.dflt.length e2)) (first | with_reducible exact ⟨ya0, ya1, ya2, ya3, ya4, ya5, ya6, ya7, ya8, ya9, ya10⟩ | with_reducible exact ⟨yb0, yb1, yb2, yb3, yb4, yb5, yb6, yb7, yb8, yb9, yb10⟩ | with_reducible exact ⟨yv0, yv1, yv2, yv3, yv4, yv5, yv6, yv7, yv8, yv9, yv10⟩ | with_reducible exact ⟨hp0 _ _ _ _ _ _ _ _ _ _, hp1 _ _ _ _ _ _ _ _ _ _, hp2 _ _ _ _ _ _ _ _ _ _, hp3 _ _ _ _ _ _ _ _ _ _, hp4 _ _ _ _ _ _ _ _ _ _, hp5 _ _ _ _ _ _ _ _ _ _, hp6 _ _ _ _ _ _ _ _ _ _, hp7 _ _ _ _ _ _ _ _ _ _, hp8 _ _ _ _ _ _ _ _ _ _, hp9 _ _ _ _ _ _ _ _ _ _, hp10 _ _ _ _ _ _ _ _ _ _⟩ | go_keep)
                          ((go_at_call 142; (with_reducible refine HCQ.out.mono ?_); rintro e w7 ⟨ca, cc2, db, de, eb, ee, rfl, hrow, ho1, ho2, hnd, hb⟩; have hs7 := hb.size; have HWB := Lib.hid (wi_below HW7.out ((Below.refl wq.heap.size wq).drew.trans hb)); have HIO := Lib.hid (show In.Own w7 wq.heap.size (.agg #[.int .i64 N9.kind, .int .i64 N9.mode, .int .i64 N9.uid, .int .i64 N9.gid, .int .i64 N9.links, .int .i64 N9.size, .int .i64 N9.tick, .slice ca N9.blocks.length cc2, .slice db N9.acl.length de, .slice eb N9.dflt.length ee]) N9 (fpR (.slice ca N9.blocks.length cc2) ++ fpR (.slice db N9.acl.length de) ++ fpR (.slice eb N9.dflt.length ee)) from ⟨_, _, _, _, _, _, rfl, rfl, hnd, NiF.own_of hrow, ho1, ho2⟩); have HBL := Lib.hid ((Below.refl wq.heap.size wq).drew.trans hb); obtain ⟨M9, hM9⟩ : ∃ M, M = N9.blocks.length := ⟨_, rfl⟩; obtain ⟨A9, hA9⟩ : ∃ M, M = N9.acl.length := ⟨_, rfl⟩; obtain ⟨D9, hD9⟩ : ∃ M, M = N9.dflt.length := ⟨_, rfl⟩; rw [← hM9, ← hA9, ← hD9] at HIO ⊢; have hN9k := HN9.out; rw [hN9k] at HIO ⊢; dsimp only at HIO ⊢; obtain ⟨S7, t1, t2, t3, t4, t5, t6, t7, t8, t9, t10⟩ := HWB.out; have yv0 := t1.cells.2.2.1; have yv1 := t2.cell 0; have yv2 := t2.cell 1; have yv3 := t2.cell 2; have yv4 := t2.cell 3; have yv5 := t2.cell 4; have yv6 := t2.cell 5; have yv7 := t2.cell 6; have yv8 := t2.cell 7; have yv9 := t2.cell 8; have yv10 := t2.cell 9; dsimp at yv1 yv2 yv3 yv4 yv5 yv6 yv7 yv8 yv9 yv10; obtain ⟨rr0, rr1, rr2, hCl, hPt⟩ := t1.icell hk20; obtain ⟨m0, m1, m2, m3, m4, m5, m6, m7, m8, m9⟩ := hCl; clear hPt; have g0 : w7.frozen? ⟨gi, k * 10, none⟩ = false := t1.ifree _; have g1 : w7.frozen? ⟨gi, k * 10 + 1, none⟩ = false := t1.ifree _; have g2 : w7.frozen? ⟨gi, k * 10 + 2, none⟩ = false := t1.ifree _; have g3 : w7.frozen? ⟨gi, k * 10 + 3, none⟩ = false := t1.ifree _; have g4 : w7.frozen? ⟨gi, k * 10 + 4, none⟩ = false := t1.ifree _; have g5 : w7.frozen? ⟨gi, k * 10 + 5, none⟩ = false := t1.ifree _; have g6 : w7.frozen? ⟨gi, k * 10 + 6, none⟩ = false := t1.ifree _; have g7 : w7.frozen? ⟨gi, k * 10 + 7, none⟩ = false := t1.ifree _; have g8 : w7.frozen? ⟨gi, k * 10 + 8, none⟩ = false := t1.ifree _; have g9 : w7.frozen? ⟨gi, k * 10 + 9, none⟩ = false := t1.ifree _; have hgl7 : gi < w7.heap.size := t1.gi_lt.2; have hp0 := fun u0 u1 u2 u3 u4 u5 u6 u7 u8 u9 : Value => ((FoB.row10_chg w7 gi k u0 u1 u2 u3 u4 u5 u6 u7 u8 u9).cell (p := ⟨w1.heap.size, 2, none⟩) (t1.box.lt) (by simp; exact fun e => t1.out (e ▸ t1.gi_mem))).trans yv0; have hp1 := fun u0 u1 u2 u3 u4 u5 u6 u7 u8 u9 : Value => ((FoB.row10_chg w7 gi k u0 u1 u2 u3 u4 u5 u6 u7 u8 u9).cell (p := ⟨w2.heap.size, 0, none⟩) (t2.lt) (by simp; exact fun e => t8 _ t1.gi_mem (in_rr (by simp [e])))).trans yv1; have hp2 := fun u0 u1 u2 u3 u4 u5 u6 u7 u8 u9 : Value => ((FoB.row10_chg w7 gi k u0 u1 u2 u3 u4 u5 u6 u7 u8 u9).cell (p := ⟨w2.heap.size, 1, none⟩) (t2.lt) (by simp; exact fun e => t8 _ t1.gi_mem (in_rr (by simp [e])))).trans yv2; have hp3 := fun u0 u1 u2 u3 u4 u5 u6 u7 u8 u9 : Value => ((FoB.row10_chg w7 gi k u0 u1 u2 u3 u4 u5 u6 u7 u8 u9).cell (p := ⟨w2.heap.size, 2, none⟩) (t2.lt) (by simp; exact fun e => t8 _ t1.gi_mem (in_rr (by simp [e])))).trans yv3; have hp4 := fun u0 u1 u2 u3 u4 u5 u6 u7 u8 u9 : Value => ((FoB.row10_chg w7 gi k u0 u1 u2 u3 u4 u5 u6 u7 u8 u9).cell (p := ⟨w2.heap.size, 3, none⟩) (t2.lt) (by simp; exact fun e => t8 _ t1.gi_mem (in_rr (by simp [e])))).trans yv4; have hp5 := fun u0 u1 u2 u3 u4 u5 u6 u7 u8 u9 : Value => ((FoB.row10_chg w7 gi k u0 u1 u2 u3 u4 u5 u6 u7 u8 u9).cell (p := ⟨w2.heap.size, 4, none⟩) (t2.lt) (by simp; exact fun e => t8 _ t1.gi_mem (in_rr (by simp [e])))).trans yv5; have hp6 := fun u0 u1 u2 u3 u4 u5 u6 u7 u8 u9 : Value => ((FoB.row10_chg w7 gi k u0 u1 u2 u3 u4 u5 u6 u7 u8 u9).cell (p := ⟨w2.heap.size, 5, none⟩) (t2.lt) (by simp; exact fun e => t8 _ t1.gi_mem (in_rr (by simp [e])))).trans yv6; have hp7 := fun u0 u1 u2 u3 u4 u5 u6 u7 u8 u9 : Value => ((FoB.row10_chg w7 gi k u0 u1 u2 u3 u4 u5 u6 u7 u8 u9).cell (p := ⟨w2.heap.size, 6, none⟩) (t2.lt) (by simp; exact fun e => t8 _ t1.gi_mem (in_rr (by simp [e])))).trans yv7; have hp8 := fun u0 u1 u2 u3 u4 u5 u6 u7 u8 u9 : Value => ((FoB.row10_chg w7 gi k u0 u1 u2 u3 u4 u5 u6 u7 u8 u9).cell (p := ⟨w2.heap.size, 7, none⟩) (t2.lt) (by simp; exact fun e => t8 _ t1.gi_mem (in_rr (by simp [e])))).trans yv8; have hp9 := fun u0 u1 u2 u3 u4 u5 u6 u7 u8 u9 : Value => ((FoB.row10_chg w7 gi k u0 u1 u2 u3 u4 u5 u6 u7 u8 u9).cell (p := ⟨w2.heap.size, 8, none⟩) (t2.lt) (by simp; exact fun e => t8 _ t1.gi_mem (in_rr (by simp [e])))).trans yv9; have hp10 := fun u0 u1 u2 u3 u4 u5 u6 u7 u8 u9 : Value => ((FoB.row10_chg w7 gi k u0 u1 u2 u3 u4 u5 u6 u7 u8 u9).cell (p := ⟨w2.heap.size, 9, none⟩) (t2.lt) (by simp; exact fun e => t8 _ t1.gi_mem (in_rr (by simp [e])))).trans yv10; unfold FoB.row10 at hp0 hp1 hp2 hp3 hp4 hp5 hp6 hp7 hp8 hp9 hp10; clear hrow ho1 ho2 hnd hb))
                        rename_i hHeld
                        clear hHeld
                        rw [hM9, hA9, hD9, HN9.out] at HIO
                        dsimp only at HIO
                        have hfin := wi_ino HWS.out HW7.out HBL.out hk20 HIO.out
                        unfold FoB.row10 at hfin
                        have HFIN := Lib.hid (show Stp f k uk N qv win l0 o6 j pre (fun ins pre' W => WI w w0.heap.size w1.heap.size w2.heap.size wa.heap.size H0 f N (.slice qa' f.quotas.length qc') gi ci gd cd g m c9 (.slice b1 n.acl.length e1) (.slice b2 n.dflt.length e2) #[.int .i64 T, .slice qa Q qc, .slice ia M0 ic, .slice da D dc] l0 o6 ins (segD an s.data.toList o6 pre f.data) pre' W) _ from ⟨xn, _, _, hx56, HV2.out, hfin⟩)
                        clear hfin
                        go_wp2
                        go_meet
                        with_reducible exact HFIN.out
                  case rest =>
                    refine hKr _ _ ?_
                    clear hKr
                    obtain ⟨xn, s2, ins2, hx56, hvi2, hwi2⟩ := hcut
                    have hdl : (segD an s.data.toList o6 pre f.data).length = 56 := seg_len _ _ HG.out
                    obtain ⟨blk, hblk⟩ : ∃ b, b = dat (segD an s.data.toList o6 pre f.data) (xn : Int) := ⟨_, rfl⟩
                    have hbs : blk.size = 32 := by
                      rw [hblk]
                      unfold dat
                      have hx : xn < (segD an s.data.toList o6 pre f.data).length := by rw [hdl]; exact hx56
                      rw [Int.toNat_natCast, List.getD_eq_getElem?_getD, List.getElem?_eq_getElem hx]
                      exact HSZS.out _ (List.getElem_mem _)
                    have hon : o6 ≤ K := by rw [HK.out]; omega
                    have hoo : an / 32 = o6 := HO6.out.symm
                    have hfit := seg_fit (a := an) (k := K) (s := s.data.toList) (by omega) (by rw [HST.out]; omega)
                    rw [HST.out] at hfit
                    obtain ⟨M9, hM9⟩ : ∃ M, M = max an (32 * K) := ⟨_, rfl⟩
                    obtain ⟨E9, hE9⟩ : ∃ E, E = min (an + l) (32 * K + 32) := ⟨_, rfl⟩
                    have hm1 : max (an : Int) ((K : Int) * 32) = (M9 : Int) := by rw [hM9]; omega
                    have he1 : min ((an : Int) + (l : Int)) (((K : Int) + 1) * 32) = (E9 : Int) := by rw [hE9]; omega
                    have hm2 : an ≤ M9 ∧ 32 * K ≤ M9 ∧ M9 ≤ 32 * K + 32 := by rw [hM9]; omega
                    have he2 : M9 ≤ E9 ∧ E9 ≤ an + l ∧ E9 ≤ 32 * K + 32 := by rw [hM9, hE9]; omega
                    have hso : segO an K = M9 - 32 * K := by unfold segO; rw [hM9]
                    obtain ⟨o3, ho3⟩ : ∃ o, o = M9 - 32 * K := ⟨_, rfl⟩
                    obtain ⟨sp, hsp⟩ : ∃ t, t = s.extract (M9 - an) (E9 - an) := ⟨_, rfl⟩
                    have hps : sp.data.toList = segS an s.data.toList K := by rw [hsp, hM9, hE9, ← HST.out]; exact part_seg s an K
                    have hft : o3 + sp.size ≤ blk.size := by
                      have h1 : sp.size = sp.data.toList.length := by simp
                      rw [h1, hps, hbs, ho3, ← hso]
                      exact hfit.1
                    have HPS := Lib.hid hps
                    have HFT := Lib.hid hft
                    have HBS := Lib.hid hbs
                    have HBK := Lib.hid hblk
                    have HVI2 := Lib.hid hvi2
                    have HWI2 := Lib.hid hwi2
                    have HSO := Lib.hid (show segO an K = o3 from by rw [ho3]; exact hso)
                    have HEX := Lib.hid hsp
                    have HO3 := Lib.hid ho3
                    have HSL := Lib.hid (show s.size = l from by rw [← HST.out]; simp)
                    clear hM9 hE9 ho3 hps hft hbs hblk hso hsp hfit hdl hvi2 hwi2 HVI HWI HHF HPI HRN HCO HSZS cgK fgK cn7
                    go_wp2_with fail
                    refine (max_spec _ _ _).mono ?_
                    rintro e wm ⟨rfl, rfl⟩
                    rw [hm1]
                    go_wp2_with fail
                    refine (min_spec _ _ _).mono ?_
                    rintro e wm ⟨rfl, rfl⟩
                    rw [he1]
                    obtain ⟨S9, q1, q2, q3, q4, q5, q6, q7, q8, q9, q10⟩ := HWI2.out
                    go_upto_region 23 with (fail)
                    have ya0 : wc.cell? ⟨w1.heap.size, 3, none⟩ = some (.slice (some ⟨gd, 0, none⟩) 56 cd) := q1.cells.2.2.2
                    have ya1 : wc.cell? ⟨w2.heap.size, 7, none⟩ = some (.slice (some ⟨g, 0, none⟩) m c9) := q2.cell 7
                    have ya2 : wc.cell? ⟨g, K, none⟩ = some (.int .i64 (xn : Int)) := by
                      have hpk : o6 + pre.length = K := HPK.out
                      have hkl0 : K < l0.length := HKL0.out
                      rw [q3.cellAt K (by simpa using hKm), NiF.cells, List.getElem?_map, ← mid_set (xn : Int) (by rw [hpk]; exact hkl0), hpk, List.getElem?_set_self (by rw [mid_len (by omega)]; exact hkl0)]; rfl
                    have hdc := q1.dcell hx56
                    have ya3 : wc.cell? ⟨gd, xn, none⟩ = some (.string blk) := by
                      rw [hdc.1, HBK.out]; unfold dat; rw [Int.toNat_natCast]
                    have fg3 : wc.frozen? ⟨gd, xn, none⟩ = false := hdc.2
                    have yb0 : wc.drew.cell? ⟨w1.heap.size, 3, none⟩ = some (.slice (some ⟨gd, 0, none⟩) 56 cd) := ya0
                    have yb1 : wc.drew.cell? ⟨w2.heap.size, 7, none⟩ = some (.slice (some ⟨g, 0, none⟩) m c9) := ya1
                    have yb2 : wc.drew.cell? ⟨g, K, none⟩ = some (.int .i64 (xn : Int)) := ya2
                    have yb3 : wc.drew.cell? ⟨gd, xn, none⟩ = some (.string blk) := ya3
                    have hi0 : (0 : Int) ≤ xn := by omega
                    have hi1 : (xn : Int) < 56 := by omega
                    have hi2 : (0 : Int) ≤ K := by omega
                    have hi3 : (K : Int) < m := by omega
                    have hx1 : (0 : Int) ≤ (M9 : Int) - an := by omega
                    have hx2 : (M9 : Int) - an ≤ (E9 : Int) - an := by omega
                    have hx3 : (E9 : Int) - an ≤ l := by omega
                    have hx4 : ((M9 : Int) - an).toNat = M9 - an := by omega
                    have hx5 : ((E9 : Int) - an).toNat = E9 - an := by omega
                    have hx6 : (E9 : Int) - an ≤ s.size := by rw [HSL.out]; omega
                    have hx7 : (0 : Int) ≤ (E9 : Int) - an := by omega
                    have hz5 : an ≤ E9 := by omega
                    have hz6 : (an : Int) ≤ E9 := by omega
                    have hw0 : IntKind.i64.wrap ((K : Int) * 32) = (K : Int) * 32 := IntWalk.i64_in _ (by omega)
                    have hw1 : IntKind.i64.wrap ((M9 : Int) - (K : Int) * 32) = (M9 : Int) - (K : Int) * 32 := IntWalk.i64_in _ (by omega)
                    have hw2 : IntKind.i64.wrap ((M9 : Int) - (an : Int)) = (M9 : Int) - (an : Int) := IntWalk.i64_in _ (by omega)
                    have hw3 : IntKind.i64.wrap ((E9 : Int) - (an : Int)) = (E9 : Int) - (an : Int) := IntWalk.i64_in _ (by omega)
                    have hcq : ∀ W : World, (Instr.slice 9 (.string s) (some (.int .i64 ((M9 : Int) - (an : Int)))) (some (.int .i64 ((E9 : Int) - (an : Int)))) none).run Tryz.prog W = .ok (.string sp) W := fun W => by
                      rw [run_slice_string W 9 s .i64 .i64 _ _ Tryz.underlying9 hx1 hx2 hx6, hx4, hx5, HEX.out]
                    have hz1 : an ≤ M9 := by omega
                    have hv1 : E9 ≤ s.size + an := by rw [HSL.out]; omega
                    have hv2 : (E9 : Int) ≤ (s.size : Int) + (an : Int) := by rw [HSL.out]; omega
                    have hv3 : E9 ≤ an + s.size := by rw [HSL.out]; omega
                    have hv4 : (E9 : Int) ≤ (an : Int) + (s.size : Int) := by rw [HSL.out]; omega
                    have hz2 : M9 ≤ E9 := by omega
                    have hz3 : (an : Int) ≤ M9 := by omega
                    have hz4 : (M9 : Int) ≤ E9 := by omega
                    have hmg : (mid l0 o6 (pre ++ [(xn : Int)]))[K]? = some (xn : Int) := by
                      have hpk : o6 + pre.length = K := HPK.out
                      have hkl0 : K < l0.length := HKL0.out
                      rw [← mid_set (xn : Int) (by rw [hpk]; exact hkl0), hpk, List.getElem?_set_self (by rw [mid_len (by omega)]; exact hkl0)]
                    have HMG := Lib.hid hmg
                    have HKM := Lib.hid hKm
                    have HOI := Lib.hid (show (M9 : Int) - (K : Int) * 32 = (o3 : Int) from by have := HO3.out; omega)
                    have HDT := Lib.hid (show segD an s.data.toList o6 (pre ++ [(xn : Int)]) f.data = (segD an s.data.toList o6 pre f.data).set xn (putB blk o3 sp.data.toList) from by
                      rw [segD_snoc, HPK.out, HSO.out, ← HPS.out, ← HBK.out, Int.toNat_natCast])
                    clear hmg
                    clear q1 q2 q3 q4 q5 q6 q7 q8 q9 q10 hdc hlS hm1 he1 hx4 hx5 hx3 hx7 hv1 hv2 hv3 hv4 hz3 hz4 hz6 hz5 hz2 hz1 hx6 hx1 hx2
                    refine wp_region_held_drew (S := (fun w' => w'.cell? ⟨w1.heap.size, 3, none⟩ = some (.slice (some ⟨gd, 0, none⟩) 56 cd) ∧ w'.cell? ⟨w2.heap.size, 7, none⟩ = some (.slice (some ⟨g, 0, none⟩) m c9) ∧ w'.cell? ⟨g, K, none⟩ = some (.int .i64 (xn : Int)))) (by kernel_rfl) ⟨yb0, yb1, yb2⟩ (fun hHeld => ?_)
                    refine wpAnyH_take (i := 0) (v := ?_) rfl (by kernel_rfl) (by kernel_rfl) (by kernel_rfl) (fun _ _ _ h => h) (Or.inl ⟨by rfl, ?_⟩) (by assumption) ?_
                    rotate_left
                    · (intro wx hSw; (try dsimp only at hSw); go_simp; (try with_reducible rfl))
                    (try simp only [Act.put, List.setIfInBounds_toArray, List.set_cons_zero, List.set_cons_succ])
                    refine wpAnyH_take (i := 1) (v := ?_) rfl (by kernel_rfl) (by kernel_rfl) (by kernel_rfl) (fun _ _ _ h => h) (Or.inl ⟨by rfl, ?_⟩) (by assumption) ?_
                    rotate_left
                    · (intro wx hSw; (try dsimp only at hSw); go_simp; (try with_reducible rfl))
                    (try simp only [Act.put, List.setIfInBounds_toArray, List.set_cons_zero, List.set_cons_succ])
                    refine wpAnyH_take (i := 2) (v := ?_) rfl (by kernel_rfl) (by kernel_rfl) (by kernel_rfl) (fun _ _ _ h => h) (Or.inl ⟨by rfl, ?_⟩) (by assumption) ?_
                    rotate_left
                    · (intro wx hSw; (try dsimp only at hSw); go_simp; (try with_reducible rfl))
                    (try simp only [Act.put, List.setIfInBounds_toArray, List.set_cons_zero, List.set_cons_succ])
                    refine wpAnyH_take (i := 3) (v := ?_) rfl (by kernel_rfl) (by kernel_rfl) (by kernel_rfl) (fun _ _ _ h => h) (Or.inl ⟨by rfl, ?_⟩) (by assumption) ?_
                    rotate_left
                    · (intro wx hSw; (try dsimp only at hSw); go_simp; (try with_reducible rfl))
                    (try simp only [Act.put, List.setIfInBounds_toArray, List.set_cons_zero, List.set_cons_succ])
                    refine wpAnyH_take (i := 4) (v := ?_) rfl (by kernel_rfl) (by kernel_rfl) (by kernel_rfl) (fun _ _ _ h => h) (Or.inl ⟨by rfl, ?_⟩) (by assumption) ?_
                    rotate_left
                    · (intro wx hSw; (try dsimp only at hSw); go_simp; (try with_reducible rfl))
                    (try simp only [Act.put, List.setIfInBounds_toArray, List.set_cons_zero, List.set_cons_succ])
                    refine wpAnyH_take (i := 5) (v := ?_) rfl (by kernel_rfl) (by kernel_rfl) (by kernel_rfl) (fun _ _ _ h => h) (Or.inl ⟨by rfl, ?_⟩) (by assumption) ?_
                    rotate_left
                    · (intro wx hSw; (try dsimp only at hSw); go_simp; (try with_reducible rfl))
                    (try simp only [Act.put, List.setIfInBounds_toArray, List.set_cons_zero, List.set_cons_succ])
                    refine wpAnyH_take (i := 6) (v := ?_) rfl (by kernel_rfl) (by kernel_rfl) (by kernel_rfl) (fun _ _ _ h => h) (Or.inl ⟨by rfl, ?_⟩) (by assumption) ?_
                    rotate_left
                    · (intro wx hSw; (try dsimp only at hSw); go_simp; (try with_reducible rfl))
                    (try simp only [Act.put, List.setIfInBounds_toArray, List.set_cons_zero, List.set_cons_succ])
                    refine wpAnyH_take (i := 7) (v := ?_) rfl (by kernel_rfl) (by kernel_rfl) (by kernel_rfl) (fun _ _ _ h => h) (Or.inl ⟨by rfl, ?_⟩) (by assumption) ?_
                    rotate_left
                    · (intro wx hSw; (try dsimp only at hSw); go_simp; (try with_reducible rfl))
                    (try simp only [Act.put, List.setIfInBounds_toArray, List.set_cons_zero, List.set_cons_succ])
                    refine wpAnyH_take (i := 8) (v := ?_) rfl (by kernel_rfl) (by kernel_rfl) (by kernel_rfl) (fun _ _ _ h => h) (Or.inl ⟨by rfl, ?_⟩) (by assumption) ?_
                    rotate_left
                    · (intro wx hSw; (try dsimp only at hSw); go_simp; (try with_reducible rfl))
                    (try simp only [Act.put, List.setIfInBounds_toArray, List.set_cons_zero, List.set_cons_succ])
                    refine wpAnyH_take (i := 9) (v := ?_) rfl (by kernel_rfl) (by kernel_rfl) (by kernel_rfl) (fun _ _ _ h => h) (Or.inl ⟨by rfl, ?_⟩) (by assumption) ?_
                    rotate_left
                    · (intro wx hSw; (try dsimp only at hSw); go_simp; (try with_reducible rfl))
                    (try simp only [Act.put, List.setIfInBounds_toArray, List.set_cons_zero, List.set_cons_succ])
                    refine wpAnyH_take (i := 10) (v := ?_) rfl (by kernel_rfl) (by kernel_rfl) (by kernel_rfl) (fun _ _ _ h => h) (Or.inl ⟨by rfl, ?_⟩) (by assumption) ?_
                    rotate_left
                    · (intro wx hSw; (try dsimp only at hSw); go_simp; (try with_reducible rfl))
                    (try simp only [Act.put, List.setIfInBounds_toArray, List.set_cons_zero, List.set_cons_succ])
                    refine wpAnyH_take (i := 11) (v := ?_) rfl (by kernel_rfl) (by kernel_rfl) (by kernel_rfl) (fun _ _ _ h => h) (Or.inl ⟨by rfl, ?_⟩) (by assumption) ?_
                    rotate_left
                    · (intro wx hSw; (try dsimp only at hSw); go_simp; (try with_reducible rfl))
                    (try simp only [Act.put, List.setIfInBounds_toArray, List.set_cons_zero, List.set_cons_succ])
                    refine wpAnyH_take (i := 12) (v := ?_) rfl (by kernel_rfl) (by kernel_rfl) (by kernel_rfl) (fun _ _ _ h => h) (Or.inl ⟨by rfl, ?_⟩) (by assumption) ?_
                    rotate_left
                    · (intro wx hSw; (try dsimp only at hSw); go_simp; (try with_reducible rfl))
                    (try simp only [Act.put, List.setIfInBounds_toArray, List.set_cons_zero, List.set_cons_succ])
                    refine wpAnyH_take (i := 13) (v := ?_) rfl (by kernel_rfl) (by kernel_rfl) (by kernel_rfl) (fun _ _ _ h => h) (Or.inl ⟨by rfl, ?_⟩) (by assumption) ?_
                    rotate_left
                    · (intro wx hSw; (try dsimp only at hSw); go_simp; (try with_reducible rfl))
                    (try simp only [Act.put, List.setIfInBounds_toArray, List.set_cons_zero, List.set_cons_succ])
                    refine wpAnyH_take (i := 14) (v := ?_) rfl (by kernel_rfl) (by kernel_rfl) (by kernel_rfl) (fun _ _ _ h => h) (Or.inl ⟨by rfl, ?_⟩) (by assumption) ?_
                    rotate_left
                    · (intro wx hSw; (try dsimp only at hSw); go_simp; (try with_reducible rfl))
                    (try simp only [Act.put, List.setIfInBounds_toArray, List.set_cons_zero, List.set_cons_succ])
                    refine wpAnyH_take (i := 16) (v := ?_) rfl (by kernel_rfl) (by kernel_rfl) (by kernel_rfl) (fun _ _ _ h => h) (Or.inl ⟨by rfl, ?_⟩) (by assumption) ?_
                    rotate_left
                    · (intro wx hSw; (try dsimp only at hSw); go_simp; (try with_reducible rfl))
                    (try simp only [Act.put, List.setIfInBounds_toArray, List.set_cons_zero, List.set_cons_succ])
                    refine wpAnyH_take (i := 17) (v := ?_) rfl (by kernel_rfl) (by kernel_rfl) (by kernel_rfl) (fun _ _ _ h => h) (Or.inl ⟨by rfl, ?_⟩) (by assumption) ?_
                    rotate_left
                    · (intro wx hSw; (try dsimp only at hSw); go_simp; (try with_reducible rfl))
                    (try simp only [Act.put, List.setIfInBounds_toArray, List.set_cons_zero, List.set_cons_succ])
                    refine wpAnyH_take (i := 18) (v := ?_) rfl (by kernel_rfl) (by kernel_rfl) (by kernel_rfl) (fun _ _ _ h => h) (Or.inl ⟨by rfl, ?_⟩) (by assumption) ?_
                    rotate_left
                    · (intro wx hSw; (try dsimp only at hSw); go_simp; (try with_reducible rfl))
                    (try simp only [Act.put, List.setIfInBounds_toArray, List.set_cons_zero, List.set_cons_succ])
                    refine wpAnyH_take (i := 19) (v := ?_) rfl (by kernel_rfl) (by kernel_rfl) (by kernel_rfl) (fun _ _ _ h => h) (Or.inl ⟨by rfl, ?_⟩) (by assumption) ?_
                    rotate_left
                    · (intro wx hSw; (try dsimp only at hSw); go_simp; (try with_reducible rfl))
                    (try simp only [Act.put, List.setIfInBounds_toArray, List.set_cons_zero, List.set_cons_succ])
                    refine wpAnyH_take (i := 20) (v := ?_) rfl (by kernel_rfl) (by kernel_rfl) (by kernel_rfl) (fun _ _ _ h => h) (Or.inl ⟨by rfl, ?_⟩) (by assumption) ?_
                    rotate_left
                    · (intro wx hSw; (try dsimp only at hSw); go_simp; (try with_reducible rfl))
                    (try simp only [Act.put, List.setIfInBounds_toArray, List.set_cons_zero, List.set_cons_succ])
                    refine wpAnyH_take (i := 21) (v := ?_) rfl (by kernel_rfl) (by kernel_rfl) (by kernel_rfl) (fun _ _ _ h => h) (Or.inl ⟨by rfl, ?_⟩) (by assumption) ?_
                    rotate_left
                    · (intro wx hSw; (try dsimp only at hSw); go_simp; (try with_reducible rfl))
                    (try simp only [Act.put, List.setIfInBounds_toArray, List.set_cons_zero, List.set_cons_succ])
                    refine wpAnyH_take (i := 22) (v := ?_) rfl (by kernel_rfl) (by kernel_rfl) (by kernel_rfl) (fun _ _ _ h => h) (Or.inl ⟨by rfl, ?_⟩) (by assumption) ?_
                    rotate_left
                    · (intro wx hSw; (try dsimp only at hSw); go_simp; (try with_reducible rfl))
                    (try simp only [Act.put, List.setIfInBounds_toArray, List.set_cons_zero, List.set_cons_succ])
                    refine wpAnyH_take (i := 23) (v := ?_) rfl (by kernel_rfl) (by kernel_rfl) (by kernel_rfl) (fun _ _ _ h => h) (Or.inl ⟨by rfl, ?_⟩) (by assumption) ?_
                    rotate_left
                    · (intro wx hSw; (try dsimp only at hSw); go_simp; (try with_reducible rfl))
                    (try simp only [Act.put, List.setIfInBounds_toArray, List.set_cons_zero, List.set_cons_succ])
                    refine wpAnyH_take (i := 24) (v := ?_) rfl (by kernel_rfl) (by kernel_rfl) (by kernel_rfl) (fun _ _ _ h => h) (Or.inl ⟨by rfl, ?_⟩) (by assumption) ?_
                    rotate_left
                    · (intro wx hSw; (try dsimp only at hSw); go_simp; (try with_reducible rfl))
                    (try simp only [Act.put, List.setIfInBounds_toArray, List.set_cons_zero, List.set_cons_succ])
                    refine wpAnyH_take (i := 25) (v := ?_) rfl (by kernel_rfl) (by kernel_rfl) (by kernel_rfl) (fun _ _ _ h => h) (Or.inl ⟨by rfl, ?_⟩) (by assumption) ?_
                    rotate_left
                    · (intro wx hSw; (try dsimp only at hSw); go_simp; (try with_reducible rfl))
                    (try simp only [Act.put, List.setIfInBounds_toArray, List.set_cons_zero, List.set_cons_succ])
                    refine wpAnyH_take (i := 26) (v := ?_) rfl (by kernel_rfl) (by kernel_rfl) (by kernel_rfl) (fun _ _ _ h => h) (Or.inl ⟨by rfl, ?_⟩) (by assumption) ?_
                    rotate_left
                    · (intro wx hSw; (try dsimp only at hSw); go_simp; (try with_reducible rfl))
                    (try simp only [Act.put, List.setIfInBounds_toArray, List.set_cons_zero, List.set_cons_succ])
                    refine wpAnyH_take (i := 27) (v := ?_) rfl (by kernel_rfl) (by kernel_rfl) (by kernel_rfl) (fun _ _ _ h => h) (Or.inl ⟨by rfl, ?_⟩) (by assumption) ?_
                    rotate_left
                    · (intro wx hSw; (try dsimp only at hSw); go_simp; (try with_reducible rfl))
                    (try simp only [Act.put, List.setIfInBounds_toArray, List.set_cons_zero, List.set_cons_succ])
                    refine wpAnyH_ready (rs := [15]) (by kernel_rfl) (by simp) ?_
                    refine AllReadyH.cons rfl (fun KK hKK => ?_) AllReadyH.nil
                    go_simp
                    refine hKK.out _ _ ⟨yb0, yb1, yb2⟩ (fun hHeld2 => ?_)
                    clear hKK KK
                    (try simp only [Act.put, List.setIfInBounds_toArray, List.set_cons_zero, List.set_cons_succ])
                    clear hHeld
                    rename_i hHeld
                    refine wpAnyH_ready (rs := [28]) (by kernel_rfl) (by simp) ?_
                    refine AllReadyH.cons rfl (fun KK hKK => ?_) AllReadyH.nil
                    go_simp
                    (go_at_call 147; rw [HOI.out]; (with_reducible refine (SpPt.put_spec blk o3 sp _ (by have := HBS.out; omega) HFT.out).mono ?_); rintro e w7 ⟨rfl, hb⟩; have HWB := Lib.hid (wi_below HWI2.out ((Below.refl wc.heap.size wc).drew.trans hb)); obtain ⟨S7, t1, t2, t3, t4, t5, t6, t7, t8, t9, t10⟩ := HWB.out; have yv0 : w7.cell? ⟨w1.heap.size, 3, none⟩ = some (.slice (some ⟨gd, 0, none⟩) 56 cd) := t1.cells.2.2.2; have yv1 : w7.cell? ⟨w2.heap.size, 7, none⟩ = some (.slice (some ⟨g, 0, none⟩) m c9) := t2.cell 7; have yv2 : w7.cell? ⟨g, K, none⟩ = some (.int .i64 (xn : Int)) := (by rw [t3.cellAt K (by simpa using HKM.out), NiF.cells, List.getElem?_map, HMG.out]; rfl); have yv3 : w7.cell? ⟨gd, xn, none⟩ = some (.string blk) := (by rw [(t1.dcell hx56).1, HBK.out]; unfold dat; rw [Int.toNat_natCast]); have fg7 : w7.frozen? ⟨gd, xn, none⟩ = false := (t1.dcell hx56).2; have HW9 := Lib.hid (wi_data HWS.out HWB.out hx56 (putB blk o3 sp.data.toList)); obtain ⟨Z7, z1, z2, z3, z4⟩ := HW9.out; have yz0 : (w7.setCell ⟨gd, xn, none⟩ (.string (putB blk o3 sp.data.toList))).cell? ⟨w1.heap.size, 3, none⟩ = some (.slice (some ⟨gd, 0, none⟩) 56 cd) := z1.cells.2.2.2; have yz1 : (w7.setCell ⟨gd, xn, none⟩ (.string (putB blk o3 sp.data.toList))).cell? ⟨w2.heap.size, 7, none⟩ = some (.slice (some ⟨g, 0, none⟩) m c9) := z2.cell 7; have yz2 : (w7.setCell ⟨gd, xn, none⟩ (.string (putB blk o3 sp.data.toList))).cell? ⟨g, K, none⟩ = some (.int .i64 (xn : Int)) := (by rw [z3.cellAt K (by simpa using HKM.out), NiF.cells, List.getElem?_map, HMG.out]; rfl); clear t1 t2 t3 t4 t5 t6 t7 t8 t9 t10 hb z1 z2 z3 z4)
                    refine hKK.out _ _ ⟨yv0, yv1, yv2⟩ (fun hHeld2 => ?_)
                    clear hKK KK
                    (try simp only [Act.put, List.setIfInBounds_toArray, List.set_cons_zero, List.set_cons_succ])
                    clear hHeld
                    rename_i hHeld
                    refine wpAnyH_take (i := 29) (v := ?_) rfl (by kernel_rfl) (by kernel_rfl) (by kernel_rfl) (fun _ _ _ h => h) (Or.inl ⟨by rfl, ?_⟩) (by assumption) ?_
                    rotate_left
                    · (intro wx hSw; (try dsimp only at hSw); go_simp; (try with_reducible rfl))
                    (try simp only [Act.put, List.setIfInBounds_toArray, List.set_cons_zero, List.set_cons_succ])
                    refine wpAnyH_ready (rs := [30]) (by kernel_rfl) (by simp) ?_
                    refine AllReadyH.cons rfl (fun KK hKK => ?_) AllReadyH.nil
                    go_simp
                    refine hKK.out _ _ ⟨yz0, yz1, yz2⟩ (fun hHeld2 => ?_)
                    clear hKK KK
                    (try simp only [Act.put, List.setIfInBounds_toArray, List.set_cons_zero, List.set_cons_succ])
                    clear hHeld
                    rename_i hHeld
                    refine wpAnyH_done (by kernel_rfl) ?_ _
                    clear hHeld
                    have hW9 := HW9.out
                    rw [← HDT.out] at hW9
                    clear HW9
                    have HW9 := hW9
                    clear hW9 yz0 yz1 yz2
                    generalize w7.setCell ⟨gd, xn, none⟩ (.string (putB blk o3 sp.data.toList)) = w9 at HW9 ⊢
                    clear yv0 yv1 yv2 yv3 fg7 ya0 ya1 ya2 ya3 yb0 yb1 yb2 yb3 fg3
                    have HW9' := Lib.hid HW9
                    clear HW9
                    go_wp2
                    go_roundw
                    case rel => exact ⟨j + 1, pre ++ [(xn : Int)], s2, ins2, by omega, by rw [HK.out]; congr 1, HVI2.out, HW9'.out⟩
                    case measure =>
                      show L1 - ((K : Int) + 1).toNat < L1 - ((K : Int)).toNat
                      omega
                · have hjE : j = L1 - o6 := by omega
                  have hKE : K = L1 := by omega
                  have hal3 : ¬ (K * 32 < an + l) := by omega
                  have hjw : j = win.length := by rw [HWL.out]; exact hjE
                  have hr : wrR f n an l = (pre, 0) := by
                    rw [HRR.out]
                    have hvi := HVI.out
                    rw [hjw] at hvi
                    exact vi_end hvi
                  have hwe := FsZw.write_eq HG.out (s := s.data.toList) (a := an) (by rw [HST.out]; exact hl0) (by rw [HST.out]; exact hal) (by rw [HST.out, ← HN.out, hr])
                  rw [HST.out, ← HN.out, hr, ← HO6.out] at hwe
                  dsimp only at hwe
                  have hB : wrB f n an l = mid l0 o6 pre := by
                    unfold wrB mid
                    rw [hr, ← HNI.out, show N.blocks = l0 from by rw [HNE.out], ← HL1.out, ← HO6.out, HPL.out, show o6 + j = L1 from by omega]
                  obtain ⟨N8, hN8⟩ : ∃ N8 : I, N8 = { N with blocks := mid l0 o6 pre } := ⟨_, rfl⟩
                  have hset : ins.set k N8 = f.inodes.set k N8 := by
                    rcases HVI.out.2.2 with ⟨h1, _⟩ | h1
                    · rw [h1]
                    · rw [h1, ← hN8, List.set_set]
                  have HVE := Lib.hid (show writeV f k an s = (({ f with inodes := ins.set k N8, data := segD an s.data.toList o6 pre f.data } : F), 0) from by
                    rw [HVV.out, hr, if_pos rfl, ← HNI.out, hset, hN8]
                    unfold withV
                    rw [← HN.out]
                    dsimp only
                    rw [hwe, hB])
                  obtain ⟨S9, q1, q2, q3, q4, q5, q6, q7, q8, q9, q10⟩ := HWI.out
                  have hml : (mid l0 o6 pre).length = m := by
                    rw [mid_len (by rw [HPL.out, HL0.out]; omega), HL0.out]
                  have hnd : (fpR (.slice (some ⟨g, 0, none⟩) m c9) ++ fpR (.slice b1 n.acl.length e1) ++ fpR (.slice b2 n.dflt.length e2)).Nodup := by
                    have hgy := HWS.out.gy
                    have hy := HY.out
                    have hg9 : fpR (.slice (some ⟨g, 0, none⟩) m c9) = [g] := rfl
                    rw [hg9]
                    exact nodup_app (nodup_app (by simp) (fpR_nodup _) (fun x hx hh => by rw [List.mem_singleton] at hx; subst hx; exact hgy.1 hh)) (fpR_nodup _) (apart_app.2 ⟨fun x hx hh => by rw [List.mem_singleton] at hx; subst hx; exact hgy.2 hh, hy⟩)
                  have HI5 := Lib.hid (show In.Own wr wa.heap.size (.agg #[.int .i64 N.kind, .int .i64 N.mode, .int .i64 N.uid, .int .i64 N.gid, .int .i64 N.links, .int .i64 N.size, .int .i64 N.tick, .slice (some ⟨g, 0, none⟩) m c9, .slice b1 n.acl.length e1, .slice b2 n.dflt.length e2]) N8 (fpR (.slice (some ⟨g, 0, none⟩) m c9) ++ fpR (.slice b1 n.acl.length e1) ++ fpR (.slice b2 n.dflt.length e2)) from by
                    rw [hN8]
                    exact ⟨_, _, _, _, _, _, rfl, rfl, hnd, NiF.own_of (l := mid l0 o6 pre) (by rw [hml]; exact q3), q4, q5⟩)
                  have HTB := Lib.hid (show Apart (fpR (.slice (some ⟨g, 0, none⟩) m c9) ++ fpR (.slice b1 n.acl.length e1) ++ fpR (.slice b2 n.dflt.length e2)) S9 from fun x hx hh => q8 x hh (by
                    have hg9 : fpR (.slice (some ⟨g, 0, none⟩) m c9) = [g] := rfl
                    rw [hg9] at hx
                    unfold Rr
                    simp only [List.mem_append, List.mem_cons, List.mem_nil_iff, or_false] at hx ⊢
                    rcases hx with (hx | hx) | hx
                    · exact .inl (.inl (.inr (.inr (.inr (.inr hx)))))
                    · exact .inl (.inr hx)
                    · exact .inr hx))
                  have HBT := Lib.hid (show w1.heap.size ∉ fpR (.slice (some ⟨g, 0, none⟩) m c9) ++ fpR (.slice b1 n.acl.length e1) ++ fpR (.slice b2 n.dflt.length e2) from fun hh => by
                    have h1 := (In.own_lies HI5.out _ hh).1
                    omega)
                  have HF5 := Lib.hid q1
                  have HX5 := Lib.hid q2
                  have HR5 := Lib.hid q7
                  have HB5 := Lib.hid q10
                  clear q1 q2 q3 q4 q5 q6 q7 q8 q9 q10 hnd hml hB hwe hr hset hjw hN8 hK
                  obtain ⟨rr0, rr1, rr2, hCl, hPt⟩ := HF5.out.icell hk20
                  obtain ⟨m0, m1, m2, m3, m4, m5, m6, m7, m8, m9⟩ := hCl
                  clear hPt
                  have g0 : wr.frozen? ⟨gi, k * 10, none⟩ = false := HF5.out.ifree _
                  have g1 : wr.frozen? ⟨gi, k * 10 + 1, none⟩ = false := HF5.out.ifree _
                  have g2 : wr.frozen? ⟨gi, k * 10 + 2, none⟩ = false := HF5.out.ifree _
                  have g3 : wr.frozen? ⟨gi, k * 10 + 3, none⟩ = false := HF5.out.ifree _
                  have g4 : wr.frozen? ⟨gi, k * 10 + 4, none⟩ = false := HF5.out.ifree _
                  have g5 : wr.frozen? ⟨gi, k * 10 + 5, none⟩ = false := HF5.out.ifree _
                  have g6 : wr.frozen? ⟨gi, k * 10 + 6, none⟩ = false := HF5.out.ifree _
                  have g7 : wr.frozen? ⟨gi, k * 10 + 7, none⟩ = false := HF5.out.ifree _
                  have g8 : wr.frozen? ⟨gi, k * 10 + 8, none⟩ = false := HF5.out.ifree _
                  have g9 : wr.frozen? ⟨gi, k * 10 + 9, none⟩ = false := HF5.out.ifree _
                  obtain ⟨x0, x1, x2, x3⟩ := HF5.out.cells
                  clear x0 x1 x3
                  obtain ⟨y0, y1, y2, y3, y4, y5, y6, y7, y8, y9⟩ := Bk.c10 HX5.out
                  go_upto_region 25 with (fail)
                  obtain ⟨S', hfo, hsub⟩ := HF5.out.setI hk20 (In.own_mono HI5.out (show w0.heap.size ≤ wa.heap.size by omega)) HTB.out HBT.out
                  have hrc := FoB.row10_chg wr gi k (.int .i64 N.kind) (.int .i64 N.mode) (.int .i64 N.uid) (.int .i64 N.gid) (.int .i64 N.links) (.int .i64 N.size) (.int .i64 N.tick) (.slice (some ⟨g, 0, none⟩) m c9) (.slice b1 n.acl.length e1) (.slice b2 n.dflt.length e2)
                  have hgl := HF5.out.gi_lt
                  have hr2 := FoB.Bk.chg HR5.out hrc (fun hh => by rw [List.mem_singleton] at hh; omega)
                  have hb2 := HB5.out.trans (FoB.Chg.from hrc HB5.out.size (by omega))
                  unfold FoB.row10 at hfo hr2 hb2
                  generalize (((((((((wr.setCell ⟨gi, k * 10, none⟩ (.int .i64 N.kind)).setCell ⟨gi, k * 10 + 1, none⟩ (.int .i64 N.mode)).setCell ⟨gi, k * 10 + 2, none⟩ (.int .i64 N.uid)).setCell ⟨gi, k * 10 + 3, none⟩ (.int .i64 N.gid)).setCell ⟨gi, k * 10 + 4, none⟩ (.int .i64 N.links)).setCell ⟨gi, k * 10 + 5, none⟩ (.int .i64 N.size)).setCell ⟨gi, k * 10 + 6, none⟩ (.int .i64 N.tick)).setCell ⟨gi, k * 10 + 7, none⟩ (.slice (some ⟨g, 0, none⟩) m c9)).setCell ⟨gi, k * 10 + 8, none⟩ (.slice b1 n.acl.length e1)).setCell ⟨gi, k * 10 + 9, none⟩ (.slice b2 n.dflt.length e2) = wb at hfo hr2 hb2 ⊢
                  clear m0 m1 m2 m3 m4 m5 m6 m7 m8 m9 g0 g1 g2 g3 g4 g5 g6 g7 g8 g9 x2 hrc y0 y1 y2 y3 y4 y5 y6 y7 y8 y9
                  have HF := Lib.hid hfo
                  have HR2' := Lib.hid hr2
                  have HB2' := Lib.hid hb2
                  clear hfo hr2 hb2 hsub
                  obtain ⟨x0, x1, x2, x3⟩ := HF.out.cells
                  have HNS := Lib.hid (show w.heap.size + 1 ∉ S' from fun hh => by have := (HF.out.lies _ hh).1; omega)
                  have HOW := Lib.hid (FsF.own_mono HF.out.own HB0.out.size)
                  obtain ⟨r0, r1, r2, r3⟩ := Bk.c4 HR2'.out
                  have f0 := HR2'.out.free 0
                  have f1 := HR2'.out.free 1
                  have f2 := HR2'.out.free 2
                  have f3 := HR2'.out.free 3
                  go_wp2
                  have hF := FoB.box4_bk HR2'.out (.int .i64 f.tick) (.slice qa' f.quotas.length qc') (.slice (some ⟨gi, 0, none⟩) 20 ci) (.slice (some ⟨gd, 0, none⟩) 56 cd)
                  have hC9 := FoB.box4_chg wb (w.heap.size + 1) (.int .i64 f.tick) (.slice qa' f.quotas.length qc') (.slice (some ⟨gi, 0, none⟩) 20 ci) (.slice (some ⟨gd, 0, none⟩) 56 cd)
                  unfold FoB.box4 at hF hC9
                  generalize ((((wb.setCell ⟨w.heap.size + 1, 0, none⟩ (.int .i64 f.tick)).setCell ⟨w.heap.size + 1, 1, none⟩ (.slice qa' f.quotas.length qc')).setCell ⟨w.heap.size + 1, 2, none⟩ (.slice (some ⟨gi, 0, none⟩) 20 ci)).setCell ⟨w.heap.size + 1, 3, none⟩ (.slice (some ⟨gd, 0, none⟩) 56 cd)) = w9 at hF hC9 ⊢
                  obtain ⟨e0, e1, e2, e3⟩ := Bk.c4 hF
                  have hres := FsF.own_mono (FsF.own_chg HOW.out hC9 (fun x hx hh => by rw [List.mem_singleton] at hh; subst hh; exact HNS.out hx)) (show w.heap.size ≤ w.heap.size from Nat.le_refl _)
                  refine bodyPost_ret (v := .tuple #[.agg #[.int .i64 f.tick, .slice qa' f.quotas.length qc', .slice (some ⟨gi, 0, none⟩) 20 ci, .slice (some ⟨gd, 0, none⟩) 56 cd], .int .i64 0]) (by simp [results, Tryz.results80, go_sem, e0, e1, e2, e3]) rfl ?_
                  exact ⟨_, by rw [HVE.out], ⟨S', by rw [HVE.out]; exact hres⟩, HB2'.out.trans (FoB.Chg.from hC9 HB2'.out.size (Nat.le_succ _))⟩
end Go.Proofs.YtbbnginolidedaaGreatDoor.SpWr

-- YtbbnginolidedaaGreatDoorSpWe
/- Contract: the model's WriteBytes. Conditions: the cost, the string's size. -/
namespace Go.Proofs.YtbbnginolidedaaGreatDoor.SpWe
open Go.ChangeShapes Go.WideShapes Go.ChangeAt Go.RowKit
open Foot Bx
open InoV (I usedV needV)
open FsV (F okF e0 z32 usersB)
open FsY FsZ FoB CoN CoFr
set_option linter.unusedVariables false

set_option maxRecDepth 100000 in
set_option maxHeartbeats 12800000 in
theorem write_spec (w : World) (v : Value) (f : F) (i a : Int) (s : ByteArray) (hc : FsF.cost f ≤ 1073741824) (hl : FsF.Lim f) (hs : s.size ≤ 1073741824) (h : FsF.Holds w v f) :
    Calls Tryz.prog 28 #[v, .int .i64 i, .int .i64 a, .string s] w fun e w' => ∃ v' S, e = .returned (.tuple #[v', .int .i64 (writeV f i a s).2]) ∧ FsF.Own w' w.heap.size v' (writeV f i a s).1 S ∧ Below w.heap.size w w' := by
  have HFS := Lib.hid h
  have HCC := Lib.hid hc
  have HLM := Lib.hid hl
  have HS := Lib.hid hs
  obtain ⟨r0, r1, r2, rfl, g0, g1, g2⟩ := h
  have HI1 := Lib.hid g1
  obtain ⟨qa, qc, rfl⟩ := QF.form g0
  obtain ⟨ia, ic, rfl⟩ := IF.form g1
  obtain ⟨da, dc, rfl⟩ := SF.form g2
  clear g0 g1 g2 hc hl hs
  obtain ⟨T, hT⟩ : ∃ T, T = f.tick := ⟨_, rfl⟩
  obtain ⟨Q, hQ⟩ : ∃ Q, Q = f.quotas.length := ⟨_, rfl⟩
  obtain ⟨M, hM⟩ : ∃ M, M = f.inodes.length := ⟨_, rfl⟩
  obtain ⟨D, hD⟩ : ∃ D, D = f.data.length := ⟨_, rfl⟩
  rw [← hT, ← hQ, ← hM, ← hD] at HFS ⊢
  rw [← hM] at HI1
  have HM := Lib.hid hM
  clear hT hQ hM hD
  have HB0 := Lib.hid (((Below.refl w.heap.size w).alloc (Nat.le_refl _) (.cells #[.int .i64 T, .slice qa Q qc, .slice ia M ic, .slice da D dc] 27)).alloc (by simp) (.cells #[.int .i64 0, .slice none 0 0, .slice none 0 0, .slice none 0 0] 27))
  have HX0 := Lib.hid ((new w #[.int .i64 T, .slice qa Q qc, .slice ia M ic, .slice da D dc] 27).alloc (.cells #[.int .i64 0, .slice none 0 0, .slice none 0 0, .slice none 0 0] 27))
  have HR0 := Lib.hid (new_at (w.alloc (.cells #[.int .i64 T, .slice qa Q qc, .slice ia M ic, .slice da D dc] 27)) #[.int .i64 0, .slice none 0 0, .slice none 0 0, .slice none 0 0] 27 (w.heap.size + 1) (by simp))
  have HS0 := Lib.hid (show w.heap.size + 1 + 1 ≤ ((w.alloc (.cells #[.int .i64 T, .slice qa Q qc, .slice ia M ic, .slice da D dc] 27)).alloc (.cells #[.int .i64 0, .slice none 0 0, .slice none 0 0, .slice none 0 0] 27)).heap.size by simp)
  have HCP := Lib.hid (fun (W : World) (hb : Below w.heap.size w W) => CoS.copy_spec W _ f HCC.out (FsF.holds_below HFS.out hb))
  obtain ⟨C, hC⟩ : ∃ C, C = hasObjB f i := ⟨_, rfl⟩
  have HHA := Lib.hid (fun W (hw : Below w.heap.size w W) => show Calls Tryz.prog 78 #[.agg #[.int .i64 T, .slice qa Q qc, .slice ia M ic, .slice da D dc], .int .i64 i] W fun e w' => e = .returned (.bool C) ∧ Below W.heap.size W w' from by rw [hC]; exact SpR.use_spec W _ f i HCC.out HLM.out (FsF.holds_below HFS.out hw))
  have HCE := Lib.hid hC
  cases C
  · have HVV := Lib.hid (show writeV f i a s = (f, 1) from by unfold writeV; rw [← hC]; rfl)
    clear hC
    go_enter Tryz.func28, Tryz.ntmps28
    go_wp2_with fail
    refine (HHA.out _ HB0.out).mono ?_
    rintro e w1 ⟨rfl, hb⟩
    have HB1 := Lib.hid (HB0.out.trans (hb.mono HB0.out.size))
    have HX1 := Lib.hid (HX0.out.all hb)
    have HR1 := Lib.hid (HR0.out.all hb)
    have HS1 := Lib.hid (Nat.le_trans HS0.out hb.size)
    clear hb
    obtain ⟨x0, x1, x2, x3⟩ := Bk.c4 HX1.out
    go_wp2_with fail
    refine (HCP.out _ HB1.out).mono ?_
    rintro e w2 ⟨y, S, rfl, hown, hb⟩
    obtain ⟨z0, z1a, z1n, z1c, z2a, z2n, z2c, z3a, z3n, z3c, rfl⟩ := FsF.own_form hown
    have HB2 := Lib.hid (HB1.out.trans (hb.mono HB1.out.size))
    have HR2 := Lib.hid (HR1.out.all hb)
    have HNS := Lib.hid (show w.heap.size + 1 ∉ S from fun hh => by have h1 := (FsF.own_lies hown _ hh).1; have h2 := HS1.out; omega)
    have HOW := Lib.hid (FsF.own_mono hown HB1.out.size)
    clear hb hown
    obtain ⟨r0, r1, r2, r3⟩ := Bk.c4 HR2.out
    have f0 := HR2.out.free 0
    have f1 := HR2.out.free 1
    have f2 := HR2.out.free 2
    have f3 := HR2.out.free 3
    go_wp2
    have hF := FoB.box4_bk HR2.out (.int .i64 z0) (.slice z1a z1n z1c) (.slice z2a z2n z2c) (.slice z3a z3n z3c)
    have hC9 := FoB.box4_chg w2 (w.heap.size + 1) (.int .i64 z0) (.slice z1a z1n z1c) (.slice z2a z2n z2c) (.slice z3a z3n z3c)
    unfold FoB.box4 at hF hC9
    generalize ((((w2.setCell ⟨w.heap.size + 1, 0, none⟩ (.int .i64 z0)).setCell ⟨w.heap.size + 1, 1, none⟩ (.slice z1a z1n z1c)).setCell ⟨w.heap.size + 1, 2, none⟩ (.slice z2a z2n z2c)).setCell ⟨w.heap.size + 1, 3, none⟩ (.slice z3a z3n z3c)) = w9 at hF hC9 ⊢
    obtain ⟨e0, e1, e2, e3⟩ := Bk.c4 hF
    have hres := FsF.own_mono (FsF.own_chg HOW.out hC9 (fun x hx hh => by rw [List.mem_singleton] at hh; subst hh; exact HNS.out hx)) (show w.heap.size ≤ w.heap.size from Nat.le_refl _)
    refine bodyPost_ret (v := .tuple #[.agg #[.int .i64 z0, .slice z1a z1n z1c, .slice z2a z2n z2c, .slice z3a z3n z3c], .int .i64 1]) (by simp [results, Tryz.results28, go_sem, e0, e1, e2, e3]) rfl ?_
    exact ⟨_, S, by rw [HVV.out], by rw [HVV.out]; exact hres, HB2.out.trans (FoB.Chg.from hC9 HB2.out.size (Nat.le_succ _))⟩
  · obtain ⟨k, rfl, hg⟩ := good_of hC.symm
    obtain ⟨⟨vf, vc⟩, hVV⟩ : ∃ p, p = writeV f k a s := ⟨_, rfl⟩
    have HLW := Lib.hid (fun W (hw : Below w.heap.size w W) => SpWr.lwrite_spec W _ f k a s HCC.out HCE.out.symm HS.out (FsF.holds_below HFS.out hw))
    rw [← hVV] at HLW
    have HVV := Lib.hid hVV.symm
    clear hC hg hVV
    go_enter Tryz.func28, Tryz.ntmps28
    go_wp2_with fail
    refine (HHA.out _ HB0.out).mono ?_
    rintro e w1 ⟨rfl, hb⟩
    have HB1 := Lib.hid (HB0.out.trans (hb.mono HB0.out.size))
    have HX1 := Lib.hid (HX0.out.all hb)
    have HR1 := Lib.hid (HR0.out.all hb)
    have HS1 := Lib.hid (Nat.le_trans HS0.out hb.size)
    clear hb
    obtain ⟨x0, x1, x2, x3⟩ := Bk.c4 HX1.out
    go_wp2_with fail
    refine (HLW.out _ HB1.out).mono ?_
    rintro e w2 ⟨y, S, rfl, hown, hb⟩
    obtain ⟨z0, z1a, z1n, z1c, z2a, z2n, z2c, z3a, z3n, z3c, rfl⟩ := FsF.own_form hown
    have HB2 := Lib.hid (HB1.out.trans (hb.mono HB1.out.size))
    have HR2 := Lib.hid (HR1.out.all hb)
    have HNS := Lib.hid (show w.heap.size + 1 ∉ S from fun hh => by have h1 := (FsF.own_lies hown _ hh).1; have h2 := HS1.out; omega)
    have HOW := Lib.hid (FsF.own_mono hown HB1.out.size)
    clear hb hown
    obtain ⟨r0, r1, r2, r3⟩ := Bk.c4 HR2.out
    have f0 := HR2.out.free 0
    have f1 := HR2.out.free 1
    have f2 := HR2.out.free 2
    have f3 := HR2.out.free 3
    go_wp2
    have hF := FoB.box4_bk HR2.out (.int .i64 z0) (.slice z1a z1n z1c) (.slice z2a z2n z2c) (.slice z3a z3n z3c)
    have hC9 := FoB.box4_chg w2 (w.heap.size + 1) (.int .i64 z0) (.slice z1a z1n z1c) (.slice z2a z2n z2c) (.slice z3a z3n z3c)
    unfold FoB.box4 at hF hC9
    generalize ((((w2.setCell ⟨w.heap.size + 1, 0, none⟩ (.int .i64 z0)).setCell ⟨w.heap.size + 1, 1, none⟩ (.slice z1a z1n z1c)).setCell ⟨w.heap.size + 1, 2, none⟩ (.slice z2a z2n z2c)).setCell ⟨w.heap.size + 1, 3, none⟩ (.slice z3a z3n z3c)) = w9 at hF hC9 ⊢
    obtain ⟨e0, e1, e2, e3⟩ := Bk.c4 hF
    have hres := FsF.own_mono (FsF.own_chg HOW.out hC9 (fun x hx hh => by rw [List.mem_singleton] at hh; subst hh; exact HNS.out hx)) (show w.heap.size ≤ w.heap.size from Nat.le_refl _)
    refine bodyPost_ret (v := .tuple #[.agg #[.int .i64 z0, .slice z1a z1n z1c, .slice z2a z2n z2c, .slice z3a z3n z3c], .int .i64 vc]) (by simp [results, Tryz.results28, go_sem, e0, e1, e2, e3]) rfl ?_
    exact ⟨_, S, by rw [HVV.out], by rw [HVV.out]; exact hres, HB2.out.trans (FoB.Chg.from hC9 HB2.out.size (Nat.le_succ _))⟩
end Go.Proofs.YtbbnginolidedaaGreatDoor.SpWe
