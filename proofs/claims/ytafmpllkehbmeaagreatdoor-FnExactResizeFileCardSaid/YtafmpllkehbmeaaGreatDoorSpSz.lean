/- Contract: the model's function that resizes: blocks are cut off, the last one is padded, holes are appended. Conditions: the cost. -/
import Derived.Test.YtafmpllkehbmeaaGreatDoorSpFe
import Derived.Test.YtafmpllkehbmeaaGreatDoorFsZr
import Derived.Test.YtafmpllkehbmeaaGreatDoorCoW
import Derived.Test.YtafmpllkehbmeaaGreatDoorClS
import Derived.Test.YtafmpllkehbmeaaGreatDoorCoL
import Derived.Deep.RegionLaw
import Derived.Deep.Cut
namespace Go.Proofs.YtafmpllkehbmeaaGreatDoor.SpSz
open Go.ChangeShapes Go.WideShapes Go.ChangeAt Go.RowKit
open Foot Bx
open InoV (I usedV needV)
open FsV (F okF e0 z32 usersB)
open FsY FsZ FoB CoN CoFr SpFe
set_option linter.unusedVariables false

/-- While blocks are cut off: the copy's box, the inode's, its rows, the answer's box. -/
def Cut (w : World) (lo b nb B : Nat) (f : F) (n : I) (q : Value) (gi ci gd cd : Nat) (S : List Nat) (a : Option Addr) (c : Nat) (y1 y2 : Value) (j : Nat) (d : List ByteArray) (W : World) : Prop :=
  FO W lo b { f with data := d } q gi ci gd cd S ∧ Bk W nb #[.int .i64 n.kind, .int .i64 n.mode, .int .i64 n.uid, .int .i64 n.gid, .int .i64 n.links, .int .i64 n.size, .int .i64 n.tick, .slice a (n.blocks.length - j) c, y1, y2] 34 ∧ W.ownsRow B 3 1 (.slice a n.blocks.length c) n.blocks.length (NiF.cells n.blocks) ∧ AeF.Own W B y1 n.acl (fpR y1) ∧ AeF.Own W B y2 n.dflt (fpR y2) ∧ Bk W (w.heap.size + 1) #[.int .i64 0, .slice none 0 0, .slice none 0 0, .slice none 0 0] 27 ∧ Below w.heap.size w W

/-- What lies apart from what. -/
def Far (w : World) (b nb gd : Nat) (S R : List Nat) : Prop := (∀ k ∈ S, w.heap.size + 1 < k ∧ k < b) ∧ b < nb ∧ (∀ k ∈ R, b < k ∧ k < nb) ∧ gd ∈ S
section
variable {w W : World} {lo b nb B : Nat} {f : F} {n : I} {q : Value} {gi ci gd cd : Nat} {S : List Nat} {a : Option Addr} {c : Nat} {y1 y2 : Value} {j : Nat} {d : List ByteArray}
theorem cut_below {W' : World} (h : Cut w lo b nb B f n q gi ci gd cd S a c y1 y2 j d W) (hb : Below W.heap.size W W') : Cut w lo b nb B f n q gi ci gd cd S a c y1 y2 j d W' := by
  obtain ⟨h1, h2, h3, h4, h5, h6, h7⟩ := h
  exact ⟨h1.below hb, h2.all hb, row_below h3 hb, AeF.own_below h4 hb, AeF.own_below h5 hb, h6.all hb, h7.trans (hb.mono h7.size)⟩
theorem cut_next {J : Nat} (h : Cut w lo b nb B f n q gi ci gd cd S a c y1 y2 j d W) (hf : Far w b nb gd S (fpR (.slice a n.blocks.length c) ++ fpR y1 ++ fpR y2)) (hJ : J + 1 = n.blocks.length - j) : Cut w lo b nb B f n q gi ci gd cd S a c y1 y2 (j + 1) d (W.setCell ⟨nb, 7, none⟩ (.slice a J c)) := by
  obtain ⟨h1, h2, h3, h4, h5, h6, h7⟩ := h
  obtain ⟨k1, k2, k3, k4⟩ := hf
  have k5 := k1 gd k4
  have hc : Chg W (W.setCell ⟨nb, 7, none⟩ (.slice a J c)) [nb] := chg_set W ⟨nb, 7, none⟩ (.slice a J c)
  have ap : ∀ T : List Nat, (∀ k ∈ T, k < nb) → Apart T [nb] := fun T hT k hk hh => by have := hT k hk; rw [List.mem_singleton] at hh; omega
  have h2' := Bk.put (l := [.int .i64 n.kind, .int .i64 n.mode, .int .i64 n.uid, .int .i64 n.gid, .int .i64 n.links, .int .i64 n.size, .int .i64 n.tick, .slice a (n.blocks.length - j) c, y1, y2]) h2 7 (.slice a J c)
  refine ⟨h1.chg hc (by rw [List.mem_singleton]; omega) (ap _ fun k hk => by have := k1 k hk; omega), ?_, row_chg h3 hc (ap _ fun k hk => (k3 k (by simp [hk])).2), AeF.own_chg h4 hc (ap _ fun k hk => (k3 k (by simp [hk])).2), AeF.own_chg h5 hc (ap _ fun k hk => (k3 k (by simp [hk])).2), FoB.Bk.chg h6 hc (by rw [List.mem_singleton]; omega), h7.trans (FoB.Chg.from hc h7.size (by omega))⟩
  rw [show n.blocks.length - (j + 1) = J by omega]
  exact h2'
theorem cut_data {t : Nat} (h : Cut w lo b nb B f n q gi ci gd cd S a c y1 y2 j d W) (hf : Far w b nb gd S (fpR (.slice a n.blocks.length c) ++ fpR y1 ++ fpR y2)) (ht : t < 56) (s : ByteArray) : Cut w lo b nb B f n q gi ci gd cd S a c y1 y2 j (d.set t s) (W.setCell ⟨gd, t, none⟩ (.string s)) := by
  obtain ⟨h1, h2, h3, h4, h5, h6, h7⟩ := h
  obtain ⟨k1, k2, k3, k4⟩ := hf
  have k5 := k1 gd k4
  have hc : Chg W (W.setCell ⟨gd, t, none⟩ (.string s)) [gd] := chg_set W ⟨gd, t, none⟩ (.string s)
  have ap : ∀ T : List Nat, (∀ k ∈ T, gd < k) → Apart T [gd] := fun T hT k hk hh => by have := hT k hk; rw [List.mem_singleton] at hh; omega
  exact ⟨h1.setD ht s, FoB.Bk.chg h2 hc (by rw [List.mem_singleton]; omega), row_chg h3 hc (ap _ fun k hk => by have := (k3 k (by simp [hk])).1; omega), AeF.own_chg h4 hc (ap _ fun k hk => by have := (k3 k (by simp [hk])).1; omega), AeF.own_chg h5 hc (ap _ fun k hk => by have := (k3 k (by simp [hk])).1; omega), FoB.Bk.chg h6 hc (by rw [List.mem_singleton]; omega), h7.trans (FoB.Chg.from hc h7.size (by omega))⟩
end
/-- While holes are appended. -/
def Grw (w : World) (lo b nb B : Nat) (f : F) (n : I) (q : Value) (gi ci gd cd : Nat) (S : List Nat) (a0 : Option Addr) (c0 : Nat) (y1 y2 : Value) (X m : Nat) (d : List ByteArray) (jj : Nat) (a : Option Addr) (c : Nat) (W : World) : Prop :=
  FO W lo b { f with data := d } q gi ci gd cd S ∧ Bk W nb #[.int .i64 n.kind, .int .i64 n.mode, .int .i64 n.uid, .int .i64 n.gid, .int .i64 n.links, .int .i64 n.size, .int .i64 n.tick, .slice a (X + jj) c, y1, y2] 34 ∧ (X < m → X = n.blocks.length ∧ W.ownsRow B 3 1 (.slice a (X + jj) c) (X + jj) (NiF.cells (CoW.grown n.blocks jj))) ∧ (m ≤ X → X = m ∧ m ≤ n.blocks.length ∧ a = a0 ∧ c = c0 ∧ jj = 0 ∧ W.ownsRow B 3 1 (.slice a0 n.blocks.length c0) n.blocks.length (NiF.cells n.blocks)) ∧ AeF.Own W B y1 n.acl (fpR y1) ∧ AeF.Own W B y2 n.dflt (fpR y2) ∧ Bk W (w.heap.size + 1) #[.int .i64 0, .slice none 0 0, .slice none 0 0, .slice none 0 0] 27 ∧ Below w.heap.size w W
theorem grw_row {w W : World} {lo b nb B : Nat} {f : F} {n : I} {q : Value} {gi ci gd cd : Nat} {S : List Nat} {a0 : Option Addr} {c0 : Nat} {y1 y2 : Value} {X m : Nat} {d : List ByteArray} {jj : Nat} {a : Option Addr} {c : Nat} (h : Grw w lo b nb B f n q gi ci gd cd S a0 c0 y1 y2 X m d jj a c W) (hj : X + jj = m) : NiF.Own W B (.slice a m c) (holes n.blocks m) (fpR (.slice a m c)) ∧ Apart (fpR (.slice a m c)) (fpR y1) ∧ Apart (fpR (.slice a m c)) (fpR y2) := by
  obtain ⟨_, _, h3, h4, h5, h6, _⟩ := h
  by_cases hX : X < m
  · obtain ⟨rfl, hr⟩ := h3 hX
    rw [hj] at hr
    have := CoW.own_cut (m := m) (c1 := c) hr (Nat.le_refl _) (CoW.row_wide hr) (Nat.le_refl _)
    rw [CoW.grown_holes (by omega)] at this
    exact ⟨this, FsM.rows_apart hr h5.1 (by decide), FsM.rows_apart hr h6.1 (by decide)⟩
  · obtain ⟨rfl, hl, rfl, rfl, rfl, hr⟩ := h4 (by omega)
    have := CoW.own_cut (m := X) (c1 := c) hr hl (by have := CoW.row_wide hr; omega) (Nat.le_refl _)
    have e := CoW.grown_holes (l := n.blocks) (m := X) (j := 0) (by omega)
    rw [CoW.grown_zero] at e
    rw [e] at this
    refine ⟨this, ?_, ?_⟩
    · rw [NiF.fpR_slice a X c n.blocks.length c]; exact FsM.rows_apart hr h5.1 (by decide)
    · rw [NiF.fpR_slice a X c n.blocks.length c]; exact FsM.rows_apart hr h6.1 (by decide)
theorem grw_app {w W w6 : World} {lo b nb B : Nat} {f : F} {n : I} {q : Value} {gi ci gd cd : Nat} {S : List Nat} {a0 : Option Addr} {c0 : Nat} {y1 y2 : Value} {X m : Nat} {d : List ByteArray} {jj : Nat} {a b6 : Option Addr} {c c6 : Nat} (h : Grw w lo b nb B f n q gi ci gd cd S a0 c0 y1 y2 X m d jj a c W) (hlt : X + jj < m) (hw : w.heap.size ≤ B) (hB : B ≤ nb) (hb : b < B) (hS : ∀ k ∈ S, k < b)
    (hown : w6.ownsRow B 3 1 (.slice b6 (X + jj + 1) c6) (X + jj + 1) (NiF.cells (CoW.grown n.blocks jj) ++ [.int .i64 (-1)])) (hg : (W.alloc (.cells #[.int .i64 (-1)] 3)).grownBy w6 (Value.slice a (X + jj) c).ownBlock) : Grw w lo b nb B f n q gi ci gd cd S a0 c0 y1 y2 X m d (jj + 1) b6 c6 (w6.setCell ⟨nb, 7, none⟩ (.slice b6 (X + jj + 1) c6)) := by
  obtain ⟨h1, h2, h3, h4, h5, h6, h7, h8⟩ := h
  obtain ⟨hXL, hr⟩ := h3 (by omega)
  have hbA : Below W.heap.size W (W.alloc (.cells #[.int .i64 (-1)] 3)) := (Below.refl _ _).alloc (Nat.le_refl _) _
  replace hr := row_below hr hbA
  replace h1 := h1.below hbA
  replace h2 := h2.all hbA
  replace h5 := AeF.own_below h5 hbA
  replace h6 := AeF.own_below h6 hbA
  replace h7 := h7.all hbA
  replace h8 := h8.trans (hbA.mono h8.size)
  clear hbA
  generalize W.alloc (.cells #[.int .i64 (-1)] 3) = W1 at *
  have hc : Chg W1 w6 (fpR (.slice a (X + jj) c)) := Chg.of_grown hg
  have hl := row_lies hr
  replace h1 := h1.chg hc (fun hh => by have := (hl _ hh).1; omega) (fun k hk hh => by have := (hl _ hh).1; have := hS k hk; omega)
  replace h2 := FoB.Bk.chg h2 hc (CoL.row_nin hr h2 (by decide))
  replace h5 := AeF.own_chg h5 hc (FsM.rows_apart h5.1 hr (by decide))
  replace h6 := AeF.own_chg h6 hc (FsM.rows_apart h6.1 hr (by decide))
  replace h7 := FoB.Bk.chg h7 hc (CoL.row_nin hr h7 (by decide))
  replace h8 := h8.trans (hc.below h8.size (fun k hk => by have := (hl _ hk).1; omega))
  have hc2 := chg_set w6 ⟨nb, 7, none⟩ (.slice b6 (X + jj + 1) c6)
  have hX : Bk _ nb #[.int .i64 n.kind, .int .i64 n.mode, .int .i64 n.uid, .int .i64 n.gid, .int .i64 n.links, .int .i64 n.size, .int .i64 n.tick, .slice b6 (X + jj + 1) c6, y1, y2] _ := Bk.put (l := [.int .i64 n.kind, .int .i64 n.mode, .int .i64 n.uid, .int .i64 n.gid, .int .i64 n.links, .int .i64 n.size, .int .i64 n.tick, .slice a (X + jj) c, y1, y2]) h2 7 (.slice b6 (X + jj + 1) c6)
  have one : ∀ T : List Nat, nb ∉ T → Apart T [nb] := fun T hT k hk hh => by rw [List.mem_singleton] at hh; exact hT (hh ▸ hk)
  refine ⟨h1.chg hc2 (by simp; omega) (one _ fun hh => by have := hS _ hh; omega), hX, fun _ => ⟨hXL, ?_⟩, fun hh => absurd hh (by omega), AeF.own_chg h5 hc2 (one _ (CoL.row_nin h5.1 h2 (by decide))), AeF.own_chg h6 hc2 (one _ (CoL.row_nin h6.1 h2 (by decide))), FoB.Bk.chg h7 hc2 (fun hh => by rw [List.mem_singleton] at hh; exact FsM.bk_ne h7 h2 (by decide) hh), h8.trans (FoB.Chg.from hc2 h8.size (show w.heap.size ≤ nb by omega))⟩
  rw [CoW.grown_succ]
  exact row_chg hown hc2 (one _ (CoL.row_nin hown h2 (by decide)))
theorem grw_fin {w W : World} {lo b nb B : Nat} {f : F} {n : I} {q : Value} {gi ci gd cd : Nat} {S : List Nat} {a0 : Option Addr} {c0 : Nat} {y1 y2 : Value} {X m : Nat} {d : List ByteArray} {jj : Nat} {a : Option Addr} {c : Nat} (h : Grw w lo b nb B f n q gi ci gd cd S a0 c0 y1 y2 X m d jj a c W) (hj : X + jj = m) (hy : Apart (fpR y1) (fpR y2)) (z : Int) : In.Own W B (.agg #[.int .i64 n.kind, .int .i64 n.mode, .int .i64 n.uid, .int .i64 n.gid, .int .i64 n.links, .int .i64 z, .int .i64 n.tick, .slice a m c, y1, y2]) { n with size := z, blocks := holes n.blocks m } (fpR (.slice a m c) ++ fpR y1 ++ fpR y2) := by
  obtain ⟨r1, r2, r3⟩ := grw_row h hj
  obtain ⟨_, _, _, _, h5, h6, _⟩ := h
  have e : (.slice a m c : Value) = .slice a (holes n.blocks m).length c := by rw [holes_len]
  exact ⟨_, _, _, _, _, _, rfl, rfl, nodup_app (nodup_app (fpR_nodup _) (fpR_nodup _) r2) (fpR_nodup _) (apart_app.2 ⟨r3, hy⟩), r1, h5, h6⟩
theorem cutZ_step {bs : List Int} {m J : Nat} {d e : List ByteArray} {L : Nat} (hJ : J + 1 = L) (hm : m < J + 1) (h : FsZr.cutZ bs (L - m) L d = e) : FsZr.cutZ bs (J - m) J (if bs.getD J 0 = -1 then d else d.set (bs.getD J 0).toNat z32) = e := by
  subst hJ
  rw [show J + 1 - m = (J - m) + 1 by omega, FsZr.cutZ] at h
  exact h

set_option maxRecDepth 100000 in
set_option maxHeartbeats 12800000 in
theorem lresize_spec (w : World) (v : Value) (f : F) (k : Nat) (z : Int) (hc : FsF.cost f ≤ 1073741824) (g : GoodF f k) (hz0 : 0 ≤ z) (hz1 : z ≤ 256) (h : FsF.Holds w v f) :
    Calls Tryz.prog 105 #[v, .int .i64 k, .int .i64 z] w fun e w' => ∃ v' S, e = .returned v' ∧ FsF.Own w' w.heap.size v' (withV f k (sized (ino f k) z) ((content f.data (ino f k).blocks).take z.toNat ++ Z (256 - z.toNat))) S ∧ Below w.heap.size w w' := by
  have HFS := Lib.hid h
  have HCC := Lib.hid hc
  have HG := Lib.hid g
  have hk20 : k < 20 := g.lt
  obtain ⟨r0, r1, r2, rfl, g0, g1, g2⟩ := h
  have HIL := Lib.hid (show f.inodes.length = 20 from (FsV.parts_of (FsV.ok_parts g.ok).2.1).2.1)
  have HDL := Lib.hid g.dlen
  obtain ⟨qa, qc, rfl⟩ := QF.form g0
  obtain ⟨ia, ic, rfl⟩ := IF.form g1
  obtain ⟨da, dc, rfl⟩ := SF.form g2
  clear g0 g1 g2 hc
  have HCA := Lib.hid (fun (W : World) (hw : Below w.heap.size w W) => show Calls Tryz.prog 91 #[.agg #[.int .i64 f.tick, .slice qa f.quotas.length qc, .slice ia f.inodes.length ic, .slice da f.data.length dc]] W fun e w' => ∃ v' S, e = .returned v' ∧ FsF.Own w' W.heap.size v' f S ∧ Below W.heap.size W w' from CoS.copy_spec W _ f HCC.out (FsF.holds_below HFS.out hw))
  have HCX := Lib.hid (show In.cost (ino f k) ≤ 1073741824 from Nat.le_trans (IF.cost_mem g.mem) (Nat.le_trans (Nat.le_trans (Nat.le_add_left _ _) (FsF.le_inodes f)) HCC.out))
  obtain ⟨T, hT⟩ : ∃ T, T = f.tick := ⟨_, rfl⟩
  obtain ⟨Q, hQ⟩ : ∃ Q, Q = f.quotas.length := ⟨_, rfl⟩
  obtain ⟨M, hM⟩ : ∃ M, M = f.inodes.length := ⟨_, rfl⟩
  obtain ⟨D, hD⟩ : ∃ D, D = f.data.length := ⟨_, rfl⟩
  rw [← hT, ← hQ, ← hM, ← hD] at HFS HCA ⊢
  clear hT hQ hM hD g
  have HB0 := Lib.hid (((Below.refl w.heap.size w).alloc (Nat.le_refl _) (.cells #[.int .i64 T, .slice qa Q qc, .slice ia M ic, .slice da D dc] 27)).alloc (by simp) (.cells #[.int .i64 0, .slice none 0 0, .slice none 0 0, .slice none 0 0] 27))
  have HX0 := Lib.hid ((new w #[.int .i64 T, .slice qa Q qc, .slice ia M ic, .slice da D dc] 27).alloc (.cells #[.int .i64 0, .slice none 0 0, .slice none 0 0, .slice none 0 0] 27))
  have HR0 := Lib.hid (new_at (w.alloc (.cells #[.int .i64 T, .slice qa Q qc, .slice ia M ic, .slice da D dc] 27)) #[.int .i64 0, .slice none 0 0, .slice none 0 0, .slice none 0 0] 27 (w.heap.size + 1) (by simp))
  have HS0 := Lib.hid (show w.heap.size + 1 + 1 ≤ ((w.alloc (.cells #[.int .i64 T, .slice qa Q qc, .slice ia M ic, .slice da D dc] 27)).alloc (.cells #[.int .i64 0, .slice none 0 0, .slice none 0 0, .slice none 0 0] 27)).heap.size by simp)
  go_enter Tryz.func105, Tryz.ntmps105
  go_wp2_with fail
  generalize (w.alloc (.cells #[.int .i64 T, .slice qa Q qc, .slice ia M ic, .slice da D dc] 27)).alloc (.cells #[.int .i64 0, .slice none 0 0, .slice none 0 0, .slice none 0 0] 27) = w0 at *
  refine (HCA.out _ HB0.out).mono ?_
  rintro e w1 ⟨y, S, rfl, hown, hb⟩
  obtain ⟨qa', ql', qc', gi, ci, gd, cd, rfl, rfl⟩ := own_open hown HIL.out HDL.out
  have hsl : ∀ x ∈ S, w0.heap.size ≤ x ∧ x < w1.heap.size := FsF.own_lies hown
  have HFO := Lib.hid (show FO (w1.alloc (.cells #[.int .i64 f.tick, .slice qa' f.quotas.length qc', .slice (some ⟨gi, 0, none⟩) 20 ci, .slice (some ⟨gd, 0, none⟩) 56 cd] 27)) w0.heap.size w1.heap.size f (.slice qa' f.quotas.length qc') gi ci gd cd S from ⟨new _ _ _, fun hh => by have := (hsl _ hh).2; omega, FsF.own_below hown ((Below.refl _ _).alloc (Nat.le_refl _) _), HIL.out, HDL.out⟩)
  have HR1 := Lib.hid ((HR0.out.all hb).alloc (.cells #[.int .i64 f.tick, .slice qa' f.quotas.length qc', .slice (some ⟨gi, 0, none⟩) 20 ci, .slice (some ⟨gd, 0, none⟩) 56 cd] 27))
  have HB1 := Lib.hid ((HB0.out.trans (hb.mono HB0.out.size)).alloc (Nat.le_trans HB0.out.size hb.size) (.cells #[.int .i64 f.tick, .slice qa' f.quotas.length qc', .slice (some ⟨gi, 0, none⟩) 20 ci, .slice (some ⟨gd, 0, none⟩) 56 cd] 27))
  have HS1 := Lib.hid hb.size
  have HSL := Lib.hid hsl
  clear hb hown hsl
  go_upto_region 2 with (fail)
  have HBW := Lib.hid ((Below.refl w1.heap.size w1).alloc (Nat.le_refl _) (.cells #[.int .i64 f.tick, .slice qa' f.quotas.length qc', .slice (some ⟨gi, 0, none⟩) 20 ci, .slice (some ⟨gd, 0, none⟩) 56 cd] 27))
  have HBN := Lib.hid (show w1.heap.size < (w1.alloc (.cells #[.int .i64 f.tick, .slice qa' f.quotas.length qc', .slice (some ⟨gi, 0, none⟩) 20 ci, .slice (some ⟨gd, 0, none⟩) 56 cd] 27)).heap.size by simp)
  generalize w1.alloc (.cells #[.int .i64 f.tick, .slice qa' f.quotas.length qc', .slice (some ⟨gi, 0, none⟩) 20 ci, .slice (some ⟨gd, 0, none⟩) 56 cd] 27) = wa at *
  obtain ⟨rr0, rr1, rr2, hCl, hPt⟩ := HFO.out.icell hk20
  obtain ⟨n, hn⟩ : ∃ n, n = ino f k := ⟨_, rfl⟩
  rw [← hn] at HCX hCl hPt
  have HN := Lib.hid hn
  clear hn
  obtain ⟨p0, p1, p2⟩ := id hPt
  obtain ⟨a0, d0, rfl⟩ := NiF.form p0
  obtain ⟨a1, d1, rfl⟩ := AeF.form p1
  obtain ⟨a2, d2, rfl⟩ := AeF.form p2
  have HP := Lib.hid (IF.parts_holds hPt)
  obtain ⟨m0, m1, m2, m3, m4, m5, m6, m7, m8, m9⟩ := hCl
  obtain ⟨x0, x1, x2, x3⟩ := HFO.out.cells
  clear x0 x1 x3 p0 p1 p2 hPt
  have hi0 : (0 : Int) ≤ k := by omega
  have hi1 : (k : Int) < 20 := by omega
  go_wp2_with fail
  clear m0 m1 m2 m3 m4 m5 m6 m7 m8 m9 x2
  refine (ClS.inode_row _ _ n HCX.out HP.out).mono ?_
  rintro e w2 ⟨a', c', b1, e1, b2, e2, rfl, hrow, ho1, ho2, hnd, hb⟩
  have HF2 := Lib.hid (HFO.out.below hb)
  have HR2 := Lib.hid (HR1.out.all hb)
  have HB2 := Lib.hid (HB1.out.trans (hb.mono HB1.out.size))
  have HS2 := Lib.hid hb.size
  have HRW := Lib.hid hrow
  have HA1 := Lib.hid ho1
  have HA2 := Lib.hid ho2
  have HFA := Lib.hid (show Far w w1.heap.size w2.heap.size gd S (fpR (.slice a' n.blocks.length c') ++ fpR (.slice b1 n.acl.length e1) ++ fpR (.slice b2 n.dflt.length e2)) from by
    have hw : w1.heap.size < wa.heap.size := HBN.out
    have hs := hb.size
    refine ⟨fun k hk => ⟨by have := (HSL.out k hk).1; have := HS0.out; omega, (HSL.out k hk).2⟩, by omega, fun k hk => ?_, HFO.out.gd_mem⟩
    rcases List.mem_append.1 hk with hk | hk
    · rcases List.mem_append.1 hk with hk | hk
      · have := row_lies hrow k hk; omega
      · have := AeF.own_lies ho1 k hk; omega
    · have := AeF.own_lies ho2 k hk; omega)
  have HY := Lib.hid (show Apart (fpR (.slice b1 n.acl.length e1)) (fpR (.slice b2 n.dflt.length e2)) from fun k hk hh => (nodup_parts hnd).2.2 k (List.mem_append.2 (.inr hk)) hh)
  clear hb hrow ho1 ho2 hnd
  go_upto_region 3 with (fail)
  have hbw : Below w2.heap.size w2 (w2.alloc (.cells #[.int .i64 n.kind, .int .i64 n.mode, .int .i64 n.uid, .int .i64 n.gid, .int .i64 n.links, .int .i64 n.size, .int .i64 n.tick, .slice a' n.blocks.length c', .slice b1 n.acl.length e1, .slice b2 n.dflt.length e2] 34)) := (Below.refl w2.heap.size w2).alloc (Nat.le_refl _) _
  have HC0 := Lib.hid (show Cut w w0.heap.size w1.heap.size w2.heap.size wa.heap.size f n (.slice qa' f.quotas.length qc') gi ci gd cd S a' c' (.slice b1 n.acl.length e1) (.slice b2 n.dflt.length e2) 0 f.data (w2.alloc (.cells #[.int .i64 n.kind, .int .i64 n.mode, .int .i64 n.uid, .int .i64 n.gid, .int .i64 n.links, .int .i64 n.size, .int .i64 n.tick, .slice a' n.blocks.length c', .slice b1 n.acl.length e1, .slice b2 n.dflt.length e2] 34)) from ⟨HF2.out.below hbw, new _ _ _, row_below HRW.out hbw, AeF.own_below HA1.out hbw, AeF.own_below HA2.out hbw, HR2.out.all hbw, HB2.out.trans (hbw.mono HB2.out.size)⟩)
  clear hbw
  generalize w2.alloc (.cells #[.int .i64 n.kind, .int .i64 n.mode, .int .i64 n.uid, .int .i64 n.gid, .int .i64 n.links, .int .i64 n.size, .int .i64 n.tick, .slice a' n.blocks.length c', .slice b1 n.acl.length e1, .slice b2 n.dflt.length e2] 34) = wb at *
  go_wp2_with fail
  refine (InEq.need_spec z _ (by unfold Foot.Rg; omega)).mono ?_
  rintro e w3 ⟨rfl, rfl⟩
  obtain ⟨m, hm⟩ : ∃ m : Nat, needV z = m := ⟨(needV z).toNat, (Int.toNat_of_nonneg (FsZw.need_nn z)).symm⟩
  rw [hm]
  have HM := Lib.hid hm
  clear hm
  go_wp2
  go_loopw [] (fun wr => ∃ (j : Nat) (d : List ByteArray), j ≤ n.blocks.length ∧ (0 < j → m ≤ n.blocks.length - j) ∧ FsZr.cutZ n.blocks (n.blocks.length - j - m) (n.blocks.length - j) d = FsZr.cutZ n.blocks (n.blocks.length - m) n.blocks.length f.data ∧ Cut w w0.heap.size w1.heap.size w2.heap.size wa.heap.size f n (.slice qa' f.quotas.length qc') gi ci gd cd S a' c' (.slice b1 n.acl.length e1) (.slice b2 n.dflt.length e2) j d wr) (fun wr => CoW.lenAt wr w2.heap.size)
  case atStart => exact ⟨0, f.data, Nat.zero_le _, fun h => by omega, by simp, HC0.out⟩
  case round =>
    obtain ⟨j, d, hj, hjm, hfin, hcut⟩ := hrel
    have HCT := Lib.hid hcut
    have HFN := Lib.hid hfin
    have HME := Lib.hid (show CoW.lenAt wr w2.heap.size = n.blocks.length - j by unfold CoW.lenAt; rw [show wr.cell? ⟨w2.heap.size, 7, none⟩ = some (.slice a' (n.blocks.length - j) c') from hcut.2.1.cell 7])
    have c7 : wr.cell? ⟨w2.heap.size, 7, none⟩ = some (.slice a' (n.blocks.length - j) c') := hcut.2.1.cell 7
    have f7 := hcut.2.1.free 7
    have HRO := Lib.hid hcut.2.2.1
    obtain ⟨x0, x1, x2, x3⟩ := hcut.1.cells
    have hL8 : n.blocks.length ≤ 8 := by rw [HN.out]; exact HG.out.size.2.2.2
    have HWD := Lib.hid (CoW.row_wide hcut.2.2.1)
    clear hcut hfin
    by_cases hgt : m < n.blocks.length - j
    · obtain ⟨J, hJ⟩ : ∃ J, J + 1 = n.blocks.length - j := ⟨n.blocks.length - j - 1, by omega⟩
      obtain ⟨g, rfl⟩ : ∃ g, a' = some ⟨g, 0, none⟩ := by
        rcases HRO.out.2 with ⟨hv, h0⟩ | ⟨g, cap, cur, hv, _⟩
        · omega
        · rw [Value.slice.injEq] at hv; exact ⟨g, hv.1⟩
      have hjl : J < n.blocks.length := by omega
      obtain ⟨bi, hbi⟩ : ∃ b, b = n.blocks.getD J 0 := ⟨_, rfl⟩
      have cJ : wr.cell? ⟨g, J, none⟩ = some (.int .i64 bi) := by
        rw [HRO.out.cellAt _ (by omega), NiF.cells, List.getElem?_map, List.getElem?_eq_getElem hjl, hbi, FsY.getD_at hjl]; rfl
      have hbr : bi = -1 ∨ (0 ≤ bi ∧ bi ≤ 55) := by rw [hbi]; exact HG.out.inr _ (by rw [← HN.out]; exact FsV.mem_getD hjl)
      have HBI := Lib.hid hbi
      clear hbi
      rw [← hJ] at c7 hgt
      have hwd : J + 1 ≤ c' := by have := HWD.out; omega
      have hJ8 : J ≤ 7 := by omega
      have HJ := Lib.hid hJ
      have HJL := Lib.hid hjl
      have HHJ := Lib.hid (And.intro hj hjm)
      clear hJ hjl hj hjm hL8
      by_cases hb1 : bi = -1
      · subst hb1
        have hz := cutZ_step HJ.out hgt HFN.out
        rw [← HBI.out, if_pos rfl] at hz
        have HZ := Lib.hid hz
        have HCN := Lib.hid (cut_next HCT.out HFA.out HJ.out)
        clear hz
        go_wp2
        refine ⟨⟨j + 1, d, by have := HJ.out; omega, fun _ => by have := HJ.out; omega, ?_, HCN.out⟩, ?_⟩
        · rw [show n.blocks.length - (j + 1) = J by have := HJ.out; omega]; exact HZ.out
        · rw [HME.out]
          have hx := HCN.out.2.1.cell 7
          unfold CoW.lenAt
          rw [hx]
          show n.blocks.length - (j + 1) < _
          have := HJ.out
          omega
      · obtain ⟨t, rfl⟩ : ∃ t : Nat, bi = t := ⟨bi.toNat, by omega⟩
        have ht : t < 56 := by omega
        have ht0 : (0 : Int) ≤ t := by omega
        have ht1 : (t : Int) < 56 := by omega
        have z2 : ((t : Int) != -1) = true := by simpa using hb1
        have hz := cutZ_step HJ.out hgt HFN.out
        rw [← HBI.out, if_neg hb1, Int.toNat_natCast] at hz
        have HZ := Lib.hid hz
        clear hz hbr hb1
        go_wp2
        go_region_law (go_simp; go_at_call 171; ((with_reducible refine (PadTo.spec_any ⟨#[]⟩ 32 _ (by decide)).mono ?_)); rintro e w5 ⟨rfl, hb⟩; rw [show PadTo.padB ⟨#[]⟩ 32 = z32 from rfl]; have HC5 := Lib.hid (cut_below HCT.out ((Below.refl wr.heap.size wr).drew.trans hb)); clear hb; obtain ⟨x0, x1, x2, x3⟩ := HC5.out.1.cells; obtain ⟨cd5, fd5⟩ := HC5.out.1.dcell ht)
        all_goals
          have hBD := cut_data HC5.out HFA.out ht z32
          generalize w5.setCell ⟨gd, t, none⟩ (.string z32) = w9 at hBD ⊢
          have HBD := Lib.hid hBD
          have HCN := Lib.hid (cut_next hBD HFA.out HJ.out)
          clear cd5 fd5 x0 x1 x2 x3 c7 f7 cJ
          have c7 : w9.cell? ⟨w2.heap.size, 7, none⟩ = some (.slice (some ⟨g, 0, none⟩) (J + 1) c') := by rw [HJ.out]; exact hBD.2.1.cell 7
          have f7 := hBD.2.1.free 7
          clear hBD
          go_wp2
          refine ⟨⟨j + 1, _, by have := HJ.out; omega, fun _ => by have := HJ.out; omega, ?_, HCN.out⟩, ?_⟩
          · rw [show n.blocks.length - (j + 1) = J by have := HJ.out; omega]; exact HZ.out
          · rw [HME.out]
            have hx := HCN.out.2.1.cell 7
            unfold CoW.lenAt
            rw [hx]
            show n.blocks.length - (j + 1) < _
            have := HJ.out
            omega
    · have HDC := Lib.hid (show d = FsZr.cutZ n.blocks (n.blocks.length - m) n.blocks.length f.data from by
        have h1 := HFN.out
        rw [show n.blocks.length - j - m = 0 by omega] at h1
        exact h1)
      have HM2 := Lib.hid (show m = (needV z).toNat from by have := HM.out; omega)
      go_upto_region 9 with (fail)
      have hsz : wr.cell? ⟨w2.heap.size, 5, none⟩ = some (.int .i64 n.size) := HCT.out.2.1.cell 5
      go_cut [67] from 50 (fun s67 wc => s67 = .bool (decide (z < n.size ∧ 0 < z % 32 ∧ n.blocks.getD (m - 1) 0 ≠ -1)) ∧ Cut w w0.heap.size w1.heap.size w2.heap.size wa.heap.size f n (.slice qa' f.quotas.length qc') gi ci gd cd S a' c' (.slice b1 n.acl.length e1) (.slice b2 n.dflt.length e2) j d wc)
      case first =>
        have e1 : z.tmod 32 = z % 32 := Int.tmod_eq_emod_of_nonneg hz0
        by_cases p1 : z < n.size
        · have t1 : decide (z < n.size) = true := decide_eq_true p1
          by_cases p2 : 0 < z % 32
          · have t2 : decide (0 < z % 32) = true := decide_eq_true p2
            have hgs := HG.out.size
            rw [← HN.out] at hgs
            have hmL : m ≤ n.blocks.length := by have := FsZw.need_mono (Int.le_of_lt p1); have := HM.out; omega
            have hm1 : 1 ≤ m := by have h1 := HM.out; unfold needV at h1; split at h1 <;> omega
            have hlj : n.blocks.length - j = m := by
              by_cases h0 : 0 < j
              · have := hjm h0; omega
              · omega
            obtain ⟨g, rfl⟩ : ∃ g, a' = some ⟨g, 0, none⟩ := by
              rcases HRO.out.2 with ⟨hv, h0⟩ | ⟨g, cap, cur, hv, _⟩
              · omega
              · rw [Value.slice.injEq] at hv; exact ⟨g, hv.1⟩
            obtain ⟨J, rfl⟩ : ∃ J, m = J + 1 := ⟨m - 1, by omega⟩
            have hjl : J < n.blocks.length := by omega
            obtain ⟨bi, hbi⟩ : ∃ b, b = n.blocks.getD J 0 := ⟨_, rfl⟩
            have cJ : wr.cell? ⟨g, J, none⟩ = some (.int .i64 bi) := by
              rw [HRO.out.cellAt _ (by omega), NiF.cells, List.getElem?_map, List.getElem?_eq_getElem hjl, hbi, FsY.getD_at hjl]; rfl
            have hP : decide (z < n.size ∧ 0 < z % 32 ∧ n.blocks.getD (J + 1 - 1) 0 ≠ -1) = (bi != -1) := by
              rw [Nat.add_sub_cancel, ← hbi]
              by_cases h : bi = -1 <;> simp [p1, p2, h]
            have HP := Lib.hid hP
            rw [hlj] at c7
            have hJ8 : J ≤ 7 := by omega
            have hwd : J + 1 ≤ c' := by have := HWD.out; omega
            have hz2 : (bi != -1) = true ∨ (bi != -1) = false := by cases (bi != -1) <;> simp
            clear hbi hlj hjl hmL hgs hj hjm hL8 hgt hm1 hP p1 p2
            go_wp2
            go_meet
            exact ⟨by rw [HP.out], HCT.out⟩
          · have t2 : decide (0 < z % 32) = false := decide_eq_false p2
            have HP := Lib.hid (show decide (z < n.size ∧ 0 < z % 32 ∧ n.blocks.getD (m - 1) 0 ≠ -1) = false from decide_eq_false (fun h => p2 h.2.1))
            clear p1 p2 hgt hj hjm
            go_wp2
            go_meet
            exact ⟨by rw [HP.out], HCT.out⟩
        · have t1 : decide (z < n.size) = false := decide_eq_false p1
          have HP := Lib.hid (show decide (z < n.size ∧ 0 < z % 32 ∧ n.blocks.getD (m - 1) 0 ≠ -1) = false from decide_eq_false (fun h => p1 h.1))
          clear p1 hgt hj hjm
          go_wp2
          go_meet
          exact ⟨by rw [HP.out], HCT.out⟩
      case rest =>
        obtain ⟨rfl, hc2⟩ := hcut
        have HC2 := Lib.hid hc2
        clear hc2
        rename_i hKr2 Kz hKr
        refine hKr _ _ ?_
        clear hKr
        generalize hC : decide (z < n.size ∧ 0 < z % 32 ∧ n.blocks.getD (m - 1) 0 ≠ -1) = C
        have HCC2 := Lib.hid hC
        clear hC
        go_cut [11] from 68 (fun s11 wc2 => Cut w w0.heap.size w1.heap.size w2.heap.size wa.heap.size f n (.slice qa' f.quotas.length qc') gi ci gd cd S a' c' (.slice b1 n.acl.length e1) (.slice b2 n.dflt.length e2) j (FsZr.resD f.data n z) wc2)
        case first =>
          cases C
          rotate_left
          · obtain ⟨p1, p2, p3⟩ := of_decide_eq_true HCC2.out
            have HRD := Lib.hid (show FsZr.resD f.data n z = d.set (n.blocks.getD (m - 1) 0).toNat (FsZr.padS (dat d (n.blocks.getD (m - 1) 0)) (z % 32).toNat) from by unfold FsZr.resD; rw [if_pos ⟨p1, p2, by rw [← HM2.out]; exact p3⟩, ← HM2.out, ← HDC.out])
            have hgs := HG.out.size
            rw [← HN.out] at hgs
            have hmL : m ≤ n.blocks.length := by have := FsZw.need_mono (Int.le_of_lt p1); have := HM.out; omega
            have hm1 : 1 ≤ m := by have h1 := HM.out; unfold needV at h1; split at h1 <;> omega
            have hlj : n.blocks.length - j = m := by
              by_cases h0 : 0 < j
              · have := hjm h0; omega
              · omega
            obtain ⟨g, rfl⟩ : ∃ g, a' = some ⟨g, 0, none⟩ := by
              rcases HRO.out.2 with ⟨hv, h0⟩ | ⟨g, cap, cur, hv, _⟩
              · omega
              · rw [Value.slice.injEq] at hv; exact ⟨g, hv.1⟩
            obtain ⟨J, rfl⟩ : ∃ J, m = J + 1 := ⟨m - 1, by omega⟩
            rw [Nat.add_sub_cancel] at p3 HRD
            have hjl : J < n.blocks.length := by omega
            obtain ⟨bi, hbi⟩ : ∃ b, b = n.blocks.getD J 0 := ⟨_, rfl⟩
            have hrow := HC2.out.2.2.1
            have cJ : wc.cell? ⟨g, J, none⟩ = some (.int .i64 bi) := by
              rw [hrow.cellAt _ (by omega), NiF.cells, List.getElem?_map, List.getElem?_eq_getElem hjl, hbi, FsY.getD_at hjl]; rfl
            have hbr : bi = -1 ∨ (0 ≤ bi ∧ bi ≤ 55) := by rw [hbi]; exact HG.out.inr _ (by rw [← HN.out]; exact FsV.mem_getD hjl)
            rw [← hbi] at p3 HRD
            clear hbi hrow
            obtain ⟨t, rfl⟩ : ∃ t : Nat, bi = t := ⟨bi.toNat, by omega⟩
            rw [Int.toNat_natCast] at HRD
            have ht : t < 56 := by omega
            have ht0 : (0 : Int) ≤ t := by omega
            have ht1 : (t : Int) < 56 := by omega
            have cw7 : wc.cell? ⟨w2.heap.size, 7, none⟩ = some (.slice (some ⟨g, 0, none⟩) (J + 1) c') := by have := HC2.out.2.1.cell 7; rw [hlj] at this; exact this
            have hJ8 : J ≤ 7 := by omega
            have hwd : J + 1 ≤ c' := by have := HWD.out; omega
            obtain ⟨x, hx⟩ : ∃ x : Nat, z % 32 = x := ⟨(z % 32).toNat, by omega⟩
            have hx0 : 0 < x := by omega
            have hx32 : x < 32 := by omega
            have htm : z.tmod 32 = (x : Int) := by rw [Int.tmod_eq_emod_of_nonneg hz0]; exact hx
            rw [hx, Int.toNat_natCast] at HRD
            have HX := Lib.hid hx
            obtain ⟨cd5, fd5⟩ := HC2.out.1.dcell ht
            have hs32 : (d.getD t e0).size = 32 := by
              rw [HDC.out, FsZr.cutZ_get n.blocks (by rw [HN.out]; exact HG.out.inr) _ _ f.data (Nat.sub_le _ _) (Nat.le_refl _) HG.out.dlen t]
              split
              · rfl
              · exact HG.out.dsz _ (FsV.mem_getD (by rw [HG.out.dlen]; exact ht))
            obtain ⟨sx, hsx⟩ : ∃ s, s = d.getD t e0 := ⟨_, rfl⟩
            rw [show (({ f with data := d } : F).data.getD t e0) = sx from hsx.symm] at cd5
            rw [← hsx] at hs32
            have HSX := Lib.hid hsx
            have hs32' : x ≤ sx.size := by omega
            have HS32 := Lib.hid hs32
            clear hsx hs32 hx hlj hjl hmL hgs hj hjm hL8 hgt hm1 p1 p2 p3 hbr
            obtain ⟨x0, x1, x2, x3⟩ := HC2.out.1.cells
            clear x0 x1 x2
            go_wp2
            go_region_law (go_simp; go_at_call 171; ((with_reducible refine (PadTo.spec_any (sx.extract 0 x) 32 _ (by rw [ByteArray.size_extract]; omega)).mono ?_)); rintro e w5 ⟨rfl, hb⟩; have HC5 := Lib.hid (cut_below HC2.out ((Below.refl wc.heap.size wc).drew.trans hb)); clear hb; obtain ⟨y0, y1, y2, y3⟩ := HC5.out.1.cells; obtain ⟨cd6, fd6⟩ := HC5.out.1.dcell ht)
            all_goals
              have hBD := cut_data HC5.out HFA.out ht (PadTo.padB (sx.extract 0 x) 32)
              generalize w5.setCell ⟨gd, t, none⟩ (.string (PadTo.padB (sx.extract 0 x) 32)) = w9 at hBD ⊢
              have HBD := Lib.hid hBD
              clear hBD cd6 fd6 y0 y1 y2 y3 cd5 fd5 x3 cw7 cJ
              go_wp2
              go_meet
              exact by rw [HRD.out, show FsZr.padS (dat d t) x = PadTo.padB (sx.extract 0 x) 32 from by unfold FsZr.padS; rw [show dat d t = sx from HSX.out.symm]]; exact HBD.out
          · have hP := of_decide_eq_false HCC2.out
            have HRD := Lib.hid (show FsZr.resD f.data n z = d from by unfold FsZr.resD; rw [if_neg (fun h => hP (by rw [← HM2.out] at h; exact h)), ← HM2.out]; exact HDC.out.symm)
            clear hP hgt hj hjm
            go_wp2
            go_meet
            exact by rw [HRD.out]; exact HC2.out
        case rest =>
          refine hKr2 _ _ ?_
          clear hKr2
          obtain ⟨X, hXe⟩ : ∃ X, X = n.blocks.length - j := ⟨_, rfl⟩
          have hXm : X ≤ m := by omega
          obtain ⟨d9, hd9⟩ : ∃ d, d = FsZr.resD f.data n z := ⟨_, rfl⟩
          rw [← hd9] at hcut
          have HD9 := Lib.hid hd9
          have HG0 := Lib.hid (show Grw w w0.heap.size w1.heap.size w2.heap.size wa.heap.size f n (.slice qa' f.quotas.length qc') gi ci gd cd S a' c' (.slice b1 n.acl.length e1) (.slice b2 n.dflt.length e2) X m d9 0 a' c' _ from by
            obtain ⟨q1, q2, q3, q4, q5, q6, q7⟩ := hcut
            refine ⟨q1, by rw [Nat.add_zero, hXe]; exact q2, fun hh => ?_, fun hh => ⟨by omega, by omega, rfl, rfl, rfl, q3⟩, q4, q5, q6, q7⟩
            have hX : X = n.blocks.length := by
              by_cases h0 : 0 < j
              · have := hjm h0; omega
              · omega
            exact ⟨hX, by rw [Nat.add_zero, CoW.grown_zero, hX]; exact q3⟩)
          have hm8 : m ≤ 8 := by have h1 := HM.out; have h2 := FsZw.need_mono hz1; have h8 : needV 256 = 8 := rfl; omega
          clear hcut hd9 hXe hgt hj hjm
          have hBn : wa.heap.size ≤ w2.heap.size := HS2.out
          have hbB : w1.heap.size < wa.heap.size := HBN.out
          have hwB : w.heap.size ≤ wa.heap.size := HB1.out.size
          have HSb := Lib.hid (fun k hk => (HFA.out.1 k hk).2)
          go_wp2
          go_loopw [] (fun wr => ∃ (jj : Nat) (a7 : Option Addr) (c9 : Nat), X + jj ≤ m ∧ Grw w w0.heap.size w1.heap.size w2.heap.size wa.heap.size f n (.slice qa' f.quotas.length qc') gi ci gd cd S a' c' (.slice b1 n.acl.length e1) (.slice b2 n.dflt.length e2) X m d9 jj a7 c9 wr) (fun wr => m - CoW.lenAt wr w2.heap.size)
          case atStart => exact ⟨0, a', c', hXm, HG0.out⟩
          case round =>
            obtain ⟨jj, a7, c9, hjj, hgr⟩ := hrel
            have HGR := Lib.hid hgr
            obtain ⟨q1, q2, q3, q4, q5, q6, q7, q8⟩ := hgr
            have cw7 : wr.cell? ⟨w2.heap.size, 7, none⟩ = some (.slice a7 (X + jj) c9) := q2.cell 7
            have fw7 := q2.free 7
            have HME := Lib.hid (show CoW.lenAt wr w2.heap.size = X + jj from by unfold CoW.lenAt; rw [cw7])
            have hlt2 : w2.heap.size < wr.heap.size := q2.lt
            have HQ3 := Lib.hid q3
            have HX := Lib.hid q2
            clear q1 q2 q3 q4 q5 q6 q7 q8 HG0
            by_cases hlt : X + jj < m
            · obtain ⟨hXL, hro⟩ := HQ3.out (by omega)
              have HO := Lib.hid hro
              have HXL := Lib.hid hXL
              clear hro hXL
              obtain ⟨i0, hi, hz0', hz1', hz2'⟩ := info_parts Ni.intInfo
              have HF0 := Lib.hid hi
              have HF1 := Lib.hid hz0'
              have HF2 := Lib.hid hz1'
              have HF3 := Lib.hid hz2'
              clear hi hz0' hz1' hz2'
              obtain ⟨J, hJ⟩ : ∃ J, J = X + jj := ⟨_, rfl⟩
              rw [← hJ] at cw7 HO hlt
              have HJ := Lib.hid hJ
              clear hJ
              go_wp2_with (first | (at_builtin; refine wpList_append_own _ rfl _ _ 31 rfl wa.heap.size 3 i0 (.int .i64 0) 1 8 Tryz.underlying31 HF0.out HF1.out HF2.out HF3.out rfl (by decide) _ _ _ rfl (HO.out.alloc _) ⟨wr.heap.size, 0, none⟩ 1 1 [.int .i64 (-1)] rfl rfl ?c1 ?c2 ?c3 ?c4 ?c5 ?_))
              case c1 => exact InEq.cells1_new _ _ _
              case c2 => simp [Value.oneCell']
              case c3 => unfold maxLen; omega
              case c4 => omega
              case c5 => simp; omega
              intro v' w6 hown1 hg1 _
              obtain ⟨b6, c6, rfl⟩ := Dk.slice_of hown1
              have hnx : Grw w w0.heap.size w1.heap.size w2.heap.size wa.heap.size f n (.slice qa' f.quotas.length qc') gi ci gd cd S a' c' (.slice b1 n.acl.length e1) (.slice b2 n.dflt.length e2) X m d9 (jj + 1) b6 c6 (w6.setCell ⟨w2.heap.size, 7, none⟩ (.slice b6 (J + 1) c6)) := by
                rw [HJ.out] at hown1 hg1 ⊢
                exact grw_app HGR.out (by have := HJ.out; omega) hwB hBn hbB HSb.out hown1 hg1
              have hx1 := (HX.out.alloc (.cells #[.int .i64 (-1)] 3)).grown hg1 (fun e => by
                have := CoL.row_nin (row_below HO.out ((Below.refl _ _).alloc (Nat.le_refl _) (.cells #[.int .i64 (-1)] 3))) (HX.out.alloc (.cells #[.int .i64 (-1)] 3)) (by decide)
                exact this (by unfold fpR; rw [← e]; simp))
              have zc7 : w6.cell? ⟨w2.heap.size, 7, none⟩ = some (.slice a7 J c9) := by rw [HJ.out]; exact hx1.cell 7
              have zf7 := hx1.free 7
              have HNX := Lib.hid hnx
              have HLN := Lib.hid (show CoW.lenAt (w6.setCell ⟨w2.heap.size, 7, none⟩ (.slice b6 (J + 1) c6)) w2.heap.size = J + 1 from by
                unfold CoW.lenAt
                rw [show (w6.setCell ⟨w2.heap.size, 7, none⟩ (.slice b6 (J + 1) c6)).cell? ⟨w2.heap.size, 7, none⟩ = some (.slice b6 (X + (jj + 1)) c6) from hnx.2.1.cell 7]
                show X + (jj + 1) = J + 1
                have := HJ.out; omega)
              clear hnx hx1 hown1 hg1 cw7 fw7
              go_wp2
              go_roundw
              case rel => exact ⟨jj + 1, b6, c6, by have := HJ.out; omega, HNX.out⟩
              case measure => rw [HME.out, HLN.out]; have := HJ.out; omega
            · have hje : X + jj = m := by omega
              have HFIN := Lib.hid (grw_fin HGR.out hje HY.out z)
              have HN9 := Lib.hid (show ({ n with size := z, blocks := holes n.blocks m } : I) = sized (ino f k) z from by rw [← HN.out, HM2.out]; rfl)
              have HV := Lib.hid (show ({ ({ f with data := d9 } : F) with inodes := ({ f with data := d9 } : F).inodes.set k { n with size := z, blocks := holes n.blocks m } } : F) = withV f k (sized (ino f k) z) ((content f.data (ino f k).blocks).take z.toNat ++ Z (256 - z.toNat)) from by
                unfold withV
                rw [HN9.out, FsZr.res_eq HG.out hz0 hz1, HD9.out, HN.out])
              obtain ⟨q1, q2, q3, q4, q5, q6, q7, q8⟩ := HGR.out
              rw [hje] at cw7 q2
              have hc5 := chg_set wr ⟨w2.heap.size, 5, none⟩ (.int .i64 z)
              have one : ∀ T : List Nat, w2.heap.size ∉ T → Apart T [w2.heap.size] := fun T hT k hk hh => by rw [List.mem_singleton] at hh; exact hT (hh ▸ hk)
              have HF5' := Lib.hid (q1.chg hc5 (by simp; omega) (one _ fun hh => by have := HSb.out _ hh; omega))
              have HI5' := Lib.hid (In.own_chg HFIN.out hc5 (one _ (CoL.in_box HFIN.out q2 (by decide) (by decide))))
              have HX5' := Lib.hid (show Bk _ w2.heap.size #[.int .i64 n.kind, .int .i64 n.mode, .int .i64 n.uid, .int .i64 n.gid, .int .i64 n.links, .int .i64 z, .int .i64 n.tick, .slice a7 m c9, .slice b1 n.acl.length e1, .slice b2 n.dflt.length e2] _ from Bk.put (l := [.int .i64 n.kind, .int .i64 n.mode, .int .i64 n.uid, .int .i64 n.gid, .int .i64 n.links, .int .i64 n.size, .int .i64 n.tick, .slice a7 m c9, .slice b1 n.acl.length e1, .slice b2 n.dflt.length e2]) q2 5 (.int .i64 z))
              have HR5' := Lib.hid (FoB.Bk.chg q7 hc5 (fun hh => by rw [List.mem_singleton] at hh; exact FsM.bk_ne q7 q2 (by decide) hh))
              have HB5' := Lib.hid (q8.trans (FoB.Chg.from hc5 q8.size (show w.heap.size ≤ w2.heap.size by omega)))
              have cw5 : wr.cell? ⟨w2.heap.size, 5, none⟩ = some (.int .i64 n.size) := q2.cell 5
              have fw5 := q2.free 5
              have hnlt : ¬ m < m := Nat.lt_irrefl m
              have HTB := Lib.hid (fun k hk => (In.own_lies HFIN.out k hk).1)
              clear q1 q2 q3 q4 q5 q6 q7 q8 hc5 one HFIN
              go_upto_region 15 with (fail)
              generalize wr.setCell ⟨w2.heap.size, 5, none⟩ (.int .i64 z) = w5 at HF5' HI5' HX5' HR5' HB5' ⊢
              have HF5 := HF5'
              have HI5 := HI5'
              have HX5 := HX5'
              have HR5 := HR5'
              have HB5 := HB5'
              clear HF5' HI5' HX5' HR5' HB5' cw5 fw5 cw7 fw7
              obtain ⟨rr0, rr1, rr2, hCl, hPt⟩ := HF5.out.icell hk20
              obtain ⟨m0, m1, m2, m3, m4, m5, m6, m7, m8, m9⟩ := hCl
              clear hPt
              have q0 : w5.frozen? ⟨gi, k * 10, none⟩ = false := HF5.out.ifree _
              have q1 : w5.frozen? ⟨gi, k * 10 + 1, none⟩ = false := HF5.out.ifree _
              have q2 : w5.frozen? ⟨gi, k * 10 + 2, none⟩ = false := HF5.out.ifree _
              have q3 : w5.frozen? ⟨gi, k * 10 + 3, none⟩ = false := HF5.out.ifree _
              have q4 : w5.frozen? ⟨gi, k * 10 + 4, none⟩ = false := HF5.out.ifree _
              have q5 : w5.frozen? ⟨gi, k * 10 + 5, none⟩ = false := HF5.out.ifree _
              have q6 : w5.frozen? ⟨gi, k * 10 + 6, none⟩ = false := HF5.out.ifree _
              have q7 : w5.frozen? ⟨gi, k * 10 + 7, none⟩ = false := HF5.out.ifree _
              have q8 : w5.frozen? ⟨gi, k * 10 + 8, none⟩ = false := HF5.out.ifree _
              have q9 : w5.frozen? ⟨gi, k * 10 + 9, none⟩ = false := HF5.out.ifree _
              obtain ⟨x0, x1, x2, x3⟩ := HF5.out.cells
              clear x0 x1 x3
              obtain ⟨y0, y1, y2, y3, y4, y5, y6, y7, y8, y9⟩ := Bk.c10 HX5.out
              go_upto_region 16 with (fail)
              have hTS : Apart (fpR (.slice a7 m c9) ++ fpR (.slice b1 n.acl.length e1) ++ fpR (.slice b2 n.dflt.length e2)) S := fun k hk hh => by have := HTB.out k hk; have := HSb.out k hh; omega
              obtain ⟨S', hfo, hsub⟩ := HF5.out.setI hk20 (In.own_mono HI5.out (show w0.heap.size ≤ wa.heap.size by have := HS1.out; omega)) hTS (fun hh => by have := HTB.out _ hh; omega)
              have hrc := FoB.row10_chg w5 gi k (.int .i64 n.kind) (.int .i64 n.mode) (.int .i64 n.uid) (.int .i64 n.gid) (.int .i64 n.links) (.int .i64 z) (.int .i64 n.tick) (.slice a7 m c9) (.slice b1 n.acl.length e1) (.slice b2 n.dflt.length e2)
              have hgl := HF5.out.gi_lt
              have hr2 := FoB.Bk.chg HR5.out hrc (fun hh => by rw [List.mem_singleton] at hh; have := HS0.out; omega)
              have hb2 := HB5.out.trans (FoB.Chg.from hrc HB5.out.size (by have := HS0.out; omega))
              rw [HV.out] at hfo
              unfold FoB.row10 at hfo hr2 hb2
              generalize ((((((((((w5.setCell ⟨gi, k * 10, none⟩ (.int .i64 n.kind)).setCell ⟨gi, k * 10 + 1, none⟩ (.int .i64 n.mode)).setCell ⟨gi, k * 10 + 2, none⟩ (.int .i64 n.uid)).setCell ⟨gi, k * 10 + 3, none⟩ (.int .i64 n.gid)).setCell ⟨gi, k * 10 + 4, none⟩ (.int .i64 n.links)).setCell ⟨gi, k * 10 + 5, none⟩ (.int .i64 z)).setCell ⟨gi, k * 10 + 6, none⟩ (.int .i64 n.tick)).setCell ⟨gi, k * 10 + 7, none⟩ (.slice a7 m c9)).setCell ⟨gi, k * 10 + 8, none⟩ (.slice b1 n.acl.length e1)).setCell ⟨gi, k * 10 + 9, none⟩ (.slice b2 n.dflt.length e2)) = wb at hfo hr2 hb2 ⊢
              clear m0 m1 m2 m3 m4 m5 m6 m7 m8 m9 q0 q1 q2 q3 q4 q5 q6 q7 q8 q9 x2 hrc y0 y1 y2 y3 y4 y5 y6 y7 y8 y9
              have HF := Lib.hid hfo
              have HR2' := Lib.hid hr2
              have HB2' := Lib.hid hb2
              clear hfo hr2 hb2 hsub hTS
              obtain ⟨x0, x1, x2, x3⟩ := HF.out.cells
              obtain ⟨r0, r1, r2, r3⟩ := Bk.c4 HR2'.out
              have f0 := HR2'.out.free 0
              have f1' := HR2'.out.free 1
              have f2 := HR2'.out.free 2
              have f3 := HR2'.out.free 3
              have hne : w.heap.size + 1 ∉ S' := fun hh => by have := (HF.out.lies _ hh).1; have := HS0.out; omega
              have HRV := Lib.hid HF.out.own
              obtain ⟨t9, ht9⟩ : ∃ t, t = (withV f k (sized (ino f k) z) ((content f.data (ino f k).blocks).take z.toNat ++ Z (256 - z.toNat))).tick := ⟨_, rfl⟩
              rw [← ht9] at x0 HRV
              clear ht9
              go_wp2
              have hF := FoB.box4_bk HR2'.out (.int .i64 t9) (.slice qa' f.quotas.length qc') (.slice (some ⟨gi, 0, none⟩) 20 ci) (.slice (some ⟨gd, 0, none⟩) 56 cd)
              have hC9 := FoB.box4_chg wb (w.heap.size + 1) (.int .i64 t9) (.slice qa' f.quotas.length qc') (.slice (some ⟨gi, 0, none⟩) 20 ci) (.slice (some ⟨gd, 0, none⟩) 56 cd)
              unfold FoB.box4 at hF hC9
              generalize ((((wb.setCell ⟨w.heap.size + 1, 0, none⟩ (.int .i64 t9)).setCell ⟨w.heap.size + 1, 1, none⟩ (.slice qa' f.quotas.length qc')).setCell ⟨w.heap.size + 1, 2, none⟩ (.slice (some ⟨gi, 0, none⟩) 20 ci)).setCell ⟨w.heap.size + 1, 3, none⟩ (.slice (some ⟨gd, 0, none⟩) 56 cd)) = w9 at hF hC9 ⊢
              obtain ⟨e0, e1', e2', e3⟩ := Bk.c4 hF
              have hres := FsF.own_mono (FsF.own_chg HRV.out hC9 (fun x hx hh => by rw [List.mem_singleton] at hh; subst hh; exact hne hx)) HB0.out.size
              refine bodyPost_ret (v := .agg #[.int .i64 t9, .slice qa' f.quotas.length qc', .slice (some ⟨gi, 0, none⟩) 20 ci, .slice (some ⟨gd, 0, none⟩) 56 cd]) (by simp [results, Tryz.results105, go_sem, e0, e1', e2', e3]) rfl ?_
              exact ⟨_, rfl, ⟨S', hres⟩, HB2'.out.trans (FoB.Chg.from hC9 HB2'.out.size (Nat.le_succ _))⟩
theorem res_of (f : F) (hc : FsF.cost f ≤ 1073741824) : ResC f := fun W u k z g h0 h1 h => lresize_spec W u f k z hc g h0 h1 h
end Go.Proofs.YtafmpllkehbmeaaGreatDoor.SpSz
