/- Contract: the program's beyondSize gives what the last block of an inode has beyond its size. Conditions: as the theorem types them. -/
import Derived.Test.YtafmpllkehbmeaaGreatDoorFsW
namespace Go.Proofs.YtafmpllkehbmeaaGreatDoor.FsB
open Go.ChangeShapes Go.WideShapes Go.ChangeAt Go.RowKit
open Foot Bx
open InoV (I usedV hasB needV)
open FsV (F allB ownB beyond zB freeB elseB okF partsB tickB rootB allTo rangeTo)
open Dk (ret_bool)
open MpB (Is)
set_option linter.unusedVariables false

/-- What is asked of an inode for its last block to be looked at. -/
structure Fit (f : F) (n : I) : Prop where
  len : f.data.length = 56
  size : ∀ s ∈ f.data, s.size = 32
  need : (n.blocks.length : Int) = needV n.size
  lo : 0 ≤ n.size
  hi : n.size ≤ 256
  blk : ∀ b ∈ n.blocks, b = -1 ∨ (0 ≤ b ∧ b ≤ 55)
theorem Fit.x {f : F} {n : I} (h : Fit f n) {L : Nat} (hL : n.blocks.length = L + 1) : ∃ X : Nat, n.size = (X : Int) + (L : Int) * 32 ∧ X ≤ 32 ∧ L ≤ 7 := by
  have h1 := h.need
  have h2 := h.lo
  have h3 := h.hi
  rw [hL] at h1
  unfold needV at h1
  split at h1
  · omega
  · exact ⟨(n.size - (L : Int) * 32).toNat, by omega, by omega, by omega⟩
theorem beyond_none {f : F} {n : I} (h : n.blocks.length = 0) : beyond f n = ⟨#[]⟩ := by rw [beyond, if_pos h]; rfl
theorem beyond_hole {f : F} {n : I} {L : Nat} (hL : n.blocks.length = L + 1) (h : n.blocks.getD L 0 = -1) : beyond f n = ⟨#[]⟩ := by
  rw [beyond, if_neg (by omega), hL, Nat.add_sub_cancel, if_pos h]; rfl
theorem beyond_at {f : F} {n : I} {L X k : Nat} (hL : n.blocks.length = L + 1) (h : n.blocks.getD L 0 = (k : Int)) (hx : n.size = (X : Int) + (L : Int) * 32) : beyond f n = (f.data.getD k ⟨#[]⟩).extract X 32 := by
  rw [beyond, if_neg (by omega), hL, Nat.add_sub_cancel, if_neg (by omega), h, hx, show ((k : Int)).toNat = k from rfl, show ((X : Int) + (L : Int) * 32 - (((L + 1 : Nat) : Int) - 1) * 32).toNat = X from by omega]; rfl

set_option maxRecDepth 100000 in
set_option maxHeartbeats 3200000 in
theorem beyond_impl (w : World) (vf vn : Value) (f : F) (n : I) (hF : FsF.Holds w vf f) (hN : In.Holds w vn n) (hfit : Fit f n) :
    Calls Tryz.prog 143 #[vf, vn] w fun e w' => e = .returned (.string (beyond f n)) ∧ Below w.heap.size w w' := by
  obtain ⟨r0, r1, r2, rfl, g0, g1, g2⟩ := hF
  obtain ⟨qa, qc, rfl⟩ := QF.form g0
  obtain ⟨ia, ic, rfl⟩ := IF.form g1
  obtain ⟨da, dc, rfl, hD⟩ := g2
  obtain ⟨s0, s1, s2, rfl, k0, k1, k2⟩ := hN
  obtain ⟨a, c, rfl, _, hB⟩ := k0
  obtain ⟨a1, d1, rfl⟩ := AeF.form k1
  obtain ⟨a2, d2, rfl⟩ := AeF.form k2
  have HD := Lib.hid (show ∀ i, i < f.data.length → ∃ b o, da = some ⟨b, o, none⟩ ∧ b < w.heap.size ∧ w.cell? ⟨b, o + i, none⟩ = some (.string (f.data.getD i ⟨#[]⟩)) from fun i hi => by
    obtain ⟨b, o, e, hlt, hcell⟩ := hD (by intro e; rw [e] at hi; simp at hi)
    exact ⟨b, o, e, hlt, hcell i hi⟩)
  have HBL := Lib.hid hB
  have HFIT := Lib.hid hfit
  clear g0 g1 hD k1 k2 hB hfit
  have HB0 := Lib.hid (((Below.refl w.heap.size w).alloc (Nat.le_refl _) (.cells #[.int .i64 f.tick, .slice qa f.quotas.length qc, .slice ia f.inodes.length ic, .slice da f.data.length dc] 27)).alloc (by simp) (.cells #[.int .i64 n.kind, .int .i64 n.mode, .int .i64 n.uid, .int .i64 n.gid, .int .i64 n.links, .int .i64 n.size, .int .i64 n.tick, .slice a n.blocks.length c, .slice a1 n.acl.length d1, .slice a2 n.dflt.length d2] 34))
  have HX := Lib.hid ((new w #[.int .i64 f.tick, .slice qa f.quotas.length qc, .slice ia f.inodes.length ic, .slice da f.data.length dc] 27).alloc (.cells #[.int .i64 n.kind, .int .i64 n.mode, .int .i64 n.uid, .int .i64 n.gid, .int .i64 n.links, .int .i64 n.size, .int .i64 n.tick, .slice a n.blocks.length c, .slice a1 n.acl.length d1, .slice a2 n.dflt.length d2] 34))
  have HY := Lib.hid (new_at (w.alloc (.cells #[.int .i64 f.tick, .slice qa f.quotas.length qc, .slice ia f.inodes.length ic, .slice da f.data.length dc] 27)) #[.int .i64 n.kind, .int .i64 n.mode, .int .i64 n.uid, .int .i64 n.gid, .int .i64 n.links, .int .i64 n.size, .int .i64 n.tick, .slice a n.blocks.length c, .slice a1 n.acl.length d1, .slice a2 n.dflt.length d2] 34 (w.heap.size + 1) (by simp))
  rcases Nat.eq_zero_or_pos n.blocks.length with h0 | hp
  · have HV := Lib.hid (beyond_none (f := f) h0)
    rw [h0]
    clear h0
    rw [HV.out]
    generalize f.data.length = DM at HD ⊢
    generalize f.inodes.length = DI at *
    generalize f.quotas.length = DQ at *
    go_enter Tryz.func143, Tryz.ntmps143
    go_wp2
    go_ret
    exact ⟨rfl, ((Below.refl w.heap.size w).alloc (Nat.le_refl _) _).alloc (by simp) _⟩
  · obtain ⟨L, hL⟩ : ∃ L, n.blocks.length = L + 1 := ⟨n.blocks.length - 1, by omega⟩
    obtain ⟨X, hX, hX32, hL7⟩ := HFIT.out.x hL
    obtain ⟨b1, o1, rfl, hlt1, gB⟩ := HBL.out L (by omega)
    have HHO := Lib.hid (fun h => beyond_hole (f := f) hL h)
    have HAT := Lib.hid (fun k h => beyond_at (f := f) (k := k) hL h hX)
    have hbk := HFIT.out.blk _ (show n.blocks.getD L 0 ∈ n.blocks from FsV.mem_getD (by omega))
    have hlen := HFIT.out.len
    have HSZ := Lib.hid HFIT.out.size
    rw [hL, hlen] at HB0 HX HY ⊢
    rw [hX] at HB0 HX HY ⊢
    rw [hlen] at HD
    have HLN := Lib.hid hlen
    clear hL hX hp hlen HFIT
    have gB2 := HB0.out.cell (p := ⟨b1, o1 + L, none⟩) hlt1
    rw [gB] at gB2
    have y5 := HY.out.cell 5
    have y7 := HY.out.cell 7
    have x3 := HX.out.cell 3
    dsimp at y5 y7 x3
    generalize n.blocks.getD L 0 = bl at gB gB2 hbk HHO HAT
    by_cases hm : bl = -1
    · subst hm
      have HV := Lib.hid (HHO.out rfl)
      clear hbk gB HD HSZ HAT HHO
      rw [HV.out]
      generalize f.inodes.length = DI at *
      generalize f.quotas.length = DQ at *
      go_enter Tryz.func143, Tryz.ntmps143
      go_wp2
      go_ret
      exact ⟨rfl, HB0.out⟩
    · obtain ⟨k, rfl⟩ : ∃ k : Nat, bl = k := ⟨bl.toNat, by omega⟩
      have hk : k < 56 := by omega
      obtain ⟨b2, o2, rfl, hlt2, gD⟩ := HD.out k hk
      have HV := Lib.hid (HAT.out k rfl)
      have gD2 := HB0.out.cell (p := ⟨b2, o2 + k, none⟩) hlt2
      rw [gD] at gD2
      have hsz : (f.data.getD k ⟨#[]⟩).size = 32 := HSZ.out _ (FsV.mem_getD (by rw [HLN.out]; exact hk))
      have hm1 : ((k : Int) == -1) = false := by simp
      have hm2 : ((k : Int) != -1) = true := by simp
      clear hbk gB hm HHO HAT gD HD HSZ HLN
      rw [HV.out]
      generalize f.data.getD k ⟨#[]⟩ = s at gD2 hsz ⊢
      have HSS := Lib.hid hsz
      have hs1 : (s.size : Int) = 32 := by omega
      generalize f.inodes.length = DI at *
      generalize f.quotas.length = DQ at *
      go_enter Tryz.func143, Tryz.ntmps143
      go_wp2
      generalize (w.alloc (.cells #[.int .i64 f.tick, .slice qa DQ qc, .slice ia DI ic, .slice (some ⟨b2, o2, none⟩) 56 dc] 27)).alloc _ = w0 at *
      have z5 := Fam.cell (W := w0) (p := ⟨w.heap.size + 1, 5, none⟩) HY.out.lt y5
      have z7 := Fam.cell (W := w0) (p := ⟨w.heap.size + 1, 7, none⟩) HY.out.lt y7
      have z3 := Fam.cell (W := w0) (p := ⟨w.heap.size, 3, none⟩) HX.out.lt x3
      have zb := Fam.cell (W := w0) (p := ⟨b1, o1 + L, none⟩) (by have := HB0.out.size; show b1 < _; omega) gB2
      have zd := Fam.cell (W := w0) (p := ⟨b2, o2 + k, none⟩) (by have := HB0.out.size; show b2 < _; omega) gD2
      clear y5 y7 x3 gB2 gD2
      refine Fam.region (by kernel_rfl) (by kernel_rfl) ?_
      repeat (go_big_quiet_step (fail))
      refine wpQuiet_nil ?_
      intro _ hw'
      obtain ⟨nq, hw''⟩ := hw'
      subst hw''
      have hbq := Fam.wld_below _ nq
      generalize Fam.wld _ nq = w9 at hbq ⊢
      replace HB0 := Lib.hid (HB0.out.trans (hbq.mono HB0.out.size))
      clear hbq z5 z7 z3 zb zd
      go_wp2
      go_ret
      exact ⟨rfl, HB0.out⟩
end Go.Proofs.YtafmpllkehbmeaaGreatDoor.FsB
