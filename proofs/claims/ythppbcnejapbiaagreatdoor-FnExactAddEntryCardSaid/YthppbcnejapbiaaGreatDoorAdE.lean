/- Helper texts joined, one behind another (a claim has at most 60 files): what each proves, its own head says: YthppbcnejapbiaaGreatDoorInOs. -/
import Derived.Test.YthppbcnejapbiaaGreatDoorAdD

-- YthppbcnejapbiaaGreatDoorInOs
/- A part. -/
namespace Go.Proofs.YthppbcnejapbiaaGreatDoor.InOs
set_option maxHeartbeats 12800000
set_option maxRecDepth 100000
open Go.ChangeShapes Go.WideShapes Go.ChangeAt Go.RowKit
open Foot Bx
open InoV (I sameB okI blkB blksB numsB restB fileB needV)
open AclV (okB)
open ModeV (modeB stickyB mode_iff)
open CredV (userB user_iff)
open Dk (ret_bool)
open InOk (zero_holds file_dflt file_bit file_dir blk_hole blk_yes blk_no holds_take)
set_option linter.unusedVariables false
def inB (x lo hi : Int) : Bool := decide (lo <= x) && decide (x <= hi)
theorem in_spec (x lo hi : Int) (w : World) : Calls Tryz.prog 103 #[.int .i64 x, .int .i64 lo, .int .i64 hi] w fun e w' => e = .returned (.bool (inB x lo hi)) /\ w = w' := AclS.in_any x lo hi w
theorem in_true {x lo hi : Int} (h : inB x lo hi = true) : lo <= x /\ x <= hi := by simpa [inB] using h
theorem in_false {x lo hi : Int} (h : inB x lo hi = false) : ¬ (lo <= x /\ x <= hi) := by
 rintro ⟨h1, h2⟩
 rw [inB, decide_eq_true h1, decide_eq_true h2] at h
 cases h
theorem ok_no {n : I} (h0 : n.kind ≠ 0) (h : numsB n = false) : okI n = false := by rw [okI, if_neg h0, h]; rfl
theorem nums_is (n : I) : numsB n = ((decide (n.kind = 1) || decide (n.kind = 2)) && modeB n.mode && userB n.uid && userB n.gid && inB n.links 0 1000 && inB n.size 0 256 && inB n.tick 0 1000000000 && decide ((n.blocks.length : Int) = needV n.size)) := rfl
theorem rest_is {n : I} (h0 : n.kind ≠ 0) (h : numsB n = true) : okI n = (blksB n.blocks n.blocks.length && !fileB n && (okB n.acl && okB n.dflt)) := by rw [okI, if_neg h0, h]; rfl
theorem is_zero (w : World) (v : Value) (n : I) (hc : In.cost n <= 1073741824) (h : In.Holds w v n) (h0 : n.kind = 0) :
  Calls Tryz.prog 130 #[v] w fun e w' => e = .returned (.bool (okI n)) /\ Below w.heap.size w w' := by
 have HH := Lib.hid h
 obtain ⟨r0, r1, r2, rfl, g0, g1, g2⟩ := h
 obtain ⟨da, dc, rfl⟩ := AeF.form g2
 obtain ⟨a, c, rfl⟩ := NiF.form g0
 have H1 := Lib.hid g1
 have H2 := Lib.hid g2
 have hlc : n.blocks.length <= c := by
  obtain ⟨a', c', e, hle, _⟩ := g0
  rw [Value.slice.injEq] at e
  omega
 have HC := Lib.hid (show ∀ i, i < n.blocks.length -> ∃ b o, a = some ⟨b, o, none⟩ /\ b < w.heap.size /\ w.cell? ⟨b, o + i, none⟩ = some (.int .i64 (n.blocks.getD i 0)) from by
  obtain ⟨a', c', e, hle, hc⟩ := g0
  rw [Value.slice.injEq] at e
  obtain ⟨rfl, _, rfl⟩ := e
  exact hc)
 have HTK := Lib.hid (fun (W : World) (k : Nat) (hb : Below w.heap.size w W) (hk : k <= n.blocks.length) => holds_take (NiF.holds_below g0 hb) hk)
 clear g0 g1 g2
 have hn1 : n.blocks.length <= 1073741824 := Nat.le_trans (In.le_blocks n) hc
 have hn2 : n.acl.length <= 1073741824 := Nat.le_trans (In.le_acl n) hc
 have hn3 : n.dflt.length <= 1073741824 := Nat.le_trans (In.le_dflt n) hc
 have HY1 := Lib.hid (fun k => blk_hole (l := n.blocks) (k := k))
 have HY2 := Lib.hid (fun k => blk_yes (l := n.blocks) (k := k))
 have HNO := Lib.hid (fun k => blk_no (l := n.blocks) (k := k))
 have HNUMS := Lib.hid (nums_is n)
 obtain ⟨L, hL⟩ : ∃ L, L = n.blocks.length := ⟨_, rfl⟩
 rw [<- hL] at hn1 hlc HH HNUMS ⊢
 have HL := Lib.hid hL
 clear hL
 obtain ⟨M, hM⟩ : ∃ M, M = n.dflt.length := ⟨_, rfl⟩
 rw [<- hM] at HH H2 ⊢
 have HML := Lib.hid hM
 clear hM
 have HB := Lib.hid ((Below.refl w.heap.size w).alloc (Nat.le_refl _) (.cells #[.int .i64 n.kind, .int .i64 n.mode, .int .i64 n.uid, .int .i64 n.gid, .int .i64 n.links, .int .i64 n.size, .int .i64 n.tick, .slice a L c, r1, .slice da M dc] 89))
 have HX := Lib.hid (new w #[.int .i64 n.kind, .int .i64 n.mode, .int .i64 n.uid, .int .i64 n.gid, .int .i64 n.links, .int .i64 n.size, .int .i64 n.tick, .slice a L c, r1, .slice da M dc] 89)
 have HW := Lib.hid (show okI n = sameB n InoV.zero from if_pos h0)
 have h0a : (n.kind == 0) = true := by simpa using h0
 clear h0
 go_enter Tryz.func130, Tryz.ntmps130
 go_wp2_with fail
 refine (InSp.same_spec _ _ _ n InoV.zero hc (by decide) (In.holds_below HH.out HB.out) (zero_holds _)).mono ?_
 rintro e w1 ⟨rfl, hb⟩
 replace HB := Lib.hid (HB.out.trans (hb.mono HB.out.size))
 clear hb
 generalize sameB n InoV.zero = D at HW ⊢
 go_wp2
 go_ret
 exact ⟨ret_bool HW.out.symm, HB.out⟩
theorem is_any (w : World) (v : Value) (n : I) (hc : In.cost n <= 1073741824) (h : In.Holds w v n)  :
  Calls Tryz.prog 130 #[v] w fun e w' => e = .returned (.bool (okI n)) /\ Below w.heap.size w w' := by
 have HH := Lib.hid h
 obtain ⟨r0, r1, r2, rfl, g0, g1, g2⟩ := h
 obtain ⟨da, dc, rfl⟩ := AeF.form g2
 obtain ⟨a, c, rfl⟩ := NiF.form g0
 have H1 := Lib.hid g1
 have H2 := Lib.hid g2
 have hlc : n.blocks.length <= c := by
  obtain ⟨a', c', e, hle, _⟩ := g0
  rw [Value.slice.injEq] at e
  omega
 have HC := Lib.hid (show ∀ i, i < n.blocks.length -> ∃ b o, a = some ⟨b, o, none⟩ /\ b < w.heap.size /\ w.cell? ⟨b, o + i, none⟩ = some (.int .i64 (n.blocks.getD i 0)) from by
  obtain ⟨a', c', e, hle, hc⟩ := g0
  rw [Value.slice.injEq] at e
  obtain ⟨rfl, _, rfl⟩ := e
  exact hc)
 have HTK := Lib.hid (fun (W : World) (k : Nat) (hb : Below w.heap.size w W) (hk : k <= n.blocks.length) => holds_take (NiF.holds_below g0 hb) hk)
 clear g0 g1 g2
 have hn1 : n.blocks.length <= 1073741824 := Nat.le_trans (In.le_blocks n) hc
 have hn2 : n.acl.length <= 1073741824 := Nat.le_trans (In.le_acl n) hc
 have hn3 : n.dflt.length <= 1073741824 := Nat.le_trans (In.le_dflt n) hc
 have HY1 := Lib.hid (fun k => blk_hole (l := n.blocks) (k := k))
 have HY2 := Lib.hid (fun k => blk_yes (l := n.blocks) (k := k))
 have HNO := Lib.hid (fun k => blk_no (l := n.blocks) (k := k))
 have HNUMS := Lib.hid (nums_is n)
 obtain ⟨L, hL⟩ : ∃ L, L = n.blocks.length := ⟨_, rfl⟩
 rw [<- hL] at hn1 hlc HH HNUMS ⊢
 have HL := Lib.hid hL
 clear hL
 obtain ⟨M, hM⟩ : ∃ M, M = n.dflt.length := ⟨_, rfl⟩
 rw [<- hM] at HH H2 ⊢
 have HML := Lib.hid hM
 clear hM
 have HB := Lib.hid ((Below.refl w.heap.size w).alloc (Nat.le_refl _) (.cells #[.int .i64 n.kind, .int .i64 n.mode, .int .i64 n.uid, .int .i64 n.gid, .int .i64 n.links, .int .i64 n.size, .int .i64 n.tick, .slice a L c, r1, .slice da M dc] 89))
 have HX := Lib.hid (new w #[.int .i64 n.kind, .int .i64 n.mode, .int .i64 n.uid, .int .i64 n.gid, .int .i64 n.links, .int .i64 n.size, .int .i64 n.tick, .slice a L c, r1, .slice da M dc] 89)
 by_cases h0 : n.kind = 0
 ·exact is_zero w _ n hc HH.out h0
 have h0a : (n.kind == 0) = false := by simpa using h0
 go_enter Tryz.func130, Tryz.ntmps130
 go_wp2
 have hs8 := HX.out.lt
 have u0 := Fam.cell (W := w.alloc (.cells #[.int .i64 n.kind, .int .i64 n.mode, .int .i64 n.uid, .int .i64 n.gid, .int .i64 n.links, .int .i64 n.size, .int .i64 n.tick, .slice a L c, r1, .slice da M dc] 89)) (p := ⟨w.heap.size, 0, none⟩) hs8 (show _ = some (.int .i64 n.kind) from HX.out.cell 0)
 have u1 := Fam.cell (W := w.alloc (.cells #[.int .i64 n.kind, .int .i64 n.mode, .int .i64 n.uid, .int .i64 n.gid, .int .i64 n.links, .int .i64 n.size, .int .i64 n.tick, .slice a L c, r1, .slice da M dc] 89)) (p := ⟨w.heap.size, 1, none⟩) hs8 (show _ = some (.int .i64 n.mode) from HX.out.cell 1)
 have u2 := Fam.cell (W := w.alloc (.cells #[.int .i64 n.kind, .int .i64 n.mode, .int .i64 n.uid, .int .i64 n.gid, .int .i64 n.links, .int .i64 n.size, .int .i64 n.tick, .slice a L c, r1, .slice da M dc] 89)) (p := ⟨w.heap.size, 2, none⟩) hs8 (show _ = some (.int .i64 n.uid) from HX.out.cell 2)
 have u3 := Fam.cell (W := w.alloc (.cells #[.int .i64 n.kind, .int .i64 n.mode, .int .i64 n.uid, .int .i64 n.gid, .int .i64 n.links, .int .i64 n.size, .int .i64 n.tick, .slice a L c, r1, .slice da M dc] 89)) (p := ⟨w.heap.size, 3, none⟩) hs8 (show _ = some (.int .i64 n.gid) from HX.out.cell 3)
 have u4 := Fam.cell (W := w.alloc (.cells #[.int .i64 n.kind, .int .i64 n.mode, .int .i64 n.uid, .int .i64 n.gid, .int .i64 n.links, .int .i64 n.size, .int .i64 n.tick, .slice a L c, r1, .slice da M dc] 89)) (p := ⟨w.heap.size, 4, none⟩) hs8 (show _ = some (.int .i64 n.links) from HX.out.cell 4)
 have u5 := Fam.cell (W := w.alloc (.cells #[.int .i64 n.kind, .int .i64 n.mode, .int .i64 n.uid, .int .i64 n.gid, .int .i64 n.links, .int .i64 n.size, .int .i64 n.tick, .slice a L c, r1, .slice da M dc] 89)) (p := ⟨w.heap.size, 5, none⟩) hs8 (show _ = some (.int .i64 n.size) from HX.out.cell 5)
 have u6 := Fam.cell (W := w.alloc (.cells #[.int .i64 n.kind, .int .i64 n.mode, .int .i64 n.uid, .int .i64 n.gid, .int .i64 n.links, .int .i64 n.size, .int .i64 n.tick, .slice a L c, r1, .slice da M dc] 89)) (p := ⟨w.heap.size, 6, none⟩) hs8 (show _ = some (.int .i64 n.tick) from HX.out.cell 6)
 have u7 := Fam.cell (W := w.alloc (.cells #[.int .i64 n.kind, .int .i64 n.mode, .int .i64 n.uid, .int .i64 n.gid, .int .i64 n.links, .int .i64 n.size, .int .i64 n.tick, .slice a L c, r1, .slice da M dc] 89)) (p := ⟨w.heap.size, 7, none⟩) hs8 (show _ = some (.slice a L c) from HX.out.cell 7)
 refine Fam.region (by kernel_rfl) (by kernel_rfl) ?_
 by_cases hk1 : n.kind = 1
 ·have k1a : (n.kind == 1) = true := by simp [hk1]
  have k1b : (n.kind != 1) = false := by simp [hk1]
  have k2a : (n.kind == 2) = false := by simp [hk1]
  have k2b : (n.kind != 2) = true := by simp [hk1]
  cases hxM : modeB n.mode
  ·have HW := Lib.hid (ok_no h0 (by rw [HNUMS.out, hxM]; simp))
   have HM := Lib.hid (fun W => show Calls Tryz.prog 167 #[.int .i64 n.mode] W fun e w' => e = .returned (.bool false) /\ W = w' from by have := Pm.mode_spec n.mode W; rw [hxM] at this; exact this)
   clear h0 hk1 hxM
   repeat (go_big_quiet_step (first | (go_at_call 167; with_reducible refine Fam.calls_same (HM.out _))))
   refine wpQuiet_nil ?_
   intro _ hw'
   obtain ⟨nq, hw''⟩ := hw'
   subst hw''
   have hbq := Fam.wld_below _ nq
   generalize Fam.wld _ nq = w9 at hbq ⊢
   replace HX := Lib.hid (HX.out.all hbq)
   replace HB := Lib.hid (HB.out.trans (hbq.mono HB.out.size))
   clear hbq u0 u1 u2 u3 u4 u5 u6 u7 hs8
   go_wp2
   go_ret
   exact ⟨ret_bool HW.out.symm, HB.out⟩
  ·have HM := Lib.hid (fun W => show Calls Tryz.prog 167 #[.int .i64 n.mode] W fun e w' => e = .returned (.bool true) /\ W = w' from by have := Pm.mode_spec n.mode W; rw [hxM] at this; exact this)
   cases hxU : userB n.uid
   ·have HW := Lib.hid (ok_no h0 (by rw [HNUMS.out, hxU]; simp))
    have HU := Lib.hid (fun W => show Calls Tryz.prog 139 #[.int .i64 n.uid] W fun e w' => e = .returned (.bool false) /\ W = w' from by have := Pm.user_spec n.uid W; rw [hxU] at this; exact this)
    clear h0 hk1 hxM hxU
    repeat (go_big_quiet_step (first | (go_at_call 167; with_reducible refine Fam.calls_same (HM.out _)) | (go_at_call 139; with_reducible refine Fam.calls_same (HU.out _))))
    refine wpQuiet_nil ?_
    intro _ hw'
    obtain ⟨nq, hw''⟩ := hw'
    subst hw''
    have hbq := Fam.wld_below _ nq
    generalize Fam.wld _ nq = w9 at hbq ⊢
    replace HX := Lib.hid (HX.out.all hbq)
    replace HB := Lib.hid (HB.out.trans (hbq.mono HB.out.size))
    clear hbq u0 u1 u2 u3 u4 u5 u6 u7 hs8
    go_wp2
    go_ret
    exact ⟨ret_bool HW.out.symm, HB.out⟩
   ·have HU := Lib.hid (fun W => show Calls Tryz.prog 139 #[.int .i64 n.uid] W fun e w' => e = .returned (.bool true) /\ W = w' from by have := Pm.user_spec n.uid W; rw [hxU] at this; exact this)
    cases hxG : userB n.gid
    ·have HW := Lib.hid (ok_no h0 (by rw [HNUMS.out, hxG]; simp))
     have HG := Lib.hid (fun W => show Calls Tryz.prog 139 #[.int .i64 n.gid] W fun e w' => e = .returned (.bool false) /\ W = w' from by have := Pm.user_spec n.gid W; rw [hxG] at this; exact this)
     clear h0 hk1 hxM hxU hxG
     repeat (go_big_quiet_step (first | (go_at_call 167; with_reducible refine Fam.calls_same (HM.out _)) | (go_at_call 139; with_reducible refine Fam.calls_same (HU.out _)) | (go_at_call 139; with_reducible refine Fam.calls_same (HG.out _))))
     refine wpQuiet_nil ?_
     intro _ hw'
     obtain ⟨nq, hw''⟩ := hw'
     subst hw''
     have hbq := Fam.wld_below _ nq
     generalize Fam.wld _ nq = w9 at hbq ⊢
     replace HX := Lib.hid (HX.out.all hbq)
     replace HB := Lib.hid (HB.out.trans (hbq.mono HB.out.size))
     clear hbq u0 u1 u2 u3 u4 u5 u6 u7 hs8
     go_wp2
     go_ret
     exact ⟨ret_bool HW.out.symm, HB.out⟩
    ·have HG := Lib.hid (fun W => show Calls Tryz.prog 139 #[.int .i64 n.gid] W fun e w' => e = .returned (.bool true) /\ W = w' from by have := Pm.user_spec n.gid W; rw [hxG] at this; exact this)
     cases hxK : inB n.links 0 1000
     ·have HW := Lib.hid (ok_no h0 (by rw [HNUMS.out, hxK]; simp))
      have HK := Lib.hid (fun W => show Calls Tryz.prog 103 #[.int .i64 n.links, .int .i64 0, .int .i64 1000] W fun e w' => e = .returned (.bool false) /\ W = w' from by have := in_spec n.links 0 1000 W; rw [hxK] at this; exact this)
      clear h0 hk1 hxM hxU hxG hxK
      repeat (go_big_quiet_step (first | (go_at_call 167; with_reducible refine Fam.calls_same (HM.out _)) | (go_at_call 139; with_reducible refine Fam.calls_same (HU.out _)) | (go_at_call 139; with_reducible refine Fam.calls_same (HG.out _)) | (go_at_call 103; with_reducible refine Fam.calls_same (HK.out _))))
      refine wpQuiet_nil ?_
      intro _ hw'
      obtain ⟨nq, hw''⟩ := hw'
      subst hw''
      have hbq := Fam.wld_below _ nq
      generalize Fam.wld _ nq = w9 at hbq ⊢
      replace HX := Lib.hid (HX.out.all hbq)
      replace HB := Lib.hid (HB.out.trans (hbq.mono HB.out.size))
      clear hbq u0 u1 u2 u3 u4 u5 u6 u7 hs8
      go_wp2
      go_ret
      exact ⟨ret_bool HW.out.symm, HB.out⟩
     ·have HK := Lib.hid (fun W => show Calls Tryz.prog 103 #[.int .i64 n.links, .int .i64 0, .int .i64 1000] W fun e w' => e = .returned (.bool true) /\ W = w' from by have := in_spec n.links 0 1000 W; rw [hxK] at this; exact this)
      cases hxS : inB n.size 0 256
      ·have HW := Lib.hid (ok_no h0 (by rw [HNUMS.out, hxS]; simp))
       have HS := Lib.hid (fun W => show Calls Tryz.prog 103 #[.int .i64 n.size, .int .i64 0, .int .i64 256] W fun e w' => e = .returned (.bool false) /\ W = w' from by have := in_spec n.size 0 256 W; rw [hxS] at this; exact this)
       clear h0 hk1 hxM hxU hxG hxK hxS
       repeat (go_big_quiet_step (first | (go_at_call 167; with_reducible refine Fam.calls_same (HM.out _)) | (go_at_call 139; with_reducible refine Fam.calls_same (HU.out _)) | (go_at_call 139; with_reducible refine Fam.calls_same (HG.out _)) | (go_at_call 103; with_reducible refine Fam.calls_same (HK.out _)) | (go_at_call 103; with_reducible refine Fam.calls_same (HS.out _))))
       refine wpQuiet_nil ?_
       intro _ hw'
       obtain ⟨nq, hw''⟩ := hw'
       subst hw''
       have hbq := Fam.wld_below _ nq
       generalize Fam.wld _ nq = w9 at hbq ⊢
       replace HX := Lib.hid (HX.out.all hbq)
       replace HB := Lib.hid (HB.out.trans (hbq.mono HB.out.size))
       clear hbq u0 u1 u2 u3 u4 u5 u6 u7 hs8
       go_wp2
       go_ret
       exact ⟨ret_bool HW.out.symm, HB.out⟩
      ·have HS := Lib.hid (fun W => show Calls Tryz.prog 103 #[.int .i64 n.size, .int .i64 0, .int .i64 256] W fun e w' => e = .returned (.bool true) /\ W = w' from by have := in_spec n.size 0 256 W; rw [hxS] at this; exact this)
       cases hxT : inB n.tick 0 1000000000
       ·have HW := Lib.hid (ok_no h0 (by rw [HNUMS.out, hxT]; simp))
        have HT := Lib.hid (fun W => show Calls Tryz.prog 103 #[.int .i64 n.tick, .int .i64 0, .int .i64 1000000000] W fun e w' => e = .returned (.bool false) /\ W = w' from by have := in_spec n.tick 0 1000000000 W; rw [hxT] at this; exact this)
        clear h0 hk1 hxM hxU hxG hxK hxS hxT
        repeat (go_big_quiet_step (first | (go_at_call 167; with_reducible refine Fam.calls_same (HM.out _)) | (go_at_call 139; with_reducible refine Fam.calls_same (HU.out _)) | (go_at_call 139; with_reducible refine Fam.calls_same (HG.out _)) | (go_at_call 103; with_reducible refine Fam.calls_same (HK.out _)) | (go_at_call 103; with_reducible refine Fam.calls_same (HS.out _)) | (go_at_call 103; with_reducible refine Fam.calls_same (HT.out _))))
        refine wpQuiet_nil ?_
        intro _ hw'
        obtain ⟨nq, hw''⟩ := hw'
        subst hw''
        have hbq := Fam.wld_below _ nq
        generalize Fam.wld _ nq = w9 at hbq ⊢
        replace HX := Lib.hid (HX.out.all hbq)
        replace HB := Lib.hid (HB.out.trans (hbq.mono HB.out.size))
        clear hbq u0 u1 u2 u3 u4 u5 u6 u7 hs8
        go_wp2
        go_ret
        exact ⟨ret_bool HW.out.symm, HB.out⟩
       ·have HT := Lib.hid (fun W => show Calls Tryz.prog 103 #[.int .i64 n.tick, .int .i64 0, .int .i64 1000000000] W fun e w' => e = .returned (.bool true) /\ W = w' from by have := in_spec n.tick 0 1000000000 W; rw [hxT] at this; exact this)
        have hrs := in_true hxS
        have HND0 := Lib.hid (fun W => InEq.need_spec n.size W (by unfold Rg; omega))
        by_cases hnd : (L : Int) = needV n.size
        ·have HND := Lib.hid (fun W => show Calls Tryz.prog 153 #[.int .i64 n.size] W fun e w' => e = .returned (.int .i64 (L : Int)) /\ W = w' from by have := HND0.out W; rw [<- hnd] at this; exact this)
         have hnums : numsB n = true := by rw [HNUMS.out, hxM, hxU, hxG, hxK, hxS, hxT, decide_eq_true hnd, hk1]; rfl
         have HW := Lib.hid (rest_is h0 hnums)
         have hmode := (mode_iff _).1 hxM
         have e9 : (bits .and .i64 n.mode 512 != 0) = stickyB n.mode := Md.bit_in hmode.1 hmode.2 9 (by omega) 512 rfl
         have HF1 := Lib.hid (fun h => file_dflt (n := n) h)
         have HF2 := Lib.hid (fun h => file_bit (n := n) h)
         have HF3 := Lib.hid (fun h => file_dir (n := n) h)
         have HKD := Lib.hid hk1
         clear hnd hnums h0 hk1 hxM hxU hxG hxK hxS hxT HND0 hrs hmode
         repeat (go_big_quiet_step (first | (go_at_call 167; with_reducible refine Fam.calls_same (HM.out _)) | (go_at_call 139; with_reducible refine Fam.calls_same (HU.out _)) | (go_at_call 139; with_reducible refine Fam.calls_same (HG.out _)) | (go_at_call 103; with_reducible refine Fam.calls_same (HK.out _)) | (go_at_call 103; with_reducible refine Fam.calls_same (HS.out _)) | (go_at_call 103; with_reducible refine Fam.calls_same (HT.out _)) | (go_at_call 153; with_reducible refine Fam.calls_same (HND.out _))))
         refine wpQuiet_nil ?_
         intro _ hw'
         obtain ⟨nq, hw''⟩ := hw'
         subst hw''
         have hbq := Fam.wld_below _ nq
         generalize Fam.wld _ nq = w9 at hbq ⊢
         replace HX := Lib.hid (HX.out.all hbq)
         replace HB := Lib.hid (HB.out.trans (hbq.mono HB.out.size))
         clear hbq u0 u1 u2 u3 u4 u5 u6 u7 hs8
         obtain ⟨x0, x1, x2, x3, x4, x5, x6, x7, x8, x9⟩ := Bk.c10 HX.out
         go_wp2
         go_loopw [67] (fun iv wr => ∃ k : Nat, k <= L /\ iv = .int .i64 k /\ Bk wr w.heap.size #[.int .i64 n.kind, .int .i64 n.mode, .int .i64 n.uid, .int .i64 n.gid, .int .i64 n.links, .int .i64 n.size, .int .i64 n.tick, .slice a L c, r1, .slice da M dc] 89 /\ Below w.heap.size w wr /\ blksB n.blocks k = true) (fun iv _ => L - (intOf iv).toNat)
         case atStart => exact ⟨0, Nat.zero_le _, rfl, HX.out, HB.out, rfl⟩
         case round =>
          obtain ⟨k, hk, rfl, hx, hbel, hr⟩ := hrel
          replace HB := Lib.hid hbel
          replace HX := Lib.hid hx
          have HR := Lib.hid hr
          clear hx hbel hr x0 x1 x2 x3 x4 x5 x6 x7 x8 x9
          obtain ⟨x0, x1, x2, x3, x4, x5, x6, x7, x8, x9⟩ := Bk.c10 HX.out
          by_cases hlt : k < L
          ·obtain ⟨b, off, rfl, hb, g0⟩ := HC.out k (by rw [<- HL.out]; exact hlt)
           rw [<- HB.out.cell (p := ⟨b, _, none⟩) hb] at g0
           have hkc : ¬ c = 0 := by omega
           have hck := CrI.has_spec wr (.slice (some ⟨b, off, none⟩) k c) (n.blocks.take k) (n.blocks.getD k 0) (by rw [List.length_take]; omega) (HTK.out wr k HB.out (by rw [<- HL.out]; omega))
           have hin := in_spec (n.blocks.getD k 0) (-1) 999 wr
           have HN1 := Lib.hid (HY1.out k HR.out)
           have HN2 := Lib.hid (HY2.out k HR.out)
           have HN3 := Lib.hid (HNO.out k (by rw [<- HL.out]; exact hlt))
           generalize n.blocks.getD k 0 = x at g0 hck hin HN1 HN2 HN3
           cases hi : inB x (-1) 999
           ·have hi2 := in_false hi
            rw [hi] at hin
            have HIN := Lib.hid hin
            have HN := Lib.hid (HN3.out ⟨by omega, by omega⟩)
            clear hck hin hi hi2
            go_wp2_with fail
            refine HIN.out.mono ?_
            rintro e wq ⟨rfl, rfl⟩
            go_wp2
            go_ret
            exact ⟨ret_bool (by rw [HW.out, HN.out]; rfl), HB.out⟩
           ·have hi2 := in_true hi
            rw [hi] at hin
            have HIN := Lib.hid hin
            clear hin hi
            by_cases hm : x = -1
            ·have HN := Lib.hid (HN1.out hm)
             subst hm
             clear hck hi2
             go_wp2_with fail
             refine HIN.out.mono ?_
             rintro e wq ⟨rfl, rfl⟩
             go_wp2
             go_roundw
             case rel => exact ⟨k + 1, by omega, by go_num, HX.out, HB.out, HN.out⟩
             case measure => simp [intOf]; omega
            ·have hm2 : (x == -1) = false := by simpa using hm
             have hm3 : (x != -1) = true := by simpa using hm
             cases hy : CrI.hasB (n.blocks.take k) x
             ·rw [hy] at hck
              have HN := Lib.hid (HN2.out (by omega) hi2.2 hy)
              have HCK := Lib.hid hck
              clear hck hy hm hi2
              go_wp2_with fail
              refine HIN.out.mono ?_
              rintro e wq ⟨rfl, rfl⟩
              go_wp2_with fail
              refine HCK.out.mono ?_
              rintro e wq ⟨rfl, rfl⟩
              go_wp2
              go_roundw
              case rel => exact ⟨k + 1, by omega, by go_num, HX.out, HB.out, HN.out⟩
              case measure => simp [intOf]; omega
             ·rw [hy] at hck
              have HN := Lib.hid (HN3.out ⟨hm, .inr (.inr hy)⟩)
              have HCK := Lib.hid hck
              clear hck hy hm hi2
              go_wp2_with fail
              refine HIN.out.mono ?_
              rintro e wq ⟨rfl, rfl⟩
              go_wp2_with fail
              refine HCK.out.mono ?_
              rintro e wq ⟨rfl, rfl⟩
              go_wp2
              go_ret
              exact ⟨ret_bool (by rw [HW.out, HN.out]; rfl), HB.out⟩
          ·obtain rfl : k = L := by omega
           have HN := Lib.hid (show blksB n.blocks n.blocks.length = true by rw [<- HL.out]; exact HR.out)
           by_cases hd : M = 0
           ·subst hd
            have hd : (0 : Nat) = 0 := rfl
            have HFB := Lib.hid (HF2.out HKD.out HML.out.symm)
            clear hd
            cases hst : stickyB n.mode
            ·rw [hst] at e9
             have e8 : (bits .and .i64 n.mode 512 == 0) = true := by simpa [bne] using e9
             have HFB2 := Lib.hid (show fileB n = false by rw [HFB.out, hst])
             clear hst
             by_cases hac : okB n.acl = true
             ·have HA := Lib.hid hac
              have HW2 := Lib.hid (show okI n = okB n.dflt by rw [HW.out, HN.out, HA.out, HFB2.out]; rfl)
              clear hac
              go_wp2_with fail
              refine (AclI.spec_any _ r1 n.acl hn2 (Ae.holds_below H1.out HB.out)).mono ?_
              rintro e w1 ⟨rfl, hb⟩
              rw [HA.out]
              replace HX := Lib.hid (HX.out.all hb)
              replace HB := Lib.hid (HB.out.trans (hb.mono HB.out.size))
              clear hb x0 x1 x2 x3 x4 x5 x6 x7 x8 x9
              obtain ⟨x0, x1, x2, x3, x4, x5, x6, x7, x8, x9⟩ := Bk.c10 HX.out
              go_wp2_with fail
              refine (AclI.spec_any _ _ n.dflt hn3 (Ae.holds_below H2.out HB.out)).mono ?_
              rintro e w2 ⟨rfl, hb⟩
              replace HB := Lib.hid (HB.out.trans (hb.mono HB.out.size))
              clear hb
              generalize okB n.dflt = D at HW2 ⊢
              go_wp2
              go_ret
              exact ⟨ret_bool HW2.out.symm, HB.out⟩
             ·have hac' : okB n.acl = false := by simpa using hac
              have HA := Lib.hid hac'
              have HW2 := Lib.hid (show okI n = false by rw [HW.out, HN.out, HA.out]; simp)
              clear hac hac'
              go_wp2_with fail
              refine (AclI.spec_any _ r1 n.acl hn2 (Ae.holds_below H1.out HB.out)).mono ?_
              rintro e w1 ⟨rfl, hb⟩
              rw [HA.out]
              replace HB := Lib.hid (HB.out.trans (hb.mono HB.out.size))
              clear hb
              go_wp2
              go_ret
              exact ⟨ret_bool HW2.out.symm, HB.out⟩
            ·rw [hst] at e9
             have e8 : (bits .and .i64 n.mode 512 == 0) = false := by simpa [bne] using e9
             have HW2 := Lib.hid (show okI n = false by rw [HW.out, HN.out, HFB.out, hst]; rfl)
             clear hst
             go_wp2
             go_ret
             exact ⟨ret_bool HW2.out.symm, HB.out⟩
           ·have hd2 : decide ((0 : Int) < (M : Int)) = true := decide_eq_true (by omega)
            have hd3 : (0 : Int) < (M : Int) := by omega
            have HFB := Lib.hid (HF1.out HKD.out (by rw [<- HML.out]; exact hd))
            have HW2 := Lib.hid (show okI n = false by rw [HW.out, HN.out, HFB.out]; rfl)
            clear hd
            go_wp2
            go_ret
            exact ⟨ret_bool HW2.out.symm, HB.out⟩
        ·have HW := Lib.hid (ok_no h0 (by rw [HNUMS.out, decide_eq_false hnd]; simp))
         have HND := Lib.hid HND0.out
         generalize needV n.size = y at HND hnd
         have hq1 : ((L : Int) == y) = false := by simpa using hnd
         have hq2 : ((L : Int) != y) = true := by simpa using hnd
         clear h0 hk1 hnd hxM hxU hxG hxK hxS hxT HND0 hrs
         repeat (go_big_quiet_step (first | (go_at_call 167; with_reducible refine Fam.calls_same (HM.out _)) | (go_at_call 139; with_reducible refine Fam.calls_same (HU.out _)) | (go_at_call 139; with_reducible refine Fam.calls_same (HG.out _)) | (go_at_call 103; with_reducible refine Fam.calls_same (HK.out _)) | (go_at_call 103; with_reducible refine Fam.calls_same (HS.out _)) | (go_at_call 103; with_reducible refine Fam.calls_same (HT.out _)) | (go_at_call 153; with_reducible refine Fam.calls_same (HND.out _))))
         refine wpQuiet_nil ?_
         intro _ hw'
         obtain ⟨nq, hw''⟩ := hw'
         subst hw''
         have hbq := Fam.wld_below _ nq
         generalize Fam.wld _ nq = w9 at hbq ⊢
         replace HX := Lib.hid (HX.out.all hbq)
         replace HB := Lib.hid (HB.out.trans (hbq.mono HB.out.size))
         clear hbq u0 u1 u2 u3 u4 u5 u6 u7 hs8
         go_wp2
         go_ret
         exact ⟨ret_bool HW.out.symm, HB.out⟩
 by_cases hk2 : n.kind = 2
 ·have k1a : (n.kind == 1) = false := by simp [hk2]
  have k1b : (n.kind != 1) = true := by simp [hk2]
  have k2a : (n.kind == 2) = true := by simp [hk2]
  have k2b : (n.kind != 2) = false := by simp [hk2]
  cases hxM : modeB n.mode
  ·have HW := Lib.hid (ok_no h0 (by rw [HNUMS.out, hxM]; simp))
   have HM := Lib.hid (fun W => show Calls Tryz.prog 167 #[.int .i64 n.mode] W fun e w' => e = .returned (.bool false) /\ W = w' from by have := Pm.mode_spec n.mode W; rw [hxM] at this; exact this)
   clear h0 hk2 hk1 hxM
   repeat (go_big_quiet_step (first | (go_at_call 167; with_reducible refine Fam.calls_same (HM.out _))))
   refine wpQuiet_nil ?_
   intro _ hw'
   obtain ⟨nq, hw''⟩ := hw'
   subst hw''
   have hbq := Fam.wld_below _ nq
   generalize Fam.wld _ nq = w9 at hbq ⊢
   replace HX := Lib.hid (HX.out.all hbq)
   replace HB := Lib.hid (HB.out.trans (hbq.mono HB.out.size))
   clear hbq u0 u1 u2 u3 u4 u5 u6 u7 hs8
   go_wp2
   go_ret
   exact ⟨ret_bool HW.out.symm, HB.out⟩
  ·have HM := Lib.hid (fun W => show Calls Tryz.prog 167 #[.int .i64 n.mode] W fun e w' => e = .returned (.bool true) /\ W = w' from by have := Pm.mode_spec n.mode W; rw [hxM] at this; exact this)
   cases hxU : userB n.uid
   ·have HW := Lib.hid (ok_no h0 (by rw [HNUMS.out, hxU]; simp))
    have HU := Lib.hid (fun W => show Calls Tryz.prog 139 #[.int .i64 n.uid] W fun e w' => e = .returned (.bool false) /\ W = w' from by have := Pm.user_spec n.uid W; rw [hxU] at this; exact this)
    clear h0 hk2 hk1 hxM hxU
    repeat (go_big_quiet_step (first | (go_at_call 167; with_reducible refine Fam.calls_same (HM.out _)) | (go_at_call 139; with_reducible refine Fam.calls_same (HU.out _))))
    refine wpQuiet_nil ?_
    intro _ hw'
    obtain ⟨nq, hw''⟩ := hw'
    subst hw''
    have hbq := Fam.wld_below _ nq
    generalize Fam.wld _ nq = w9 at hbq ⊢
    replace HX := Lib.hid (HX.out.all hbq)
    replace HB := Lib.hid (HB.out.trans (hbq.mono HB.out.size))
    clear hbq u0 u1 u2 u3 u4 u5 u6 u7 hs8
    go_wp2
    go_ret
    exact ⟨ret_bool HW.out.symm, HB.out⟩
   ·have HU := Lib.hid (fun W => show Calls Tryz.prog 139 #[.int .i64 n.uid] W fun e w' => e = .returned (.bool true) /\ W = w' from by have := Pm.user_spec n.uid W; rw [hxU] at this; exact this)
    cases hxG : userB n.gid
    ·have HW := Lib.hid (ok_no h0 (by rw [HNUMS.out, hxG]; simp))
     have HG := Lib.hid (fun W => show Calls Tryz.prog 139 #[.int .i64 n.gid] W fun e w' => e = .returned (.bool false) /\ W = w' from by have := Pm.user_spec n.gid W; rw [hxG] at this; exact this)
     clear h0 hk2 hk1 hxM hxU hxG
     repeat (go_big_quiet_step (first | (go_at_call 167; with_reducible refine Fam.calls_same (HM.out _)) | (go_at_call 139; with_reducible refine Fam.calls_same (HU.out _)) | (go_at_call 139; with_reducible refine Fam.calls_same (HG.out _))))
     refine wpQuiet_nil ?_
     intro _ hw'
     obtain ⟨nq, hw''⟩ := hw'
     subst hw''
     have hbq := Fam.wld_below _ nq
     generalize Fam.wld _ nq = w9 at hbq ⊢
     replace HX := Lib.hid (HX.out.all hbq)
     replace HB := Lib.hid (HB.out.trans (hbq.mono HB.out.size))
     clear hbq u0 u1 u2 u3 u4 u5 u6 u7 hs8
     go_wp2
     go_ret
     exact ⟨ret_bool HW.out.symm, HB.out⟩
    ·have HG := Lib.hid (fun W => show Calls Tryz.prog 139 #[.int .i64 n.gid] W fun e w' => e = .returned (.bool true) /\ W = w' from by have := Pm.user_spec n.gid W; rw [hxG] at this; exact this)
     cases hxK : inB n.links 0 1000
     ·have HW := Lib.hid (ok_no h0 (by rw [HNUMS.out, hxK]; simp))
      have HK := Lib.hid (fun W => show Calls Tryz.prog 103 #[.int .i64 n.links, .int .i64 0, .int .i64 1000] W fun e w' => e = .returned (.bool false) /\ W = w' from by have := in_spec n.links 0 1000 W; rw [hxK] at this; exact this)
      clear h0 hk2 hk1 hxM hxU hxG hxK
      repeat (go_big_quiet_step (first | (go_at_call 167; with_reducible refine Fam.calls_same (HM.out _)) | (go_at_call 139; with_reducible refine Fam.calls_same (HU.out _)) | (go_at_call 139; with_reducible refine Fam.calls_same (HG.out _)) | (go_at_call 103; with_reducible refine Fam.calls_same (HK.out _))))
      refine wpQuiet_nil ?_
      intro _ hw'
      obtain ⟨nq, hw''⟩ := hw'
      subst hw''
      have hbq := Fam.wld_below _ nq
      generalize Fam.wld _ nq = w9 at hbq ⊢
      replace HX := Lib.hid (HX.out.all hbq)
      replace HB := Lib.hid (HB.out.trans (hbq.mono HB.out.size))
      clear hbq u0 u1 u2 u3 u4 u5 u6 u7 hs8
      go_wp2
      go_ret
      exact ⟨ret_bool HW.out.symm, HB.out⟩
     ·have HK := Lib.hid (fun W => show Calls Tryz.prog 103 #[.int .i64 n.links, .int .i64 0, .int .i64 1000] W fun e w' => e = .returned (.bool true) /\ W = w' from by have := in_spec n.links 0 1000 W; rw [hxK] at this; exact this)
      cases hxS : inB n.size 0 256
      ·have HW := Lib.hid (ok_no h0 (by rw [HNUMS.out, hxS]; simp))
       have HS := Lib.hid (fun W => show Calls Tryz.prog 103 #[.int .i64 n.size, .int .i64 0, .int .i64 256] W fun e w' => e = .returned (.bool false) /\ W = w' from by have := in_spec n.size 0 256 W; rw [hxS] at this; exact this)
       clear h0 hk2 hk1 hxM hxU hxG hxK hxS
       repeat (go_big_quiet_step (first | (go_at_call 167; with_reducible refine Fam.calls_same (HM.out _)) | (go_at_call 139; with_reducible refine Fam.calls_same (HU.out _)) | (go_at_call 139; with_reducible refine Fam.calls_same (HG.out _)) | (go_at_call 103; with_reducible refine Fam.calls_same (HK.out _)) | (go_at_call 103; with_reducible refine Fam.calls_same (HS.out _))))
       refine wpQuiet_nil ?_
       intro _ hw'
       obtain ⟨nq, hw''⟩ := hw'
       subst hw''
       have hbq := Fam.wld_below _ nq
       generalize Fam.wld _ nq = w9 at hbq ⊢
       replace HX := Lib.hid (HX.out.all hbq)
       replace HB := Lib.hid (HB.out.trans (hbq.mono HB.out.size))
       clear hbq u0 u1 u2 u3 u4 u5 u6 u7 hs8
       go_wp2
       go_ret
       exact ⟨ret_bool HW.out.symm, HB.out⟩
      ·have HS := Lib.hid (fun W => show Calls Tryz.prog 103 #[.int .i64 n.size, .int .i64 0, .int .i64 256] W fun e w' => e = .returned (.bool true) /\ W = w' from by have := in_spec n.size 0 256 W; rw [hxS] at this; exact this)
       cases hxT : inB n.tick 0 1000000000
       ·have HW := Lib.hid (ok_no h0 (by rw [HNUMS.out, hxT]; simp))
        have HT := Lib.hid (fun W => show Calls Tryz.prog 103 #[.int .i64 n.tick, .int .i64 0, .int .i64 1000000000] W fun e w' => e = .returned (.bool false) /\ W = w' from by have := in_spec n.tick 0 1000000000 W; rw [hxT] at this; exact this)
        clear h0 hk2 hk1 hxM hxU hxG hxK hxS hxT
        repeat (go_big_quiet_step (first | (go_at_call 167; with_reducible refine Fam.calls_same (HM.out _)) | (go_at_call 139; with_reducible refine Fam.calls_same (HU.out _)) | (go_at_call 139; with_reducible refine Fam.calls_same (HG.out _)) | (go_at_call 103; with_reducible refine Fam.calls_same (HK.out _)) | (go_at_call 103; with_reducible refine Fam.calls_same (HS.out _)) | (go_at_call 103; with_reducible refine Fam.calls_same (HT.out _))))
        refine wpQuiet_nil ?_
        intro _ hw'
        obtain ⟨nq, hw''⟩ := hw'
        subst hw''
        have hbq := Fam.wld_below _ nq
        generalize Fam.wld _ nq = w9 at hbq ⊢
        replace HX := Lib.hid (HX.out.all hbq)
        replace HB := Lib.hid (HB.out.trans (hbq.mono HB.out.size))
        clear hbq u0 u1 u2 u3 u4 u5 u6 u7 hs8
        go_wp2
        go_ret
        exact ⟨ret_bool HW.out.symm, HB.out⟩
       ·have HT := Lib.hid (fun W => show Calls Tryz.prog 103 #[.int .i64 n.tick, .int .i64 0, .int .i64 1000000000] W fun e w' => e = .returned (.bool true) /\ W = w' from by have := in_spec n.tick 0 1000000000 W; rw [hxT] at this; exact this)
        have hrs := in_true hxS
        have HND0 := Lib.hid (fun W => InEq.need_spec n.size W (by unfold Rg; omega))
        by_cases hnd : (L : Int) = needV n.size
        ·have HND := Lib.hid (fun W => show Calls Tryz.prog 153 #[.int .i64 n.size] W fun e w' => e = .returned (.int .i64 (L : Int)) /\ W = w' from by have := HND0.out W; rw [<- hnd] at this; exact this)
         have hnums : numsB n = true := by rw [HNUMS.out, hxM, hxU, hxG, hxK, hxS, hxT, decide_eq_true hnd, hk2]; rfl
         have HW := Lib.hid (rest_is h0 hnums)
         have hmode := (mode_iff _).1 hxM
         have e9 : (bits .and .i64 n.mode 512 != 0) = stickyB n.mode := Md.bit_in hmode.1 hmode.2 9 (by omega) 512 rfl
         have HF1 := Lib.hid (fun h => file_dflt (n := n) h)
         have HF2 := Lib.hid (fun h => file_bit (n := n) h)
         have HF3 := Lib.hid (fun h => file_dir (n := n) h)
         have HKD := Lib.hid hk2
         clear hnd hnums h0 hk2 hk1 hxM hxU hxG hxK hxS hxT HND0 hrs hmode
         repeat (go_big_quiet_step (first | (go_at_call 167; with_reducible refine Fam.calls_same (HM.out _)) | (go_at_call 139; with_reducible refine Fam.calls_same (HU.out _)) | (go_at_call 139; with_reducible refine Fam.calls_same (HG.out _)) | (go_at_call 103; with_reducible refine Fam.calls_same (HK.out _)) | (go_at_call 103; with_reducible refine Fam.calls_same (HS.out _)) | (go_at_call 103; with_reducible refine Fam.calls_same (HT.out _)) | (go_at_call 153; with_reducible refine Fam.calls_same (HND.out _))))
         refine wpQuiet_nil ?_
         intro _ hw'
         obtain ⟨nq, hw''⟩ := hw'
         subst hw''
         have hbq := Fam.wld_below _ nq
         generalize Fam.wld _ nq = w9 at hbq ⊢
         replace HX := Lib.hid (HX.out.all hbq)
         replace HB := Lib.hid (HB.out.trans (hbq.mono HB.out.size))
         clear hbq u0 u1 u2 u3 u4 u5 u6 u7 hs8
         obtain ⟨x0, x1, x2, x3, x4, x5, x6, x7, x8, x9⟩ := Bk.c10 HX.out
         go_wp2
         go_loopw [67] (fun iv wr => ∃ k : Nat, k <= L /\ iv = .int .i64 k /\ Bk wr w.heap.size #[.int .i64 n.kind, .int .i64 n.mode, .int .i64 n.uid, .int .i64 n.gid, .int .i64 n.links, .int .i64 n.size, .int .i64 n.tick, .slice a L c, r1, .slice da M dc] 89 /\ Below w.heap.size w wr /\ blksB n.blocks k = true) (fun iv _ => L - (intOf iv).toNat)
         case atStart => exact ⟨0, Nat.zero_le _, rfl, HX.out, HB.out, rfl⟩
         case round =>
          obtain ⟨k, hk, rfl, hx, hbel, hr⟩ := hrel
          replace HB := Lib.hid hbel
          replace HX := Lib.hid hx
          have HR := Lib.hid hr
          clear hx hbel hr x0 x1 x2 x3 x4 x5 x6 x7 x8 x9
          obtain ⟨x0, x1, x2, x3, x4, x5, x6, x7, x8, x9⟩ := Bk.c10 HX.out
          by_cases hlt : k < L
          ·obtain ⟨b, off, rfl, hb, g0⟩ := HC.out k (by rw [<- HL.out]; exact hlt)
           rw [<- HB.out.cell (p := ⟨b, _, none⟩) hb] at g0
           have hkc : ¬ c = 0 := by omega
           have hck := CrI.has_spec wr (.slice (some ⟨b, off, none⟩) k c) (n.blocks.take k) (n.blocks.getD k 0) (by rw [List.length_take]; omega) (HTK.out wr k HB.out (by rw [<- HL.out]; omega))
           have hin := in_spec (n.blocks.getD k 0) (-1) 999 wr
           have HN1 := Lib.hid (HY1.out k HR.out)
           have HN2 := Lib.hid (HY2.out k HR.out)
           have HN3 := Lib.hid (HNO.out k (by rw [<- HL.out]; exact hlt))
           generalize n.blocks.getD k 0 = x at g0 hck hin HN1 HN2 HN3
           cases hi : inB x (-1) 999
           ·have hi2 := in_false hi
            rw [hi] at hin
            have HIN := Lib.hid hin
            have HN := Lib.hid (HN3.out ⟨by omega, by omega⟩)
            clear hck hin hi hi2
            go_wp2_with fail
            refine HIN.out.mono ?_
            rintro e wq ⟨rfl, rfl⟩
            go_wp2
            go_ret
            exact ⟨ret_bool (by rw [HW.out, HN.out]; rfl), HB.out⟩
           ·have hi2 := in_true hi
            rw [hi] at hin
            have HIN := Lib.hid hin
            clear hin hi
            by_cases hm : x = -1
            ·have HN := Lib.hid (HN1.out hm)
             subst hm
             clear hck hi2
             go_wp2_with fail
             refine HIN.out.mono ?_
             rintro e wq ⟨rfl, rfl⟩
             go_wp2
             go_roundw
             case rel => exact ⟨k + 1, by omega, by go_num, HX.out, HB.out, HN.out⟩
             case measure => simp [intOf]; omega
            ·have hm2 : (x == -1) = false := by simpa using hm
             have hm3 : (x != -1) = true := by simpa using hm
             cases hy : CrI.hasB (n.blocks.take k) x
             ·rw [hy] at hck
              have HN := Lib.hid (HN2.out (by omega) hi2.2 hy)
              have HCK := Lib.hid hck
              clear hck hy hm hi2
              go_wp2_with fail
              refine HIN.out.mono ?_
              rintro e wq ⟨rfl, rfl⟩
              go_wp2_with fail
              refine HCK.out.mono ?_
              rintro e wq ⟨rfl, rfl⟩
              go_wp2
              go_roundw
              case rel => exact ⟨k + 1, by omega, by go_num, HX.out, HB.out, HN.out⟩
              case measure => simp [intOf]; omega
             ·rw [hy] at hck
              have HN := Lib.hid (HN3.out ⟨hm, .inr (.inr hy)⟩)
              have HCK := Lib.hid hck
              clear hck hy hm hi2
              go_wp2_with fail
              refine HIN.out.mono ?_
              rintro e wq ⟨rfl, rfl⟩
              go_wp2_with fail
              refine HCK.out.mono ?_
              rintro e wq ⟨rfl, rfl⟩
              go_wp2
              go_ret
              exact ⟨ret_bool (by rw [HW.out, HN.out]; rfl), HB.out⟩
          ·obtain rfl : k = L := by omega
           have HN := Lib.hid (show blksB n.blocks n.blocks.length = true by rw [<- HL.out]; exact HR.out)
           have HFB := Lib.hid (HF3.out (by rw [HKD.out]; decide))
           by_cases hac : okB n.acl = true
           ·have HA := Lib.hid hac
            have HW2 := Lib.hid (show okI n = okB n.dflt by rw [HW.out, HN.out, HA.out, HFB.out]; rfl)
            clear hac
            go_wp2_with fail
            refine (AclI.spec_any _ r1 n.acl hn2 (Ae.holds_below H1.out HB.out)).mono ?_
            rintro e w1 ⟨rfl, hb⟩
            rw [HA.out]
            replace HX := Lib.hid (HX.out.all hb)
            replace HB := Lib.hid (HB.out.trans (hb.mono HB.out.size))
            clear hb x0 x1 x2 x3 x4 x5 x6 x7 x8 x9
            obtain ⟨x0, x1, x2, x3, x4, x5, x6, x7, x8, x9⟩ := Bk.c10 HX.out
            go_wp2_with fail
            refine (AclI.spec_any _ _ n.dflt hn3 (Ae.holds_below H2.out HB.out)).mono ?_
            rintro e w2 ⟨rfl, hb⟩
            replace HB := Lib.hid (HB.out.trans (hb.mono HB.out.size))
            clear hb
            generalize okB n.dflt = D at HW2 ⊢
            go_wp2
            go_ret
            exact ⟨ret_bool HW2.out.symm, HB.out⟩
           ·have hac' : okB n.acl = false := by simpa using hac
            have HA := Lib.hid hac'
            have HW2 := Lib.hid (show okI n = false by rw [HW.out, HN.out, HA.out]; simp)
            clear hac hac'
            go_wp2_with fail
            refine (AclI.spec_any _ r1 n.acl hn2 (Ae.holds_below H1.out HB.out)).mono ?_
            rintro e w1 ⟨rfl, hb⟩
            rw [HA.out]
            replace HB := Lib.hid (HB.out.trans (hb.mono HB.out.size))
            clear hb
            go_wp2
            go_ret
            exact ⟨ret_bool HW2.out.symm, HB.out⟩
        ·have HW := Lib.hid (ok_no h0 (by rw [HNUMS.out, decide_eq_false hnd]; simp))
         have HND := Lib.hid HND0.out
         generalize needV n.size = y at HND hnd
         have hq1 : ((L : Int) == y) = false := by simpa using hnd
         have hq2 : ((L : Int) != y) = true := by simpa using hnd
         clear h0 hk2 hk1 hnd hxM hxU hxG hxK hxS hxT HND0 hrs
         repeat (go_big_quiet_step (first | (go_at_call 167; with_reducible refine Fam.calls_same (HM.out _)) | (go_at_call 139; with_reducible refine Fam.calls_same (HU.out _)) | (go_at_call 139; with_reducible refine Fam.calls_same (HG.out _)) | (go_at_call 103; with_reducible refine Fam.calls_same (HK.out _)) | (go_at_call 103; with_reducible refine Fam.calls_same (HS.out _)) | (go_at_call 103; with_reducible refine Fam.calls_same (HT.out _)) | (go_at_call 153; with_reducible refine Fam.calls_same (HND.out _))))
         refine wpQuiet_nil ?_
         intro _ hw'
         obtain ⟨nq, hw''⟩ := hw'
         subst hw''
         have hbq := Fam.wld_below _ nq
         generalize Fam.wld _ nq = w9 at hbq ⊢
         replace HX := Lib.hid (HX.out.all hbq)
         replace HB := Lib.hid (HB.out.trans (hbq.mono HB.out.size))
         clear hbq u0 u1 u2 u3 u4 u5 u6 u7 hs8
         go_wp2
         go_ret
         exact ⟨ret_bool HW.out.symm, HB.out⟩
 have k1a : (n.kind == 1) = false := by simpa using hk1
 have k1b : (n.kind != 1) = true := by simpa using hk1
 have k2a : (n.kind == 2) = false := by simpa using hk2
 have k2b : (n.kind != 2) = true := by simpa using hk2
 have HW := Lib.hid (ok_no h0 (by rw [HNUMS.out, decide_eq_false hk1, decide_eq_false hk2]; rfl))
 clear h0 hk1 hk2
 repeat (go_big_quiet_step (first | fail))
 refine wpQuiet_nil ?_
 intro _ hw'
 obtain ⟨nq, hw''⟩ := hw'
 subst hw''
 have hbq := Fam.wld_below _ nq
 generalize Fam.wld _ nq = w9 at hbq ⊢
 replace HX := Lib.hid (HX.out.all hbq)
 replace HB := Lib.hid (HB.out.trans (hbq.mono HB.out.size))
 clear hbq u0 u1 u2 u3 u4 u5 u6 u7 hs8
 go_wp2
 go_ret
 exact ⟨ret_bool HW.out.symm, HB.out⟩
end Go.Proofs.YthppbcnejapbiaaGreatDoor.InOs
