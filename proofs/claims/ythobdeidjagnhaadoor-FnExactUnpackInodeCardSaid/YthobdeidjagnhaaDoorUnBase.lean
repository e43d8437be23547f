/- Helper texts joined, one behind another (a claim has at most 60 files): what each proves, its own head says: YthobdeidjagnhaaDoorInSp, YthobdeidjagnhaaDoorInOs, YthobdeidjagnhaaDoorInP, YthobdeidjagnhaaDoorInPs, YthobdeidjagnhaaDoorInPi, YthobdeidjagnhaaDoorInUp, YthobdeidjagnhaaDoorInUi, YthobdeidjagnhaaDoorInUs. -/
import Derived.Test.YthobdeidjagnhaaDoorInSm
import Derived.Test.YthobdeidjagnhaaDoorInOk
import Derived.Test.YthobdeidjagnhaaDoorAclK
import Derived.Test.YthobdeidjagnhaaDoorInoV
import Derived.Test.YthobdeidjagnhaaDoorAclU
import Derived.Test.YthobdeidjagnhaaDoorFlK

-- YthobdeidjagnhaaDoorInSp
/- Contract: the model's SameInode, for every two inodes. Conditions: as the theorem types them. -/
namespace Go.Proofs.YthobdeidjagnhaaDoor.InSp
open Go.ChangeShapes Go.WideShapes Go.ChangeAt Go.RowKit
open Foot Bx
open InoV (I sameB)
open Dk (ret_bool)
set_option linter.unusedVariables false

theorem no_of {n m : I} (h : n ≠ m) : sameB n m = false := by
  cases hs : sameB n m
  · rfl
  · exact absurd ((InoV.same_iff n m).1 hs) h
theorem rest_of {n m : I} (h0 : n.kind = m.kind) (h1 : n.mode = m.mode) (h2 : n.uid = m.uid) (h3 : n.gid = m.gid) (h4 : n.links = m.links) (h5 : n.size = m.size) (h6 : n.tick = m.tick) : sameB n m = (decide (n.blocks = m.blocks) && decide (n.acl = m.acl) && decide (n.dflt = m.dflt)) := by
  simp [sameB, h0, h1, h2, h3, h4, h5, h6]
set_option maxRecDepth 100000 in
set_option maxHeartbeats 3200000 in
theorem same_spec (w : World) (va vb : Value) (n m : I) (hn : In.cost n ≤ 1073741824) (hm : In.cost m ≤ 1073741824) (h : In.Holds w va n) (h' : In.Holds w vb m) :
    Calls Tryd.prog 40 #[va, vb] w fun e w' => e = .returned (.bool (sameB n m)) ∧ Below w.heap.size w w' := by
  have hn1 : n.blocks.length ≤ 1073741824 := Nat.le_trans (In.le_blocks n) hn
  have hn2 : n.acl.length ≤ 1073741824 := Nat.le_trans (In.le_acl n) hn
  have hn3 : n.dflt.length ≤ 1073741824 := Nat.le_trans (In.le_dflt n) hn
  have hm1 : m.blocks.length ≤ 1073741824 := Nat.le_trans (In.le_blocks m) hm
  have hm2 : m.acl.length ≤ 1073741824 := Nat.le_trans (In.le_acl m) hm
  have hm3 : m.dflt.length ≤ 1073741824 := Nat.le_trans (In.le_dflt m) hm
  clear hn hm
  obtain ⟨r0, r1, r2, rfl, g0, g1, g2⟩ := h
  obtain ⟨s0, s1, s2, rfl, k0, k1, k2⟩ := h'
  have H0 := Lib.hid g0
  have H1 := Lib.hid g1
  have H2 := Lib.hid g2
  have K0 := Lib.hid k0
  have K1 := Lib.hid k1
  have K2 := Lib.hid k2
  clear g0 g1 g2 k0 k1 k2
  have HB := Lib.hid (((Below.refl w.heap.size w).alloc (Nat.le_refl _) (.cells #[.int .i64 n.kind, .int .i64 n.mode, .int .i64 n.uid, .int .i64 n.gid, .int .i64 n.links, .int .i64 n.size, .int .i64 n.tick, r0, r1, r2] 26)).alloc (by simp) (.cells #[.int .i64 m.kind, .int .i64 m.mode, .int .i64 m.uid, .int .i64 m.gid, .int .i64 m.links, .int .i64 m.size, .int .i64 m.tick, s0, s1, s2] 26))
  have HX := Lib.hid ((new w #[.int .i64 n.kind, .int .i64 n.mode, .int .i64 n.uid, .int .i64 n.gid, .int .i64 n.links, .int .i64 n.size, .int .i64 n.tick, r0, r1, r2] 26).alloc (.cells #[.int .i64 m.kind, .int .i64 m.mode, .int .i64 m.uid, .int .i64 m.gid, .int .i64 m.links, .int .i64 m.size, .int .i64 m.tick, s0, s1, s2] 26))
  have HY := Lib.hid (new_at (w.alloc (.cells #[.int .i64 n.kind, .int .i64 n.mode, .int .i64 n.uid, .int .i64 n.gid, .int .i64 n.links, .int .i64 n.size, .int .i64 n.tick, r0, r1, r2] 26)) #[.int .i64 m.kind, .int .i64 m.mode, .int .i64 m.uid, .int .i64 m.gid, .int .i64 m.links, .int .i64 m.size, .int .i64 m.tick, s0, s1, s2] 26 (w.heap.size + 1) (by simp))
  by_cases h0 : n.kind = m.kind
  · have ha0 : (n.kind == m.kind) = true := by simpa using h0
    have hb0 : (n.kind != m.kind) = false := by simpa using h0
    by_cases h1 : n.mode = m.mode
    · have ha1 : (n.mode == m.mode) = true := by simpa using h1
      have hb1 : (n.mode != m.mode) = false := by simpa using h1
      by_cases h2 : n.uid = m.uid
      · have ha2 : (n.uid == m.uid) = true := by simpa using h2
        have hb2 : (n.uid != m.uid) = false := by simpa using h2
        by_cases h3 : n.gid = m.gid
        · have ha3 : (n.gid == m.gid) = true := by simpa using h3
          have hb3 : (n.gid != m.gid) = false := by simpa using h3
          by_cases h4 : n.links = m.links
          · have ha4 : (n.links == m.links) = true := by simpa using h4
            have hb4 : (n.links != m.links) = false := by simpa using h4
            by_cases h5 : n.size = m.size
            · have ha5 : (n.size == m.size) = true := by simpa using h5
              have hb5 : (n.size != m.size) = false := by simpa using h5
              by_cases h6 : n.tick = m.tick
              · have ha6 : (n.tick == m.tick) = true := by simpa using h6
                have hb6 : (n.tick != m.tick) = false := by simpa using h6
                have HS := Lib.hid (rest_of h0 h1 h2 h3 h4 h5 h6)
                clear h0 h1 h2 h3 h4 h5 h6
                by_cases hbl : n.blocks = m.blocks
                · have HBL := Lib.hid (show decide (n.blocks = m.blocks) = true from decide_eq_true hbl)
                  clear hbl
                  by_cases ha : n.acl = m.acl
                  · have HA := Lib.hid (show decide (n.acl = m.acl) = true from decide_eq_true ha)
                    clear ha
                    go_enter Tryd.func40, Tryd.ntmps40
                    go_wp2_with fail
                    refine (InEq.same_ints _ r0 s0 n.blocks m.blocks hn1 hm1 (Ni.holds_below H0.out.old HB.out) (Ni.holds_below K0.out.old HB.out)).mono ?_
                    rintro e w1 ⟨rfl, hb⟩
                    rw [HBL.out]
                    replace HX := Lib.hid (HX.out.all hb)
                    replace HY := Lib.hid (HY.out.all hb)
                    replace HB := Lib.hid (HB.out.trans (hb.mono HB.out.size))
                    clear hb
                    obtain ⟨x00, x01, x02, x03, x04, x05, x06, x07, x08, x09⟩ := Bk.c10 HX.out
                    obtain ⟨y00, y01, y02, y03, y04, y05, y06, y07, y08, y09⟩ := Bk.c10 HY.out
                    go_wp2_with fail
                    refine (InEq.same_ents _ r1 s1 n.acl m.acl hn2 hm2 (Ae.holds_below H1.out HB.out) (Ae.holds_below K1.out HB.out)).mono ?_
                    rintro e w2 ⟨rfl, hb⟩
                    rw [HA.out]
                    replace HX := Lib.hid (HX.out.all hb)
                    replace HY := Lib.hid (HY.out.all hb)
                    replace HB := Lib.hid (HB.out.trans (hb.mono HB.out.size))
                    clear hb
                    obtain ⟨x10, x11, x12, x13, x14, x15, x16, x17, x18, x19⟩ := Bk.c10 HX.out
                    obtain ⟨y10, y11, y12, y13, y14, y15, y16, y17, y18, y19⟩ := Bk.c10 HY.out
                    go_wp2_with fail
                    refine (InEq.same_ents _ r2 s2 n.dflt m.dflt hn3 hm3 (Ae.holds_below H2.out HB.out) (Ae.holds_below K2.out HB.out)).mono ?_
                    rintro e w3 ⟨rfl, hb⟩
                    have HV := Lib.hid (show sameB n m = decide (n.dflt = m.dflt) by rw [HS.out, HBL.out, HA.out]; simp)
                    generalize decide (n.dflt = m.dflt) = D at HV ⊢
                    replace HX := Lib.hid (HX.out.all hb)
                    replace HY := Lib.hid (HY.out.all hb)
                    replace HB := Lib.hid (HB.out.trans (hb.mono HB.out.size))
                    clear hb
                    obtain ⟨x20, x21, x22, x23, x24, x25, x26, x27, x28, x29⟩ := Bk.c10 HX.out
                    obtain ⟨y20, y21, y22, y23, y24, y25, y26, y27, y28, y29⟩ := Bk.c10 HY.out
                    go_wp2
                    go_ret
                    exact ⟨ret_bool HV.out.symm, HB.out⟩
                  · have HA := Lib.hid (show decide (n.acl = m.acl) = false from decide_eq_false ha)
                    clear ha
                    go_enter Tryd.func40, Tryd.ntmps40
                    go_wp2_with fail
                    refine (InEq.same_ints _ r0 s0 n.blocks m.blocks hn1 hm1 (Ni.holds_below H0.out.old HB.out) (Ni.holds_below K0.out.old HB.out)).mono ?_
                    rintro e w1 ⟨rfl, hb⟩
                    rw [HBL.out]
                    replace HX := Lib.hid (HX.out.all hb)
                    replace HY := Lib.hid (HY.out.all hb)
                    replace HB := Lib.hid (HB.out.trans (hb.mono HB.out.size))
                    clear hb
                    obtain ⟨x00, x01, x02, x03, x04, x05, x06, x07, x08, x09⟩ := Bk.c10 HX.out
                    obtain ⟨y00, y01, y02, y03, y04, y05, y06, y07, y08, y09⟩ := Bk.c10 HY.out
                    go_wp2_with fail
                    refine (InEq.same_ents _ r1 s1 n.acl m.acl hn2 hm2 (Ae.holds_below H1.out HB.out) (Ae.holds_below K1.out HB.out)).mono ?_
                    rintro e w2 ⟨rfl, hb⟩
                    rw [HA.out]
                    replace HX := Lib.hid (HX.out.all hb)
                    replace HY := Lib.hid (HY.out.all hb)
                    replace HB := Lib.hid (HB.out.trans (hb.mono HB.out.size))
                    clear hb
                    obtain ⟨x10, x11, x12, x13, x14, x15, x16, x17, x18, x19⟩ := Bk.c10 HX.out
                    obtain ⟨y10, y11, y12, y13, y14, y15, y16, y17, y18, y19⟩ := Bk.c10 HY.out
                    have HV := Lib.hid (show sameB n m = false by rw [HS.out, HBL.out, HA.out]; simp)
                    go_wp2
                    go_ret
                    exact ⟨ret_bool HV.out.symm, HB.out⟩
                · have HBL := Lib.hid (show decide (n.blocks = m.blocks) = false from decide_eq_false hbl)
                  have HV := Lib.hid (show sameB n m = false by rw [HS.out, HBL.out]; simp)
                  clear hbl
                  go_enter Tryd.func40, Tryd.ntmps40
                  go_wp2_with fail
                  refine (InEq.same_ints _ r0 s0 n.blocks m.blocks hn1 hm1 (Ni.holds_below H0.out.old HB.out) (Ni.holds_below K0.out.old HB.out)).mono ?_
                  rintro e w1 ⟨rfl, hb⟩
                  rw [HBL.out]
                  replace HX := Lib.hid (HX.out.all hb)
                  replace HY := Lib.hid (HY.out.all hb)
                  replace HB := Lib.hid (HB.out.trans (hb.mono HB.out.size))
                  clear hb
                  obtain ⟨x00, x01, x02, x03, x04, x05, x06, x07, x08, x09⟩ := Bk.c10 HX.out
                  obtain ⟨y00, y01, y02, y03, y04, y05, y06, y07, y08, y09⟩ := Bk.c10 HY.out
                  go_wp2
                  go_ret
                  exact ⟨ret_bool HV.out.symm, HB.out⟩
              · have HV := Lib.hid (show sameB n m = false from no_of (fun e => h6 (by rw [e])))
                have ha6 : (n.tick == m.tick) = false := by simpa using h6
                have hb6 : (n.tick != m.tick) = true := by simpa using h6
                clear h0 h1 h2 h3 h4 h5 h6
                go_enter Tryd.func40, Tryd.ntmps40
                go_wp2
                go_ret
                exact ⟨ret_bool HV.out.symm, HB.out⟩
            · have HV := Lib.hid (show sameB n m = false from no_of (fun e => h5 (by rw [e])))
              have ha5 : (n.size == m.size) = false := by simpa using h5
              have hb5 : (n.size != m.size) = true := by simpa using h5
              clear h0 h1 h2 h3 h4 h5
              go_enter Tryd.func40, Tryd.ntmps40
              go_wp2
              go_ret
              exact ⟨ret_bool HV.out.symm, HB.out⟩
          · have HV := Lib.hid (show sameB n m = false from no_of (fun e => h4 (by rw [e])))
            have ha4 : (n.links == m.links) = false := by simpa using h4
            have hb4 : (n.links != m.links) = true := by simpa using h4
            clear h0 h1 h2 h3 h4
            go_enter Tryd.func40, Tryd.ntmps40
            go_wp2
            go_ret
            exact ⟨ret_bool HV.out.symm, HB.out⟩
        · have HV := Lib.hid (show sameB n m = false from no_of (fun e => h3 (by rw [e])))
          have ha3 : (n.gid == m.gid) = false := by simpa using h3
          have hb3 : (n.gid != m.gid) = true := by simpa using h3
          clear h0 h1 h2 h3
          go_enter Tryd.func40, Tryd.ntmps40
          go_wp2
          go_ret
          exact ⟨ret_bool HV.out.symm, HB.out⟩
      · have HV := Lib.hid (show sameB n m = false from no_of (fun e => h2 (by rw [e])))
        have ha2 : (n.uid == m.uid) = false := by simpa using h2
        have hb2 : (n.uid != m.uid) = true := by simpa using h2
        clear h0 h1 h2
        go_enter Tryd.func40, Tryd.ntmps40
        go_wp2
        go_ret
        exact ⟨ret_bool HV.out.symm, HB.out⟩
    · have HV := Lib.hid (show sameB n m = false from no_of (fun e => h1 (by rw [e])))
      have ha1 : (n.mode == m.mode) = false := by simpa using h1
      have hb1 : (n.mode != m.mode) = true := by simpa using h1
      clear h0 h1
      go_enter Tryd.func40, Tryd.ntmps40
      go_wp2
      go_ret
      exact ⟨ret_bool HV.out.symm, HB.out⟩
  · have HV := Lib.hid (show sameB n m = false from no_of (fun e => h0 (by rw [e])))
    have ha0 : (n.kind == m.kind) = false := by simpa using h0
    have hb0 : (n.kind != m.kind) = true := by simpa using h0
    clear h0
    go_enter Tryd.func40, Tryd.ntmps40
    go_wp2
    go_ret
    exact ⟨ret_bool HV.out.symm, HB.out⟩
end Go.Proofs.YthobdeidjagnhaaDoor.InSp

-- YthobdeidjagnhaaDoorInOs
/- Contract: the model's IsInode, for every inode. Conditions: as the theorem types them. -/
namespace Go.Proofs.YthobdeidjagnhaaDoor.InOs
open Go.ChangeShapes Go.WideShapes Go.ChangeAt Go.RowKit
open Foot Bx
open InoV (I sameB okI blkB blksB numsB restB fileB needV)
open AclV (okB)
open ModeV (modeB stickyB mode_iff)
open CredV (userB user_iff)
open Dk (ret_bool)
open InOk (zero_holds file_dflt file_bit file_dir blk_hole blk_yes blk_no holds_take)
set_option linter.unusedVariables false

def inB (x lo hi : Int) : Bool := decide (lo ≤ x) && decide (x ≤ hi)
theorem in_spec (x lo hi : Int) (w : World) : Calls Tryd.prog 43 #[.int .i64 x, .int .i64 lo, .int .i64 hi] w fun e w' => e = .returned (.bool (inB x lo hi)) ∧ w = w' := AclS.in_any x lo hi w
theorem in_true {x lo hi : Int} (h : inB x lo hi = true) : lo ≤ x ∧ x ≤ hi := by simpa [inB] using h
theorem in_false {x lo hi : Int} (h : inB x lo hi = false) : ¬ (lo ≤ x ∧ x ≤ hi) := by
  rintro ⟨h1, h2⟩
  rw [inB, decide_eq_true h1, decide_eq_true h2] at h
  cases h
theorem ok_no {n : I} (h0 : n.kind ≠ 0) (h : numsB n = false) : okI n = false := by rw [okI, if_neg h0, h]; rfl
theorem nums_is (n : I) : numsB n = ((decide (n.kind = 1) || decide (n.kind = 2)) && modeB n.mode && userB n.uid && userB n.gid && inB n.links 0 1000 && inB n.size 0 256 && inB n.tick 0 1000000000 && decide ((n.blocks.length : Int) = needV n.size)) := rfl
theorem rest_is {n : I} (h0 : n.kind ≠ 0) (h : numsB n = true) : okI n = (blksB n.blocks n.blocks.length && !fileB n && (okB n.acl && okB n.dflt)) := by rw [okI, if_neg h0, h]; rfl

set_option maxRecDepth 100000 in
set_option maxHeartbeats 12800000 in
theorem is_zero (w : World) (v : Value) (n : I) (hc : In.cost n ≤ 1073741824) (h : In.Holds w v n) (h0 : n.kind = 0) :
    Calls Tryd.prog 15 #[v] w fun e w' => e = .returned (.bool (okI n)) ∧ Below w.heap.size w w' := by
  have HH := Lib.hid h
  obtain ⟨r0, r1, r2, rfl, g0, g1, g2⟩ := h
  obtain ⟨da, dc, rfl⟩ := AeF.form g2
  obtain ⟨a, c, rfl⟩ := NiF.form g0
  have H1 := Lib.hid g1
  have H2 := Lib.hid g2
  have hlc : n.blocks.length ≤ c := by
    obtain ⟨a', c', e, hle, _⟩ := g0
    rw [Value.slice.injEq] at e
    omega
  have HC := Lib.hid (show ∀ i, i < n.blocks.length → ∃ b o, a = some ⟨b, o, none⟩ ∧ b < w.heap.size ∧ w.cell? ⟨b, o + i, none⟩ = some (.int .i64 (n.blocks.getD i 0)) from by
    obtain ⟨a', c', e, hle, hc⟩ := g0
    rw [Value.slice.injEq] at e
    obtain ⟨rfl, _, rfl⟩ := e
    exact hc)
  have HTK := Lib.hid (fun (W : World) (k : Nat) (hb : Below w.heap.size w W) (hk : k ≤ n.blocks.length) => holds_take (NiF.holds_below g0 hb) hk)
  clear g0 g1 g2
  have hn1 : n.blocks.length ≤ 1073741824 := Nat.le_trans (In.le_blocks n) hc
  have hn2 : n.acl.length ≤ 1073741824 := Nat.le_trans (In.le_acl n) hc
  have hn3 : n.dflt.length ≤ 1073741824 := Nat.le_trans (In.le_dflt n) hc
  have HY1 := Lib.hid (fun k => blk_hole (l := n.blocks) (k := k))
  have HY2 := Lib.hid (fun k => blk_yes (l := n.blocks) (k := k))
  have HNO := Lib.hid (fun k => blk_no (l := n.blocks) (k := k))
  have HNUMS := Lib.hid (nums_is n)
  obtain ⟨L, hL⟩ : ∃ L, L = n.blocks.length := ⟨_, rfl⟩
  rw [← hL] at hn1 hlc HH HNUMS ⊢
  have HL := Lib.hid hL
  clear hL
  obtain ⟨M, hM⟩ : ∃ M, M = n.dflt.length := ⟨_, rfl⟩
  rw [← hM] at HH H2 ⊢
  have HML := Lib.hid hM
  clear hM
  have HB := Lib.hid ((Below.refl w.heap.size w).alloc (Nat.le_refl _) (.cells #[.int .i64 n.kind, .int .i64 n.mode, .int .i64 n.uid, .int .i64 n.gid, .int .i64 n.links, .int .i64 n.size, .int .i64 n.tick, .slice a L c, r1, .slice da M dc] 26))
  have HX := Lib.hid (new w #[.int .i64 n.kind, .int .i64 n.mode, .int .i64 n.uid, .int .i64 n.gid, .int .i64 n.links, .int .i64 n.size, .int .i64 n.tick, .slice a L c, r1, .slice da M dc] 26)
  have HW := Lib.hid (show okI n = sameB n InoV.zero from if_pos h0)
  have h0a : (n.kind == 0) = true := by simpa using h0
  clear h0
  go_enter Tryd.func15, Tryd.ntmps15
  go_wp2_with fail
  refine (InSp.same_spec _ _ _ n InoV.zero hc (by decide) (In.holds_below HH.out HB.out) (zero_holds _)).mono ?_
  rintro e w1 ⟨rfl, hb⟩
  replace HB := Lib.hid (HB.out.trans (hb.mono HB.out.size))
  clear hb
  generalize sameB n InoV.zero = D at HW ⊢
  go_wp2
  go_ret
  exact ⟨ret_bool HW.out.symm, HB.out⟩
set_option maxRecDepth 100000 in
set_option maxHeartbeats 12800000 in
theorem is_any (w : World) (v : Value) (n : I) (hc : In.cost n ≤ 1073741824) (h : In.Holds w v n)  :
    Calls Tryd.prog 15 #[v] w fun e w' => e = .returned (.bool (okI n)) ∧ Below w.heap.size w w' := by
  have HH := Lib.hid h
  obtain ⟨r0, r1, r2, rfl, g0, g1, g2⟩ := h
  obtain ⟨da, dc, rfl⟩ := AeF.form g2
  obtain ⟨a, c, rfl⟩ := NiF.form g0
  have H1 := Lib.hid g1
  have H2 := Lib.hid g2
  have hlc : n.blocks.length ≤ c := by
    obtain ⟨a', c', e, hle, _⟩ := g0
    rw [Value.slice.injEq] at e
    omega
  have HC := Lib.hid (show ∀ i, i < n.blocks.length → ∃ b o, a = some ⟨b, o, none⟩ ∧ b < w.heap.size ∧ w.cell? ⟨b, o + i, none⟩ = some (.int .i64 (n.blocks.getD i 0)) from by
    obtain ⟨a', c', e, hle, hc⟩ := g0
    rw [Value.slice.injEq] at e
    obtain ⟨rfl, _, rfl⟩ := e
    exact hc)
  have HTK := Lib.hid (fun (W : World) (k : Nat) (hb : Below w.heap.size w W) (hk : k ≤ n.blocks.length) => holds_take (NiF.holds_below g0 hb) hk)
  clear g0 g1 g2
  have hn1 : n.blocks.length ≤ 1073741824 := Nat.le_trans (In.le_blocks n) hc
  have hn2 : n.acl.length ≤ 1073741824 := Nat.le_trans (In.le_acl n) hc
  have hn3 : n.dflt.length ≤ 1073741824 := Nat.le_trans (In.le_dflt n) hc
  have HY1 := Lib.hid (fun k => blk_hole (l := n.blocks) (k := k))
  have HY2 := Lib.hid (fun k => blk_yes (l := n.blocks) (k := k))
  have HNO := Lib.hid (fun k => blk_no (l := n.blocks) (k := k))
  have HNUMS := Lib.hid (nums_is n)
  obtain ⟨L, hL⟩ : ∃ L, L = n.blocks.length := ⟨_, rfl⟩
  rw [← hL] at hn1 hlc HH HNUMS ⊢
  have HL := Lib.hid hL
  clear hL
  obtain ⟨M, hM⟩ : ∃ M, M = n.dflt.length := ⟨_, rfl⟩
  rw [← hM] at HH H2 ⊢
  have HML := Lib.hid hM
  clear hM
  have HB := Lib.hid ((Below.refl w.heap.size w).alloc (Nat.le_refl _) (.cells #[.int .i64 n.kind, .int .i64 n.mode, .int .i64 n.uid, .int .i64 n.gid, .int .i64 n.links, .int .i64 n.size, .int .i64 n.tick, .slice a L c, r1, .slice da M dc] 26))
  have HX := Lib.hid (new w #[.int .i64 n.kind, .int .i64 n.mode, .int .i64 n.uid, .int .i64 n.gid, .int .i64 n.links, .int .i64 n.size, .int .i64 n.tick, .slice a L c, r1, .slice da M dc] 26)
  by_cases h0 : n.kind = 0
  · exact is_zero w _ n hc HH.out h0
  have h0a : (n.kind == 0) = false := by simpa using h0
  go_enter Tryd.func15, Tryd.ntmps15
  go_wp2
  have hs8 := HX.out.lt
  have u0 := Fam.cell (W := w.alloc (.cells #[.int .i64 n.kind, .int .i64 n.mode, .int .i64 n.uid, .int .i64 n.gid, .int .i64 n.links, .int .i64 n.size, .int .i64 n.tick, .slice a L c, r1, .slice da M dc] 26)) (p := ⟨w.heap.size, 0, none⟩) hs8 (show _ = some (.int .i64 n.kind) from HX.out.cell 0)
  have u1 := Fam.cell (W := w.alloc (.cells #[.int .i64 n.kind, .int .i64 n.mode, .int .i64 n.uid, .int .i64 n.gid, .int .i64 n.links, .int .i64 n.size, .int .i64 n.tick, .slice a L c, r1, .slice da M dc] 26)) (p := ⟨w.heap.size, 1, none⟩) hs8 (show _ = some (.int .i64 n.mode) from HX.out.cell 1)
  have u2 := Fam.cell (W := w.alloc (.cells #[.int .i64 n.kind, .int .i64 n.mode, .int .i64 n.uid, .int .i64 n.gid, .int .i64 n.links, .int .i64 n.size, .int .i64 n.tick, .slice a L c, r1, .slice da M dc] 26)) (p := ⟨w.heap.size, 2, none⟩) hs8 (show _ = some (.int .i64 n.uid) from HX.out.cell 2)
  have u3 := Fam.cell (W := w.alloc (.cells #[.int .i64 n.kind, .int .i64 n.mode, .int .i64 n.uid, .int .i64 n.gid, .int .i64 n.links, .int .i64 n.size, .int .i64 n.tick, .slice a L c, r1, .slice da M dc] 26)) (p := ⟨w.heap.size, 3, none⟩) hs8 (show _ = some (.int .i64 n.gid) from HX.out.cell 3)
  have u4 := Fam.cell (W := w.alloc (.cells #[.int .i64 n.kind, .int .i64 n.mode, .int .i64 n.uid, .int .i64 n.gid, .int .i64 n.links, .int .i64 n.size, .int .i64 n.tick, .slice a L c, r1, .slice da M dc] 26)) (p := ⟨w.heap.size, 4, none⟩) hs8 (show _ = some (.int .i64 n.links) from HX.out.cell 4)
  have u5 := Fam.cell (W := w.alloc (.cells #[.int .i64 n.kind, .int .i64 n.mode, .int .i64 n.uid, .int .i64 n.gid, .int .i64 n.links, .int .i64 n.size, .int .i64 n.tick, .slice a L c, r1, .slice da M dc] 26)) (p := ⟨w.heap.size, 5, none⟩) hs8 (show _ = some (.int .i64 n.size) from HX.out.cell 5)
  have u6 := Fam.cell (W := w.alloc (.cells #[.int .i64 n.kind, .int .i64 n.mode, .int .i64 n.uid, .int .i64 n.gid, .int .i64 n.links, .int .i64 n.size, .int .i64 n.tick, .slice a L c, r1, .slice da M dc] 26)) (p := ⟨w.heap.size, 6, none⟩) hs8 (show _ = some (.int .i64 n.tick) from HX.out.cell 6)
  have u7 := Fam.cell (W := w.alloc (.cells #[.int .i64 n.kind, .int .i64 n.mode, .int .i64 n.uid, .int .i64 n.gid, .int .i64 n.links, .int .i64 n.size, .int .i64 n.tick, .slice a L c, r1, .slice da M dc] 26)) (p := ⟨w.heap.size, 7, none⟩) hs8 (show _ = some (.slice a L c) from HX.out.cell 7)
  refine Fam.region (by kernel_rfl) (by kernel_rfl) ?_
  by_cases hk1 : n.kind = 1
  · have k1a : (n.kind == 1) = true := by simp [hk1]
    have k1b : (n.kind != 1) = false := by simp [hk1]
    have k2a : (n.kind == 2) = false := by simp [hk1]
    have k2b : (n.kind != 2) = true := by simp [hk1]
    cases hxM : modeB n.mode
    · have HW := Lib.hid (ok_no h0 (by rw [HNUMS.out, hxM]; simp))
      have HM := Lib.hid (fun W => show Calls Tryd.prog 41 #[.int .i64 n.mode] W fun e w' => e = .returned (.bool false) ∧ W = w' from by have := Pm.mode_spec n.mode W; rw [hxM] at this; exact this)
      clear h0 hk1 hxM
      repeat (go_big_quiet_step (first | (go_at_call 41; with_reducible refine Fam.calls_same (HM.out _))))
      refine wpQuiet_nil ?_
      intro _ hw'
      obtain ⟨nq, hw''⟩ := hw'
      subst hw''
      have hbq := Fam.wld_below _ nq
      generalize Fam.wld _ nq = w9 at hbq ⊢
      replace HX := Lib.hid (HX.out.all hbq)
      replace HB := Lib.hid (HB.out.trans (hbq.mono HB.out.size))
      clear hbq u0 u1 u2 u3 u4 u5 u6 u7 hs8
      go_wp2
      go_ret
      exact ⟨ret_bool HW.out.symm, HB.out⟩
    · have HM := Lib.hid (fun W => show Calls Tryd.prog 41 #[.int .i64 n.mode] W fun e w' => e = .returned (.bool true) ∧ W = w' from by have := Pm.mode_spec n.mode W; rw [hxM] at this; exact this)
      cases hxU : userB n.uid
      · have HW := Lib.hid (ok_no h0 (by rw [HNUMS.out, hxU]; simp))
        have HU := Lib.hid (fun W => show Calls Tryd.prog 42 #[.int .i64 n.uid] W fun e w' => e = .returned (.bool false) ∧ W = w' from by have := Pm.user_spec n.uid W; rw [hxU] at this; exact this)
        clear h0 hk1 hxM hxU
        repeat (go_big_quiet_step (first | (go_at_call 41; with_reducible refine Fam.calls_same (HM.out _)) | (go_at_call 42; with_reducible refine Fam.calls_same (HU.out _))))
        refine wpQuiet_nil ?_
        intro _ hw'
        obtain ⟨nq, hw''⟩ := hw'
        subst hw''
        have hbq := Fam.wld_below _ nq
        generalize Fam.wld _ nq = w9 at hbq ⊢
        replace HX := Lib.hid (HX.out.all hbq)
        replace HB := Lib.hid (HB.out.trans (hbq.mono HB.out.size))
        clear hbq u0 u1 u2 u3 u4 u5 u6 u7 hs8
        go_wp2
        go_ret
        exact ⟨ret_bool HW.out.symm, HB.out⟩
      · have HU := Lib.hid (fun W => show Calls Tryd.prog 42 #[.int .i64 n.uid] W fun e w' => e = .returned (.bool true) ∧ W = w' from by have := Pm.user_spec n.uid W; rw [hxU] at this; exact this)
        cases hxG : userB n.gid
        · have HW := Lib.hid (ok_no h0 (by rw [HNUMS.out, hxG]; simp))
          have HG := Lib.hid (fun W => show Calls Tryd.prog 42 #[.int .i64 n.gid] W fun e w' => e = .returned (.bool false) ∧ W = w' from by have := Pm.user_spec n.gid W; rw [hxG] at this; exact this)
          clear h0 hk1 hxM hxU hxG
          repeat (go_big_quiet_step (first | (go_at_call 41; with_reducible refine Fam.calls_same (HM.out _)) | (go_at_call 42; with_reducible refine Fam.calls_same (HU.out _)) | (go_at_call 42; with_reducible refine Fam.calls_same (HG.out _))))
          refine wpQuiet_nil ?_
          intro _ hw'
          obtain ⟨nq, hw''⟩ := hw'
          subst hw''
          have hbq := Fam.wld_below _ nq
          generalize Fam.wld _ nq = w9 at hbq ⊢
          replace HX := Lib.hid (HX.out.all hbq)
          replace HB := Lib.hid (HB.out.trans (hbq.mono HB.out.size))
          clear hbq u0 u1 u2 u3 u4 u5 u6 u7 hs8
          go_wp2
          go_ret
          exact ⟨ret_bool HW.out.symm, HB.out⟩
        · have HG := Lib.hid (fun W => show Calls Tryd.prog 42 #[.int .i64 n.gid] W fun e w' => e = .returned (.bool true) ∧ W = w' from by have := Pm.user_spec n.gid W; rw [hxG] at this; exact this)
          cases hxK : inB n.links 0 1000
          · have HW := Lib.hid (ok_no h0 (by rw [HNUMS.out, hxK]; simp))
            have HK := Lib.hid (fun W => show Calls Tryd.prog 43 #[.int .i64 n.links, .int .i64 0, .int .i64 1000] W fun e w' => e = .returned (.bool false) ∧ W = w' from by have := in_spec n.links 0 1000 W; rw [hxK] at this; exact this)
            clear h0 hk1 hxM hxU hxG hxK
            repeat (go_big_quiet_step (first | (go_at_call 41; with_reducible refine Fam.calls_same (HM.out _)) | (go_at_call 42; with_reducible refine Fam.calls_same (HU.out _)) | (go_at_call 42; with_reducible refine Fam.calls_same (HG.out _)) | (go_at_call 43; with_reducible refine Fam.calls_same (HK.out _))))
            refine wpQuiet_nil ?_
            intro _ hw'
            obtain ⟨nq, hw''⟩ := hw'
            subst hw''
            have hbq := Fam.wld_below _ nq
            generalize Fam.wld _ nq = w9 at hbq ⊢
            replace HX := Lib.hid (HX.out.all hbq)
            replace HB := Lib.hid (HB.out.trans (hbq.mono HB.out.size))
            clear hbq u0 u1 u2 u3 u4 u5 u6 u7 hs8
            go_wp2
            go_ret
            exact ⟨ret_bool HW.out.symm, HB.out⟩
          · have HK := Lib.hid (fun W => show Calls Tryd.prog 43 #[.int .i64 n.links, .int .i64 0, .int .i64 1000] W fun e w' => e = .returned (.bool true) ∧ W = w' from by have := in_spec n.links 0 1000 W; rw [hxK] at this; exact this)
            cases hxS : inB n.size 0 256
            · have HW := Lib.hid (ok_no h0 (by rw [HNUMS.out, hxS]; simp))
              have HS := Lib.hid (fun W => show Calls Tryd.prog 43 #[.int .i64 n.size, .int .i64 0, .int .i64 256] W fun e w' => e = .returned (.bool false) ∧ W = w' from by have := in_spec n.size 0 256 W; rw [hxS] at this; exact this)
              clear h0 hk1 hxM hxU hxG hxK hxS
              repeat (go_big_quiet_step (first | (go_at_call 41; with_reducible refine Fam.calls_same (HM.out _)) | (go_at_call 42; with_reducible refine Fam.calls_same (HU.out _)) | (go_at_call 42; with_reducible refine Fam.calls_same (HG.out _)) | (go_at_call 43; with_reducible refine Fam.calls_same (HK.out _)) | (go_at_call 43; with_reducible refine Fam.calls_same (HS.out _))))
              refine wpQuiet_nil ?_
              intro _ hw'
              obtain ⟨nq, hw''⟩ := hw'
              subst hw''
              have hbq := Fam.wld_below _ nq
              generalize Fam.wld _ nq = w9 at hbq ⊢
              replace HX := Lib.hid (HX.out.all hbq)
              replace HB := Lib.hid (HB.out.trans (hbq.mono HB.out.size))
              clear hbq u0 u1 u2 u3 u4 u5 u6 u7 hs8
              go_wp2
              go_ret
              exact ⟨ret_bool HW.out.symm, HB.out⟩
            · have HS := Lib.hid (fun W => show Calls Tryd.prog 43 #[.int .i64 n.size, .int .i64 0, .int .i64 256] W fun e w' => e = .returned (.bool true) ∧ W = w' from by have := in_spec n.size 0 256 W; rw [hxS] at this; exact this)
              cases hxT : inB n.tick 0 1000000000
              · have HW := Lib.hid (ok_no h0 (by rw [HNUMS.out, hxT]; simp))
                have HT := Lib.hid (fun W => show Calls Tryd.prog 43 #[.int .i64 n.tick, .int .i64 0, .int .i64 1000000000] W fun e w' => e = .returned (.bool false) ∧ W = w' from by have := in_spec n.tick 0 1000000000 W; rw [hxT] at this; exact this)
                clear h0 hk1 hxM hxU hxG hxK hxS hxT
                repeat (go_big_quiet_step (first | (go_at_call 41; with_reducible refine Fam.calls_same (HM.out _)) | (go_at_call 42; with_reducible refine Fam.calls_same (HU.out _)) | (go_at_call 42; with_reducible refine Fam.calls_same (HG.out _)) | (go_at_call 43; with_reducible refine Fam.calls_same (HK.out _)) | (go_at_call 43; with_reducible refine Fam.calls_same (HS.out _)) | (go_at_call 43; with_reducible refine Fam.calls_same (HT.out _))))
                refine wpQuiet_nil ?_
                intro _ hw'
                obtain ⟨nq, hw''⟩ := hw'
                subst hw''
                have hbq := Fam.wld_below _ nq
                generalize Fam.wld _ nq = w9 at hbq ⊢
                replace HX := Lib.hid (HX.out.all hbq)
                replace HB := Lib.hid (HB.out.trans (hbq.mono HB.out.size))
                clear hbq u0 u1 u2 u3 u4 u5 u6 u7 hs8
                go_wp2
                go_ret
                exact ⟨ret_bool HW.out.symm, HB.out⟩
              · have HT := Lib.hid (fun W => show Calls Tryd.prog 43 #[.int .i64 n.tick, .int .i64 0, .int .i64 1000000000] W fun e w' => e = .returned (.bool true) ∧ W = w' from by have := in_spec n.tick 0 1000000000 W; rw [hxT] at this; exact this)
                have hrs := in_true hxS
                have HND0 := Lib.hid (fun W => InEq.need_spec n.size W (by unfold Rg; omega))
                by_cases hnd : (L : Int) = needV n.size
                · have HND := Lib.hid (fun W => show Calls Tryd.prog 44 #[.int .i64 n.size] W fun e w' => e = .returned (.int .i64 (L : Int)) ∧ W = w' from by have := HND0.out W; rw [← hnd] at this; exact this)
                  have hnums : numsB n = true := by rw [HNUMS.out, hxM, hxU, hxG, hxK, hxS, hxT, decide_eq_true hnd, hk1]; rfl
                  have HW := Lib.hid (rest_is h0 hnums)
                  have hmode := (mode_iff _).1 hxM
                  have e9 : (bits .and .i64 n.mode 512 != 0) = stickyB n.mode := Md.bit_in hmode.1 hmode.2 9 (by omega) 512 rfl
                  have HF1 := Lib.hid (fun h => file_dflt (n := n) h)
                  have HF2 := Lib.hid (fun h => file_bit (n := n) h)
                  have HF3 := Lib.hid (fun h => file_dir (n := n) h)
                  have HKD := Lib.hid hk1
                  clear hnd hnums h0 hk1 hxM hxU hxG hxK hxS hxT HND0 hrs hmode
                  repeat (go_big_quiet_step (first | (go_at_call 41; with_reducible refine Fam.calls_same (HM.out _)) | (go_at_call 42; with_reducible refine Fam.calls_same (HU.out _)) | (go_at_call 42; with_reducible refine Fam.calls_same (HG.out _)) | (go_at_call 43; with_reducible refine Fam.calls_same (HK.out _)) | (go_at_call 43; with_reducible refine Fam.calls_same (HS.out _)) | (go_at_call 43; with_reducible refine Fam.calls_same (HT.out _)) | (go_at_call 44; with_reducible refine Fam.calls_same (HND.out _))))
                  refine wpQuiet_nil ?_
                  intro _ hw'
                  obtain ⟨nq, hw''⟩ := hw'
                  subst hw''
                  have hbq := Fam.wld_below _ nq
                  generalize Fam.wld _ nq = w9 at hbq ⊢
                  replace HX := Lib.hid (HX.out.all hbq)
                  replace HB := Lib.hid (HB.out.trans (hbq.mono HB.out.size))
                  clear hbq u0 u1 u2 u3 u4 u5 u6 u7 hs8
                  obtain ⟨x0, x1, x2, x3, x4, x5, x6, x7, x8, x9⟩ := Bk.c10 HX.out
                  go_wp2
                  go_loopw [67] (fun iv wr => ∃ k : Nat, k ≤ L ∧ iv = .int .i64 k ∧ Bk wr w.heap.size #[.int .i64 n.kind, .int .i64 n.mode, .int .i64 n.uid, .int .i64 n.gid, .int .i64 n.links, .int .i64 n.size, .int .i64 n.tick, .slice a L c, r1, .slice da M dc] 26 ∧ Below w.heap.size w wr ∧ blksB n.blocks k = true) (fun iv _ => L - (intOf iv).toNat)
                  case atStart => exact ⟨0, Nat.zero_le _, rfl, HX.out, HB.out, rfl⟩
                  case round =>
                    obtain ⟨k, hk, rfl, hx, hbel, hr⟩ := hrel
                    replace HB := Lib.hid hbel
                    replace HX := Lib.hid hx
                    have HR := Lib.hid hr
                    clear hx hbel hr x0 x1 x2 x3 x4 x5 x6 x7 x8 x9
                    obtain ⟨x0, x1, x2, x3, x4, x5, x6, x7, x8, x9⟩ := Bk.c10 HX.out
                    by_cases hlt : k < L
                    · obtain ⟨b, off, rfl, hb, g0⟩ := HC.out k (by rw [← HL.out]; exact hlt)
                      rw [← HB.out.cell (p := ⟨b, _, none⟩) hb] at g0
                      have hkc : ¬ c = 0 := by omega
                      have hck := CrI.has_spec wr (.slice (some ⟨b, off, none⟩) k c) (n.blocks.take k) (n.blocks.getD k 0) (by rw [List.length_take]; omega) (HTK.out wr k HB.out (by rw [← HL.out]; omega))
                      have hin := in_spec (n.blocks.getD k 0) (-1) 999 wr
                      have HN1 := Lib.hid (HY1.out k HR.out)
                      have HN2 := Lib.hid (HY2.out k HR.out)
                      have HN3 := Lib.hid (HNO.out k (by rw [← HL.out]; exact hlt))
                      generalize n.blocks.getD k 0 = x at g0 hck hin HN1 HN2 HN3
                      cases hi : inB x (-1) 999
                      · have hi2 := in_false hi
                        rw [hi] at hin
                        have HIN := Lib.hid hin
                        have HN := Lib.hid (HN3.out ⟨by omega, by omega⟩)
                        clear hck hin hi hi2
                        go_wp2_with fail
                        refine HIN.out.mono ?_
                        rintro e wq ⟨rfl, rfl⟩
                        go_wp2
                        go_ret
                        exact ⟨ret_bool (by rw [HW.out, HN.out]; rfl), HB.out⟩
                      · have hi2 := in_true hi
                        rw [hi] at hin
                        have HIN := Lib.hid hin
                        clear hin hi
                        by_cases hm : x = -1
                        · have HN := Lib.hid (HN1.out hm)
                          subst hm
                          clear hck hi2
                          go_wp2_with fail
                          refine HIN.out.mono ?_
                          rintro e wq ⟨rfl, rfl⟩
                          go_wp2
                          go_roundw
                          case rel => exact ⟨k + 1, by omega, by go_num, HX.out, HB.out, HN.out⟩
                          case measure => simp [intOf]; omega
                        · have hm2 : (x == -1) = false := by simpa using hm
                          have hm3 : (x != -1) = true := by simpa using hm
                          cases hy : CrI.hasB (n.blocks.take k) x
                          · rw [hy] at hck
                            have HN := Lib.hid (HN2.out (by omega) hi2.2 hy)
                            have HCK := Lib.hid hck
                            clear hck hy hm hi2
                            go_wp2_with fail
                            refine HIN.out.mono ?_
                            rintro e wq ⟨rfl, rfl⟩
                            go_wp2_with fail
                            refine HCK.out.mono ?_
                            rintro e wq ⟨rfl, rfl⟩
                            go_wp2
                            go_roundw
                            case rel => exact ⟨k + 1, by omega, by go_num, HX.out, HB.out, HN.out⟩
                            case measure => simp [intOf]; omega
                          · rw [hy] at hck
                            have HN := Lib.hid (HN3.out ⟨hm, .inr (.inr hy)⟩)
                            have HCK := Lib.hid hck
                            clear hck hy hm hi2
                            go_wp2_with fail
                            refine HIN.out.mono ?_
                            rintro e wq ⟨rfl, rfl⟩
                            go_wp2_with fail
                            refine HCK.out.mono ?_
                            rintro e wq ⟨rfl, rfl⟩
                            go_wp2
                            go_ret
                            exact ⟨ret_bool (by rw [HW.out, HN.out]; rfl), HB.out⟩
                    · obtain rfl : k = L := by omega
                      have HN := Lib.hid (show blksB n.blocks n.blocks.length = true by rw [← HL.out]; exact HR.out)
                      by_cases hd : M = 0
                      · subst hd
                        have hd : (0 : Nat) = 0 := rfl
                        have HFB := Lib.hid (HF2.out HKD.out HML.out.symm)
                        clear hd
                        cases hst : stickyB n.mode
                        · rw [hst] at e9
                          have e8 : (bits .and .i64 n.mode 512 == 0) = true := by simpa [bne] using e9
                          have HFB2 := Lib.hid (show fileB n = false by rw [HFB.out, hst])
                          clear hst
                          by_cases hac : okB n.acl = true
                          · have HA := Lib.hid hac
                            have HW2 := Lib.hid (show okI n = okB n.dflt by rw [HW.out, HN.out, HA.out, HFB2.out]; rfl)
                            clear hac
                            go_wp2_with fail
                            refine (AclI.spec_any _ r1 n.acl hn2 (Ae.holds_below H1.out HB.out)).mono ?_
                            rintro e w1 ⟨rfl, hb⟩
                            rw [HA.out]
                            replace HX := Lib.hid (HX.out.all hb)
                            replace HB := Lib.hid (HB.out.trans (hb.mono HB.out.size))
                            clear hb x0 x1 x2 x3 x4 x5 x6 x7 x8 x9
                            obtain ⟨x0, x1, x2, x3, x4, x5, x6, x7, x8, x9⟩ := Bk.c10 HX.out
                            go_wp2_with fail
                            refine (AclI.spec_any _ _ n.dflt hn3 (Ae.holds_below H2.out HB.out)).mono ?_
                            rintro e w2 ⟨rfl, hb⟩
                            replace HB := Lib.hid (HB.out.trans (hb.mono HB.out.size))
                            clear hb
                            generalize okB n.dflt = D at HW2 ⊢
                            go_wp2
                            go_ret
                            exact ⟨ret_bool HW2.out.symm, HB.out⟩
                          · have hac' : okB n.acl = false := by simpa using hac
                            have HA := Lib.hid hac'
                            have HW2 := Lib.hid (show okI n = false by rw [HW.out, HN.out, HA.out]; simp)
                            clear hac hac'
                            go_wp2_with fail
                            refine (AclI.spec_any _ r1 n.acl hn2 (Ae.holds_below H1.out HB.out)).mono ?_
                            rintro e w1 ⟨rfl, hb⟩
                            rw [HA.out]
                            replace HB := Lib.hid (HB.out.trans (hb.mono HB.out.size))
                            clear hb
                            go_wp2
                            go_ret
                            exact ⟨ret_bool HW2.out.symm, HB.out⟩
                        · rw [hst] at e9
                          have e8 : (bits .and .i64 n.mode 512 == 0) = false := by simpa [bne] using e9
                          have HW2 := Lib.hid (show okI n = false by rw [HW.out, HN.out, HFB.out, hst]; rfl)
                          clear hst
                          go_wp2
                          go_ret
                          exact ⟨ret_bool HW2.out.symm, HB.out⟩
                      · have hd2 : decide ((0 : Int) < (M : Int)) = true := decide_eq_true (by omega)
                        have hd3 : (0 : Int) < (M : Int) := by omega
                        have HFB := Lib.hid (HF1.out HKD.out (by rw [← HML.out]; exact hd))
                        have HW2 := Lib.hid (show okI n = false by rw [HW.out, HN.out, HFB.out]; rfl)
                        clear hd
                        go_wp2
                        go_ret
                        exact ⟨ret_bool HW2.out.symm, HB.out⟩
                · have HW := Lib.hid (ok_no h0 (by rw [HNUMS.out, decide_eq_false hnd]; simp))
                  have HND := Lib.hid HND0.out
                  generalize needV n.size = y at HND hnd
                  have hq1 : ((L : Int) == y) = false := by simpa using hnd
                  have hq2 : ((L : Int) != y) = true := by simpa using hnd
                  clear h0 hk1 hnd hxM hxU hxG hxK hxS hxT HND0 hrs
                  repeat (go_big_quiet_step (first | (go_at_call 41; with_reducible refine Fam.calls_same (HM.out _)) | (go_at_call 42; with_reducible refine Fam.calls_same (HU.out _)) | (go_at_call 42; with_reducible refine Fam.calls_same (HG.out _)) | (go_at_call 43; with_reducible refine Fam.calls_same (HK.out _)) | (go_at_call 43; with_reducible refine Fam.calls_same (HS.out _)) | (go_at_call 43; with_reducible refine Fam.calls_same (HT.out _)) | (go_at_call 44; with_reducible refine Fam.calls_same (HND.out _))))
                  refine wpQuiet_nil ?_
                  intro _ hw'
                  obtain ⟨nq, hw''⟩ := hw'
                  subst hw''
                  have hbq := Fam.wld_below _ nq
                  generalize Fam.wld _ nq = w9 at hbq ⊢
                  replace HX := Lib.hid (HX.out.all hbq)
                  replace HB := Lib.hid (HB.out.trans (hbq.mono HB.out.size))
                  clear hbq u0 u1 u2 u3 u4 u5 u6 u7 hs8
                  go_wp2
                  go_ret
                  exact ⟨ret_bool HW.out.symm, HB.out⟩
  by_cases hk2 : n.kind = 2
  · have k1a : (n.kind == 1) = false := by simp [hk2]
    have k1b : (n.kind != 1) = true := by simp [hk2]
    have k2a : (n.kind == 2) = true := by simp [hk2]
    have k2b : (n.kind != 2) = false := by simp [hk2]
    cases hxM : modeB n.mode
    · have HW := Lib.hid (ok_no h0 (by rw [HNUMS.out, hxM]; simp))
      have HM := Lib.hid (fun W => show Calls Tryd.prog 41 #[.int .i64 n.mode] W fun e w' => e = .returned (.bool false) ∧ W = w' from by have := Pm.mode_spec n.mode W; rw [hxM] at this; exact this)
      clear h0 hk2 hk1 hxM
      repeat (go_big_quiet_step (first | (go_at_call 41; with_reducible refine Fam.calls_same (HM.out _))))
      refine wpQuiet_nil ?_
      intro _ hw'
      obtain ⟨nq, hw''⟩ := hw'
      subst hw''
      have hbq := Fam.wld_below _ nq
      generalize Fam.wld _ nq = w9 at hbq ⊢
      replace HX := Lib.hid (HX.out.all hbq)
      replace HB := Lib.hid (HB.out.trans (hbq.mono HB.out.size))
      clear hbq u0 u1 u2 u3 u4 u5 u6 u7 hs8
      go_wp2
      go_ret
      exact ⟨ret_bool HW.out.symm, HB.out⟩
    · have HM := Lib.hid (fun W => show Calls Tryd.prog 41 #[.int .i64 n.mode] W fun e w' => e = .returned (.bool true) ∧ W = w' from by have := Pm.mode_spec n.mode W; rw [hxM] at this; exact this)
      cases hxU : userB n.uid
      · have HW := Lib.hid (ok_no h0 (by rw [HNUMS.out, hxU]; simp))
        have HU := Lib.hid (fun W => show Calls Tryd.prog 42 #[.int .i64 n.uid] W fun e w' => e = .returned (.bool false) ∧ W = w' from by have := Pm.user_spec n.uid W; rw [hxU] at this; exact this)
        clear h0 hk2 hk1 hxM hxU
        repeat (go_big_quiet_step (first | (go_at_call 41; with_reducible refine Fam.calls_same (HM.out _)) | (go_at_call 42; with_reducible refine Fam.calls_same (HU.out _))))
        refine wpQuiet_nil ?_
        intro _ hw'
        obtain ⟨nq, hw''⟩ := hw'
        subst hw''
        have hbq := Fam.wld_below _ nq
        generalize Fam.wld _ nq = w9 at hbq ⊢
        replace HX := Lib.hid (HX.out.all hbq)
        replace HB := Lib.hid (HB.out.trans (hbq.mono HB.out.size))
        clear hbq u0 u1 u2 u3 u4 u5 u6 u7 hs8
        go_wp2
        go_ret
        exact ⟨ret_bool HW.out.symm, HB.out⟩
      · have HU := Lib.hid (fun W => show Calls Tryd.prog 42 #[.int .i64 n.uid] W fun e w' => e = .returned (.bool true) ∧ W = w' from by have := Pm.user_spec n.uid W; rw [hxU] at this; exact this)
        cases hxG : userB n.gid
        · have HW := Lib.hid (ok_no h0 (by rw [HNUMS.out, hxG]; simp))
          have HG := Lib.hid (fun W => show Calls Tryd.prog 42 #[.int .i64 n.gid] W fun e w' => e = .returned (.bool false) ∧ W = w' from by have := Pm.user_spec n.gid W; rw [hxG] at this; exact this)
          clear h0 hk2 hk1 hxM hxU hxG
          repeat (go_big_quiet_step (first | (go_at_call 41; with_reducible refine Fam.calls_same (HM.out _)) | (go_at_call 42; with_reducible refine Fam.calls_same (HU.out _)) | (go_at_call 42; with_reducible refine Fam.calls_same (HG.out _))))
          refine wpQuiet_nil ?_
          intro _ hw'
          obtain ⟨nq, hw''⟩ := hw'
          subst hw''
          have hbq := Fam.wld_below _ nq
          generalize Fam.wld _ nq = w9 at hbq ⊢
          replace HX := Lib.hid (HX.out.all hbq)
          replace HB := Lib.hid (HB.out.trans (hbq.mono HB.out.size))
          clear hbq u0 u1 u2 u3 u4 u5 u6 u7 hs8
          go_wp2
          go_ret
          exact ⟨ret_bool HW.out.symm, HB.out⟩
        · have HG := Lib.hid (fun W => show Calls Tryd.prog 42 #[.int .i64 n.gid] W fun e w' => e = .returned (.bool true) ∧ W = w' from by have := Pm.user_spec n.gid W; rw [hxG] at this; exact this)
          cases hxK : inB n.links 0 1000
          · have HW := Lib.hid (ok_no h0 (by rw [HNUMS.out, hxK]; simp))
            have HK := Lib.hid (fun W => show Calls Tryd.prog 43 #[.int .i64 n.links, .int .i64 0, .int .i64 1000] W fun e w' => e = .returned (.bool false) ∧ W = w' from by have := in_spec n.links 0 1000 W; rw [hxK] at this; exact this)
            clear h0 hk2 hk1 hxM hxU hxG hxK
            repeat (go_big_quiet_step (first | (go_at_call 41; with_reducible refine Fam.calls_same (HM.out _)) | (go_at_call 42; with_reducible refine Fam.calls_same (HU.out _)) | (go_at_call 42; with_reducible refine Fam.calls_same (HG.out _)) | (go_at_call 43; with_reducible refine Fam.calls_same (HK.out _))))
            refine wpQuiet_nil ?_
            intro _ hw'
            obtain ⟨nq, hw''⟩ := hw'
            subst hw''
            have hbq := Fam.wld_below _ nq
            generalize Fam.wld _ nq = w9 at hbq ⊢
            replace HX := Lib.hid (HX.out.all hbq)
            replace HB := Lib.hid (HB.out.trans (hbq.mono HB.out.size))
            clear hbq u0 u1 u2 u3 u4 u5 u6 u7 hs8
            go_wp2
            go_ret
            exact ⟨ret_bool HW.out.symm, HB.out⟩
          · have HK := Lib.hid (fun W => show Calls Tryd.prog 43 #[.int .i64 n.links, .int .i64 0, .int .i64 1000] W fun e w' => e = .returned (.bool true) ∧ W = w' from by have := in_spec n.links 0 1000 W; rw [hxK] at this; exact this)
            cases hxS : inB n.size 0 256
            · have HW := Lib.hid (ok_no h0 (by rw [HNUMS.out, hxS]; simp))
              have HS := Lib.hid (fun W => show Calls Tryd.prog 43 #[.int .i64 n.size, .int .i64 0, .int .i64 256] W fun e w' => e = .returned (.bool false) ∧ W = w' from by have := in_spec n.size 0 256 W; rw [hxS] at this; exact this)
              clear h0 hk2 hk1 hxM hxU hxG hxK hxS
              repeat (go_big_quiet_step (first | (go_at_call 41; with_reducible refine Fam.calls_same (HM.out _)) | (go_at_call 42; with_reducible refine Fam.calls_same (HU.out _)) | (go_at_call 42; with_reducible refine Fam.calls_same (HG.out _)) | (go_at_call 43; with_reducible refine Fam.calls_same (HK.out _)) | (go_at_call 43; with_reducible refine Fam.calls_same (HS.out _))))
              refine wpQuiet_nil ?_
              intro _ hw'
              obtain ⟨nq, hw''⟩ := hw'
              subst hw''
              have hbq := Fam.wld_below _ nq
              generalize Fam.wld _ nq = w9 at hbq ⊢
              replace HX := Lib.hid (HX.out.all hbq)
              replace HB := Lib.hid (HB.out.trans (hbq.mono HB.out.size))
              clear hbq u0 u1 u2 u3 u4 u5 u6 u7 hs8
              go_wp2
              go_ret
              exact ⟨ret_bool HW.out.symm, HB.out⟩
            · have HS := Lib.hid (fun W => show Calls Tryd.prog 43 #[.int .i64 n.size, .int .i64 0, .int .i64 256] W fun e w' => e = .returned (.bool true) ∧ W = w' from by have := in_spec n.size 0 256 W; rw [hxS] at this; exact this)
              cases hxT : inB n.tick 0 1000000000
              · have HW := Lib.hid (ok_no h0 (by rw [HNUMS.out, hxT]; simp))
                have HT := Lib.hid (fun W => show Calls Tryd.prog 43 #[.int .i64 n.tick, .int .i64 0, .int .i64 1000000000] W fun e w' => e = .returned (.bool false) ∧ W = w' from by have := in_spec n.tick 0 1000000000 W; rw [hxT] at this; exact this)
                clear h0 hk2 hk1 hxM hxU hxG hxK hxS hxT
                repeat (go_big_quiet_step (first | (go_at_call 41; with_reducible refine Fam.calls_same (HM.out _)) | (go_at_call 42; with_reducible refine Fam.calls_same (HU.out _)) | (go_at_call 42; with_reducible refine Fam.calls_same (HG.out _)) | (go_at_call 43; with_reducible refine Fam.calls_same (HK.out _)) | (go_at_call 43; with_reducible refine Fam.calls_same (HS.out _)) | (go_at_call 43; with_reducible refine Fam.calls_same (HT.out _))))
                refine wpQuiet_nil ?_
                intro _ hw'
                obtain ⟨nq, hw''⟩ := hw'
                subst hw''
                have hbq := Fam.wld_below _ nq
                generalize Fam.wld _ nq = w9 at hbq ⊢
                replace HX := Lib.hid (HX.out.all hbq)
                replace HB := Lib.hid (HB.out.trans (hbq.mono HB.out.size))
                clear hbq u0 u1 u2 u3 u4 u5 u6 u7 hs8
                go_wp2
                go_ret
                exact ⟨ret_bool HW.out.symm, HB.out⟩
              · have HT := Lib.hid (fun W => show Calls Tryd.prog 43 #[.int .i64 n.tick, .int .i64 0, .int .i64 1000000000] W fun e w' => e = .returned (.bool true) ∧ W = w' from by have := in_spec n.tick 0 1000000000 W; rw [hxT] at this; exact this)
                have hrs := in_true hxS
                have HND0 := Lib.hid (fun W => InEq.need_spec n.size W (by unfold Rg; omega))
                by_cases hnd : (L : Int) = needV n.size
                · have HND := Lib.hid (fun W => show Calls Tryd.prog 44 #[.int .i64 n.size] W fun e w' => e = .returned (.int .i64 (L : Int)) ∧ W = w' from by have := HND0.out W; rw [← hnd] at this; exact this)
                  have hnums : numsB n = true := by rw [HNUMS.out, hxM, hxU, hxG, hxK, hxS, hxT, decide_eq_true hnd, hk2]; rfl
                  have HW := Lib.hid (rest_is h0 hnums)
                  have hmode := (mode_iff _).1 hxM
                  have e9 : (bits .and .i64 n.mode 512 != 0) = stickyB n.mode := Md.bit_in hmode.1 hmode.2 9 (by omega) 512 rfl
                  have HF1 := Lib.hid (fun h => file_dflt (n := n) h)
                  have HF2 := Lib.hid (fun h => file_bit (n := n) h)
                  have HF3 := Lib.hid (fun h => file_dir (n := n) h)
                  have HKD := Lib.hid hk2
                  clear hnd hnums h0 hk2 hk1 hxM hxU hxG hxK hxS hxT HND0 hrs hmode
                  repeat (go_big_quiet_step (first | (go_at_call 41; with_reducible refine Fam.calls_same (HM.out _)) | (go_at_call 42; with_reducible refine Fam.calls_same (HU.out _)) | (go_at_call 42; with_reducible refine Fam.calls_same (HG.out _)) | (go_at_call 43; with_reducible refine Fam.calls_same (HK.out _)) | (go_at_call 43; with_reducible refine Fam.calls_same (HS.out _)) | (go_at_call 43; with_reducible refine Fam.calls_same (HT.out _)) | (go_at_call 44; with_reducible refine Fam.calls_same (HND.out _))))
                  refine wpQuiet_nil ?_
                  intro _ hw'
                  obtain ⟨nq, hw''⟩ := hw'
                  subst hw''
                  have hbq := Fam.wld_below _ nq
                  generalize Fam.wld _ nq = w9 at hbq ⊢
                  replace HX := Lib.hid (HX.out.all hbq)
                  replace HB := Lib.hid (HB.out.trans (hbq.mono HB.out.size))
                  clear hbq u0 u1 u2 u3 u4 u5 u6 u7 hs8
                  obtain ⟨x0, x1, x2, x3, x4, x5, x6, x7, x8, x9⟩ := Bk.c10 HX.out
                  go_wp2
                  go_loopw [67] (fun iv wr => ∃ k : Nat, k ≤ L ∧ iv = .int .i64 k ∧ Bk wr w.heap.size #[.int .i64 n.kind, .int .i64 n.mode, .int .i64 n.uid, .int .i64 n.gid, .int .i64 n.links, .int .i64 n.size, .int .i64 n.tick, .slice a L c, r1, .slice da M dc] 26 ∧ Below w.heap.size w wr ∧ blksB n.blocks k = true) (fun iv _ => L - (intOf iv).toNat)
                  case atStart => exact ⟨0, Nat.zero_le _, rfl, HX.out, HB.out, rfl⟩
                  case round =>
                    obtain ⟨k, hk, rfl, hx, hbel, hr⟩ := hrel
                    replace HB := Lib.hid hbel
                    replace HX := Lib.hid hx
                    have HR := Lib.hid hr
                    clear hx hbel hr x0 x1 x2 x3 x4 x5 x6 x7 x8 x9
                    obtain ⟨x0, x1, x2, x3, x4, x5, x6, x7, x8, x9⟩ := Bk.c10 HX.out
                    by_cases hlt : k < L
                    · obtain ⟨b, off, rfl, hb, g0⟩ := HC.out k (by rw [← HL.out]; exact hlt)
                      rw [← HB.out.cell (p := ⟨b, _, none⟩) hb] at g0
                      have hkc : ¬ c = 0 := by omega
                      have hck := CrI.has_spec wr (.slice (some ⟨b, off, none⟩) k c) (n.blocks.take k) (n.blocks.getD k 0) (by rw [List.length_take]; omega) (HTK.out wr k HB.out (by rw [← HL.out]; omega))
                      have hin := in_spec (n.blocks.getD k 0) (-1) 999 wr
                      have HN1 := Lib.hid (HY1.out k HR.out)
                      have HN2 := Lib.hid (HY2.out k HR.out)
                      have HN3 := Lib.hid (HNO.out k (by rw [← HL.out]; exact hlt))
                      generalize n.blocks.getD k 0 = x at g0 hck hin HN1 HN2 HN3
                      cases hi : inB x (-1) 999
                      · have hi2 := in_false hi
                        rw [hi] at hin
                        have HIN := Lib.hid hin
                        have HN := Lib.hid (HN3.out ⟨by omega, by omega⟩)
                        clear hck hin hi hi2
                        go_wp2_with fail
                        refine HIN.out.mono ?_
                        rintro e wq ⟨rfl, rfl⟩
                        go_wp2
                        go_ret
                        exact ⟨ret_bool (by rw [HW.out, HN.out]; rfl), HB.out⟩
                      · have hi2 := in_true hi
                        rw [hi] at hin
                        have HIN := Lib.hid hin
                        clear hin hi
                        by_cases hm : x = -1
                        · have HN := Lib.hid (HN1.out hm)
                          subst hm
                          clear hck hi2
                          go_wp2_with fail
                          refine HIN.out.mono ?_
                          rintro e wq ⟨rfl, rfl⟩
                          go_wp2
                          go_roundw
                          case rel => exact ⟨k + 1, by omega, by go_num, HX.out, HB.out, HN.out⟩
                          case measure => simp [intOf]; omega
                        · have hm2 : (x == -1) = false := by simpa using hm
                          have hm3 : (x != -1) = true := by simpa using hm
                          cases hy : CrI.hasB (n.blocks.take k) x
                          · rw [hy] at hck
                            have HN := Lib.hid (HN2.out (by omega) hi2.2 hy)
                            have HCK := Lib.hid hck
                            clear hck hy hm hi2
                            go_wp2_with fail
                            refine HIN.out.mono ?_
                            rintro e wq ⟨rfl, rfl⟩
                            go_wp2_with fail
                            refine HCK.out.mono ?_
                            rintro e wq ⟨rfl, rfl⟩
                            go_wp2
                            go_roundw
                            case rel => exact ⟨k + 1, by omega, by go_num, HX.out, HB.out, HN.out⟩
                            case measure => simp [intOf]; omega
                          · rw [hy] at hck
                            have HN := Lib.hid (HN3.out ⟨hm, .inr (.inr hy)⟩)
                            have HCK := Lib.hid hck
                            clear hck hy hm hi2
                            go_wp2_with fail
                            refine HIN.out.mono ?_
                            rintro e wq ⟨rfl, rfl⟩
                            go_wp2_with fail
                            refine HCK.out.mono ?_
                            rintro e wq ⟨rfl, rfl⟩
                            go_wp2
                            go_ret
                            exact ⟨ret_bool (by rw [HW.out, HN.out]; rfl), HB.out⟩
                    · obtain rfl : k = L := by omega
                      have HN := Lib.hid (show blksB n.blocks n.blocks.length = true by rw [← HL.out]; exact HR.out)
                      have HFB := Lib.hid (HF3.out (by rw [HKD.out]; decide))
                      by_cases hac : okB n.acl = true
                      · have HA := Lib.hid hac
                        have HW2 := Lib.hid (show okI n = okB n.dflt by rw [HW.out, HN.out, HA.out, HFB.out]; rfl)
                        clear hac
                        go_wp2_with fail
                        refine (AclI.spec_any _ r1 n.acl hn2 (Ae.holds_below H1.out HB.out)).mono ?_
                        rintro e w1 ⟨rfl, hb⟩
                        rw [HA.out]
                        replace HX := Lib.hid (HX.out.all hb)
                        replace HB := Lib.hid (HB.out.trans (hb.mono HB.out.size))
                        clear hb x0 x1 x2 x3 x4 x5 x6 x7 x8 x9
                        obtain ⟨x0, x1, x2, x3, x4, x5, x6, x7, x8, x9⟩ := Bk.c10 HX.out
                        go_wp2_with fail
                        refine (AclI.spec_any _ _ n.dflt hn3 (Ae.holds_below H2.out HB.out)).mono ?_
                        rintro e w2 ⟨rfl, hb⟩
                        replace HB := Lib.hid (HB.out.trans (hb.mono HB.out.size))
                        clear hb
                        generalize okB n.dflt = D at HW2 ⊢
                        go_wp2
                        go_ret
                        exact ⟨ret_bool HW2.out.symm, HB.out⟩
                      · have hac' : okB n.acl = false := by simpa using hac
                        have HA := Lib.hid hac'
                        have HW2 := Lib.hid (show okI n = false by rw [HW.out, HN.out, HA.out]; simp)
                        clear hac hac'
                        go_wp2_with fail
                        refine (AclI.spec_any _ r1 n.acl hn2 (Ae.holds_below H1.out HB.out)).mono ?_
                        rintro e w1 ⟨rfl, hb⟩
                        rw [HA.out]
                        replace HB := Lib.hid (HB.out.trans (hb.mono HB.out.size))
                        clear hb
                        go_wp2
                        go_ret
                        exact ⟨ret_bool HW2.out.symm, HB.out⟩
                · have HW := Lib.hid (ok_no h0 (by rw [HNUMS.out, decide_eq_false hnd]; simp))
                  have HND := Lib.hid HND0.out
                  generalize needV n.size = y at HND hnd
                  have hq1 : ((L : Int) == y) = false := by simpa using hnd
                  have hq2 : ((L : Int) != y) = true := by simpa using hnd
                  clear h0 hk2 hk1 hnd hxM hxU hxG hxK hxS hxT HND0 hrs
                  repeat (go_big_quiet_step (first | (go_at_call 41; with_reducible refine Fam.calls_same (HM.out _)) | (go_at_call 42; with_reducible refine Fam.calls_same (HU.out _)) | (go_at_call 42; with_reducible refine Fam.calls_same (HG.out _)) | (go_at_call 43; with_reducible refine Fam.calls_same (HK.out _)) | (go_at_call 43; with_reducible refine Fam.calls_same (HS.out _)) | (go_at_call 43; with_reducible refine Fam.calls_same (HT.out _)) | (go_at_call 44; with_reducible refine Fam.calls_same (HND.out _))))
                  refine wpQuiet_nil ?_
                  intro _ hw'
                  obtain ⟨nq, hw''⟩ := hw'
                  subst hw''
                  have hbq := Fam.wld_below _ nq
                  generalize Fam.wld _ nq = w9 at hbq ⊢
                  replace HX := Lib.hid (HX.out.all hbq)
                  replace HB := Lib.hid (HB.out.trans (hbq.mono HB.out.size))
                  clear hbq u0 u1 u2 u3 u4 u5 u6 u7 hs8
                  go_wp2
                  go_ret
                  exact ⟨ret_bool HW.out.symm, HB.out⟩
  have k1a : (n.kind == 1) = false := by simpa using hk1
  have k1b : (n.kind != 1) = true := by simpa using hk1
  have k2a : (n.kind == 2) = false := by simpa using hk2
  have k2b : (n.kind != 2) = true := by simpa using hk2
  have HW := Lib.hid (ok_no h0 (by rw [HNUMS.out, decide_eq_false hk1, decide_eq_false hk2]; rfl))
  clear h0 hk1 hk2
  repeat (go_big_quiet_step (first | fail))
  refine wpQuiet_nil ?_
  intro _ hw'
  obtain ⟨nq, hw''⟩ := hw'
  subst hw''
  have hbq := Fam.wld_below _ nq
  generalize Fam.wld _ nq = w9 at hbq ⊢
  replace HX := Lib.hid (HX.out.all hbq)
  replace HB := Lib.hid (HB.out.trans (hbq.mono HB.out.size))
  clear hbq u0 u1 u2 u3 u4 u5 u6 u7 hs8
  go_wp2
  go_ret
  exact ⟨ret_bool HW.out.symm, HB.out⟩
end Go.Proofs.YthobdeidjagnhaaDoor.InOs

-- YthobdeidjagnhaaDoorInP
/- An inode's bytes, piece by piece. Plain facts; conditions: as each theorem types them. -/
namespace Go.Proofs.YthobdeidjagnhaaDoor.InP
open Go
open InoV
open InSm (nums fbV)
open InOk (gr)
open AclV (okB packV packL packL_len ok_len pack_size)
open Nums (putB fitsB lowL lowL_length)
open PadTo (padB padB_at zend)
set_option linter.unusedVariables false

def wd : List Int := [1, 2, 1, 1, 2, 2, 4]
theorem put_is {x : Int} (k : Nat) (h0 : 0 ≤ x) (h : x < 256 ^ k) (h1 : 1 ≤ k) (h6 : k ≤ 6) : putB x k = ⟨(lowL x.toNat k).toArray⟩ := by
  have hf : fitsB x k = true := by
    simp only [fitsB, Bool.and_eq_true, decide_eq_true_eq]
    exact ⟨⟨⟨by omega, by omega⟩, h0⟩, h⟩
  rw [putB, if_pos hf]; rfl
theorem put_size {x : Int} (k : Nat) (h0 : 0 ≤ x) (h : x < 256 ^ k) (h1 : 1 ≤ k) (h6 : k ≤ 6) : (putB x k).size = k := by
  rw [put_is k h0 h h1 h6]
  show (lowL x.toNat k).toArray.size = k
  rw [List.size_toArray, lowL_length]
theorem pu1 {x : Int} (h0 : 0 ≤ x) (h : x < 256) : putB x 1 = ⟨(lowL x.toNat 1).toArray⟩ := put_is 1 h0 h (by omega) (by omega)
theorem pu2 {x : Int} (h0 : 0 ≤ x) (h : x < 65536) : putB x 2 = ⟨(lowL x.toNat 2).toArray⟩ := put_is 2 h0 h (by omega) (by omega)
theorem pu4 {x : Int} (h0 : 0 ≤ x) (h : x < 4294967296) : putB x 4 = ⟨(lowL x.toNat 4).toArray⟩ := put_is 4 h0 h (by omega) (by omega)
theorem ps1 {x : Int} (h0 : 0 ≤ x) (h : x < 256) : (putB x 1).size = 1 := put_size 1 h0 h (by omega) (by omega)
theorem ps2 {x : Int} (h0 : 0 ≤ x) (h : x < 65536) : (putB x 2).size = 2 := put_size 2 h0 h (by omega) (by omega)
theorem ps4 {x : Int} (h0 : 0 ≤ x) (h : x < 4294967296) : (putB x 4).size = 4 := put_size 4 h0 h (by omega) (by omega)
/-- The bytes with i blocks laid. -/
def accN (n : I) (i : Nat) : ByteArray := ⟨(headL n ++ blkL n.blocks i).toArray⟩
theorem accN_size (n : I) (i : Nat) : (accN n i).size = 13 + 2 * i := by
  show (headL n ++ blkL n.blocks i).toArray.size = _
  rw [List.size_toArray, List.length_append, headL_length, blkL_length]
/-- The block that is stored at place i. -/
def blkN (n : I) (i : Nat) : Int := n.blocks.getD i (-1)
theorem blkN_in {n : I} (h : okI n = true) {i : Nat} (hi : i < n.blocks.length) : blkN n i = n.blocks.getD i 0 := getD_one hi (-1) 0
theorem blkN_out {n : I} {i : Nat} (hi : n.blocks.length ≤ i) : blkN n i = -1 := by
  unfold blkN
  rw [List.getD_eq_getElem?_getD, List.getElem?_eq_none hi]; rfl
theorem blkN_range {n : I} (h : okI n = true) (i : Nat) : -1 ≤ blkN n i ∧ blkN n i ≤ 999 := by
  by_cases hi : i < n.blocks.length
  · rw [blkN_in h hi]
    exact blks_at (ok_blocks h).1 hi
  · rw [blkN_out (by omega)]; omega
theorem accN_next {n : I} (h : okI n = true) (i : Nat) : accN n i ++ putB (blkN n i + 1) 2 = accN n (i + 1) := by
  have hr := blkN_range h i
  rw [pu2 (by omega) (by omega)]
  apply ext
  simp only [accN, ByteArray.data_append, Array.toList_append, List.toList_toArray, blkL_succ, List.append_assoc]
  rfl
theorem accN_zero {n : I} (h : okI n = true) : putB n.kind 1 ++ putB n.mode 2 ++ putB n.uid 1 ++ putB n.gid 1 ++ putB n.links 2 ++ putB n.size 2 ++ putB n.tick 4 = accN n 0 := by
  have f := ok_nums h
  rw [pu1 f.1 (by omega), pu2 f.2.2.1 (by omega), pu1 f.2.2.2.2.1 (by omega), pu1 f.2.2.2.2.2.2.1 (by omega),
    pu2 f.2.2.2.2.2.2.2.2.1 (by omega), pu2 f.2.2.2.2.2.2.2.2.2.2.1 (by omega), pu4 f.2.2.2.2.2.2.2.2.2.2.2.2.1 (by omega)]
  apply ext
  simp only [accN, ByteArray.data_append, Array.toList_append, List.toList_toArray, headL]
  simp [blkL]
theorem fin_size {n : I} (h : okI n = true) : (accN n 8 ++ packV n.acl ++ packV n.dflt).size = 67 := by
  have ha := ok_acls h
  rw [ByteArray.size_append, ByteArray.size_append, accN_size, pack_size ha.1, pack_size ha.2]
theorem fin_pack {n : I} (h : okI n = true) : padB (accN n 8 ++ packV n.acl ++ packV n.dflt) 96 = packI n := by
  have ha := ok_acls h
  rw [padB_at _ _ 29 (by omega) (by rw [fin_size h]; rfl), packI, if_pos h]
  congr 2
  have e1 : packV n.acl = ⟨(packL n.acl).toArray⟩ := by rw [packV, if_pos ha.1]
  have e2 : packV n.dflt = ⟨(packL n.dflt).toArray⟩ := by rw [packV, if_pos ha.2]
  rw [e1, e2]
  simp only [zend, accN, inoL, ByteArray.data_append, Array.toList_append, List.toList_toArray, List.append_assoc]
theorem fbV_in {n : I} (h : okI n = true) (i : Nat) : fbV n.blocks i = blkN n i + 1 := by
  have hr := blkN_range h i
  unfold fbV
  by_cases hi : i < n.blocks.length
  · rw [if_pos hi, ← blkN_in h hi, IntKind.wrap_i64]; omega
  · rw [if_neg hi, blkN_out (by omega)]; rfl
/-! The fields, as the program lays them. -/
def fldA (n : I) (k : Nat) : List ByteArray := (List.range k).map fun j => putB ((nums n).getD j 0) (wd.getD j 0)
def fldB (n : I) (k : Nat) : List ByteArray := fldA n 7 ++ (List.range k).map fun j => putB (fbV n.blocks j) 2
theorem fldA_succ (n : I) (k : Nat) : fldA n (k + 1) = fldA n k ++ [putB ((nums n).getD k 0) (wd.getD k 0)] := by simp [fldA, List.range_succ]
theorem fldB_succ (n : I) (k : Nat) : fldB n (k + 1) = fldB n k ++ [putB (fbV n.blocks k) 2] := by simp [fldB, List.range_succ]
theorem fldB_zero (n : I) : fldB n 0 = fldA n 7 := by simp [fldB]
theorem fldA_length (n : I) (k : Nat) : (fldA n k).length = k := by simp [fldA]
theorem fldB_length (n : I) (k : Nat) : (fldB n k).length = 7 + k := by simp [fldB, fldA_length]
theorem join_two (xs : List ByteArray) (a b : ByteArray) : Join.joined (xs ++ [a, b]) ⟨#[]⟩ (xs ++ [a, b]).length = Join.joined xs ⟨#[]⟩ xs.length ++ a ++ b := by
  rw [show xs ++ [a, b] = (xs ++ [a]) ++ [b] by simp, AclK.join_app, AclK.join_app]
theorem emp (a : ByteArray) : (⟨#[]⟩ : ByteArray) ++ a = a := by apply ext; simp
theorem joinA {n : I} (h : okI n = true) : Join.joined (fldA n 7) ⟨#[]⟩ (fldA n 7).length = accN n 0 := by
  rw [← accN_zero h]
  have e : ∀ k, Join.joined (fldA n (k + 1)) ⟨#[]⟩ (fldA n (k + 1)).length = Join.joined (fldA n k) ⟨#[]⟩ (fldA n k).length ++ putB ((nums n).getD k 0) (wd.getD k 0) := fun k => by
    rw [fldA_succ, AclK.join_app]
  rw [e 6, e 5, e 4, e 3, e 2, e 1, e 0]
  show (⟨#[]⟩ : ByteArray) ++ _ ++ _ ++ _ ++ _ ++ _ ++ _ ++ _ = _
  rw [emp]
  rfl
theorem joinB {n : I} (h : okI n = true) (k : Nat) : Join.joined (fldB n k) ⟨#[]⟩ (fldB n k).length = accN n k := by
  induction k with
  | zero => rw [fldB_zero, joinA h]
  | succ k ih => rw [fldB_succ, AclK.join_app, ih, fbV_in h, accN_next h]
theorem joinC {n : I} (h : okI n = true) : Join.joined (fldB n 8 ++ [packV n.acl, packV n.dflt]) ⟨#[]⟩ (fldB n 8 ++ [packV n.acl, packV n.dflt]).length = accN n 8 ++ packV n.acl ++ packV n.dflt := by
  rw [join_two, joinB h]
theorem total_one (x : ByteArray) : Strs.total [x] = x.size := by simp [Strs.total]
theorem totB {n : I} (h : okI n = true) (k : Nat) (hk : k ≤ 8) : Strs.total (fldB n k) ≤ 13 + 2 * k := by
  have f := ok_nums h
  have hA : Strs.total (fldA n 7) = 13 := by
    have e : ∀ k, Strs.total (fldA n (k + 1)) = Strs.total (fldA n k) + (putB ((nums n).getD k 0) (wd.getD k 0)).size := fun k => by rw [fldA_succ, AclK.total_append, total_one]
    rw [e 6, e 5, e 4, e 3, e 2, e 1, e 0]
    have p0 : (putB ((nums n).getD 0 0) (wd.getD 0 0)).size = 1 := put_size 1 f.1 (by show n.kind < _; omega) (by omega) (by omega)
    have p1 : (putB ((nums n).getD 1 0) (wd.getD 1 0)).size = 2 := put_size 2 f.2.2.1 (by show n.mode < _; omega) (by omega) (by omega)
    have p2 : (putB ((nums n).getD 2 0) (wd.getD 2 0)).size = 1 := put_size 1 f.2.2.2.2.1 (by show n.uid < _; omega) (by omega) (by omega)
    have p3 : (putB ((nums n).getD 3 0) (wd.getD 3 0)).size = 1 := put_size 1 f.2.2.2.2.2.2.1 (by show n.gid < _; omega) (by omega) (by omega)
    have p4 : (putB ((nums n).getD 4 0) (wd.getD 4 0)).size = 2 := put_size 2 f.2.2.2.2.2.2.2.2.1 (by show n.links < _; omega) (by omega) (by omega)
    have p5 : (putB ((nums n).getD 5 0) (wd.getD 5 0)).size = 2 := put_size 2 f.2.2.2.2.2.2.2.2.2.2.1 (by show n.size < _; omega) (by omega) (by omega)
    have p6 : (putB ((nums n).getD 6 0) (wd.getD 6 0)).size = 4 := put_size 4 f.2.2.2.2.2.2.2.2.2.2.2.2.1 (by show n.tick < _; omega) (by omega) (by omega)
    rw [p0, p1, p2, p3, p4, p5, p6]
    rfl
  induction k with
  | zero => rw [fldB_zero, hA]; omega
  | succ k ih =>
    have hr := blkN_range h k
    rw [fldB_succ, AclK.total_append, total_one, fbV_in h, ps2 (by omega) (by omega)]
    have := ih (by omega)
    omega
end Go.Proofs.YthobdeidjagnhaaDoor.InP

-- YthobdeidjagnhaaDoorInPs
/- Contract: the model's PackInode, for every inode. Conditions: as the theorem types them. -/
namespace Go.Proofs.YthobdeidjagnhaaDoor.InPs
open Go.ChangeShapes Go.WideShapes Go.ChangeAt Go.RowKit
open Foot Bx
open InoV (I okI packI)
open InP
open AclV (packV)
open Strs (ret_str)
set_option linter.unusedVariables false

set_option maxRecDepth 100000 in
set_option maxHeartbeats 6400000 in
theorem pack_any (w : World) (v : Value) (n : I) (hc : In.cost n ≤ 1073741824) (h : In.Holds w v n) :
    Calls Tryd.prog 18 #[v] w fun e w' => e = .returned (.string (packI n)) ∧ Below w.heap.size w w' := by
  have hn1 : n.blocks.length ≤ 1073741824 := Nat.le_trans (In.le_blocks n) hc
  have hn2 : n.acl.length ≤ 1073741824 := Nat.le_trans (In.le_acl n) hc
  have hn3 : n.dflt.length ≤ 1073741824 := Nat.le_trans (In.le_dflt n) hc
  have HIS := Lib.hid (fun W (hb : Below w.heap.size w W) => InOs.is_any W v n hc (In.holds_below h hb))
  obtain ⟨r0, r1, r2, rfl, g0, g1, g2⟩ := h
  obtain ⟨a, c, rfl⟩ := NiF.form g0
  have H0 := Lib.hid g0
  have H1 := Lib.hid g1
  have H2 := Lib.hid g2
  have HC := Lib.hid (show ∀ i, i < n.blocks.length → ∃ b o, a = some ⟨b, o, none⟩ ∧ b < w.heap.size ∧ w.cell? ⟨b, o + i, none⟩ = some (.int .i64 (n.blocks.getD i 0)) from by
    obtain ⟨a', c', e, hle, hc⟩ := g0
    rw [Value.slice.injEq] at e
    obtain ⟨rfl, _, rfl⟩ := e
    exact hc)
  clear g0 g1 g2
  obtain ⟨L, hL⟩ : ∃ L, L = n.blocks.length := ⟨_, rfl⟩
  rw [← hL] at hn1 HIS H0 ⊢
  have HL := Lib.hid hL
  clear hL
  have HB := Lib.hid ((Below.refl w.heap.size w).alloc (Nat.le_refl _) (.cells #[.int .i64 n.kind, .int .i64 n.mode, .int .i64 n.uid, .int .i64 n.gid, .int .i64 n.links, .int .i64 n.size, .int .i64 n.tick, .slice a L c, r1, r2] 26))
  have HX := Lib.hid (new w #[.int .i64 n.kind, .int .i64 n.mode, .int .i64 n.uid, .int .i64 n.gid, .int .i64 n.links, .int .i64 n.size, .int .i64 n.tick, .slice a L c, r1, r2] 26)
  cases hok : okI n
  · have HV := Lib.hid (InoV.packI_no hok)
    have HIN := Lib.hid (HIS.out _ HB.out)
    have HE := Lib.hid hok
    clear hok
    go_enter Tryd.func18, Tryd.ntmps18
    go_wp2_with fail
    refine HIN.out.mono ?_
    rintro e w1 ⟨rfl, hb⟩
    rw [HE.out]
    replace HB := Lib.hid (HB.out.trans (hb.mono HB.out.size))
    clear hb
    go_wp2
    go_ret
    exact ⟨ret_str HV.out.symm, HB.out⟩
  have HIN := Lib.hid (HIS.out _ HB.out)
  have HE := Lib.hid hok
  have f := InoV.ok_nums hok
  have hb8 := (InoV.ok_blocks hok).2
  have hacl := InoV.ok_acls hok
  have HPA := Lib.hid (AclV.pack_size hacl.1)
  have HPD2 := Lib.hid (AclV.pack_size hacl.2)
  have HZERO := Lib.hid (accN_zero hok)
  have HNEXT := Lib.hid (accN_next hok)
  have HSZ := Lib.hid (accN_size n)
  have HFIN := Lib.hid (fin_pack hok)
  have HFS := Lib.hid (fin_size hok)
  have HBI := Lib.hid (fun i (h : i < n.blocks.length) => blkN_in hok h)
  have HBO := Lib.hid (fun i (h : n.blocks.length ≤ i) => blkN_out (n := n) h)
  have HBR := Lib.hid (blkN_range hok)
  have HP0 := Lib.hid (fun W => PutNumber.spec_any n.kind 1 W (by omega) (by omega))
  have e0 : (Nums.putB n.kind 1).size = 1 := ps1 (by omega) (by omega)
  have HP1 := Lib.hid (fun W => PutNumber.spec_any n.mode 2 W (by omega) (by omega))
  have e1 : (Nums.putB n.mode 2).size = 2 := ps2 (by omega) (by omega)
  have HP2 := Lib.hid (fun W => PutNumber.spec_any n.uid 1 W (by omega) (by omega))
  have e2 : (Nums.putB n.uid 1).size = 1 := ps1 (by omega) (by omega)
  have HP3 := Lib.hid (fun W => PutNumber.spec_any n.gid 1 W (by omega) (by omega))
  have e3 : (Nums.putB n.gid 1).size = 1 := ps1 (by omega) (by omega)
  have HP4 := Lib.hid (fun W => PutNumber.spec_any n.links 2 W (by omega) (by omega))
  have e4 : (Nums.putB n.links 2).size = 2 := ps2 (by omega) (by omega)
  have HP5 := Lib.hid (fun W => PutNumber.spec_any n.size 2 W (by omega) (by omega))
  have e5 : (Nums.putB n.size 2).size = 2 := ps2 (by omega) (by omega)
  have HP6 := Lib.hid (fun W => PutNumber.spec_any n.tick 4 W (by omega) (by omega))
  have e6 : (Nums.putB n.tick 4).size = 4 := ps4 (by omega) (by omega)
  generalize Nums.putB n.kind 1 = P0 at HP0 e0 HZERO
  generalize Nums.putB n.mode 2 = P1 at HP1 e1 HZERO
  generalize Nums.putB n.uid 1 = P2 at HP2 e2 HZERO
  generalize Nums.putB n.gid 1 = P3 at HP3 e3 HZERO
  generalize Nums.putB n.links 2 = P4 at HP4 e4 HZERO
  generalize Nums.putB n.size 2 = P5 at HP5 e5 HZERO
  generalize Nums.putB n.tick 4 = P6 at HP6 e6 HZERO
  have hy1 : (9223372036854775807 < P0.size + P1.size) = False := eq_false (by omega)
  have hy2 : (9223372036854775807 < P0.size + P1.size + P2.size) = False := eq_false (by omega)
  have hz2 : (9223372036854775807 < (P0 ++ P1).size + P2.size) = False := eq_false (by simp only [ByteArray.size_append]; omega)
  have hy3 : (9223372036854775807 < P0.size + P1.size + P2.size + P3.size) = False := eq_false (by omega)
  have hz3 : (9223372036854775807 < (P0 ++ P1 ++ P2).size + P3.size) = False := eq_false (by simp only [ByteArray.size_append]; omega)
  have hy4 : (9223372036854775807 < P0.size + P1.size + P2.size + P3.size + P4.size) = False := eq_false (by omega)
  have hz4 : (9223372036854775807 < (P0 ++ P1 ++ P2 ++ P3).size + P4.size) = False := eq_false (by simp only [ByteArray.size_append]; omega)
  have hy5 : (9223372036854775807 < P0.size + P1.size + P2.size + P3.size + P4.size + P5.size) = False := eq_false (by omega)
  have hz5 : (9223372036854775807 < (P0 ++ P1 ++ P2 ++ P3 ++ P4).size + P5.size) = False := eq_false (by simp only [ByteArray.size_append]; omega)
  have hy6 : (9223372036854775807 < P0.size + P1.size + P2.size + P3.size + P4.size + P5.size + P6.size) = False := eq_false (by omega)
  have hz6 : (9223372036854775807 < (P0 ++ P1 ++ P2 ++ P3 ++ P4 ++ P5).size + P6.size) = False := eq_false (by simp only [ByteArray.size_append]; omega)
  clear hok hacl f e0 e1 e2 e3 e4 e5 e6
  have HC8 := Lib.hid hb8
  rw [← HL.out] at HC8
  clear hb8
  go_enter Tryd.func18, Tryd.ntmps18
  go_wp2_with fail
  refine HIN.out.mono ?_
  rintro e w1 ⟨rfl, hb⟩
  rw [HE.out]
  replace HX := Lib.hid (HX.out.all hb)
  replace HB := Lib.hid (HB.out.trans (hb.mono HB.out.size))
  clear hb
  obtain ⟨x0, x1, x2, x3, x4, x5, x6, x7, x8, x9⟩ := Bk.c10 HX.out
  go_wp2
  have hs8 := HX.out.lt
  have u0 := Fam.cell (W := w1) (p := ⟨w.heap.size, 0, none⟩) hs8 x0
  have u1 := Fam.cell (W := w1) (p := ⟨w.heap.size, 1, none⟩) hs8 x1
  have u2 := Fam.cell (W := w1) (p := ⟨w.heap.size, 2, none⟩) hs8 x2
  have u3 := Fam.cell (W := w1) (p := ⟨w.heap.size, 3, none⟩) hs8 x3
  have u4 := Fam.cell (W := w1) (p := ⟨w.heap.size, 4, none⟩) hs8 x4
  have u5 := Fam.cell (W := w1) (p := ⟨w.heap.size, 5, none⟩) hs8 x5
  have u6 := Fam.cell (W := w1) (p := ⟨w.heap.size, 6, none⟩) hs8 x6
  refine Fam.region (by kernel_rfl) (by kernel_rfl) ?_
  repeat (go_big_quiet_step (first | (go_at_call 51; with_reducible refine Fam.calls (HP0.out _)) | (go_at_call 51; with_reducible refine Fam.calls (HP1.out _)) | (go_at_call 51; with_reducible refine Fam.calls (HP2.out _)) | (go_at_call 51; with_reducible refine Fam.calls (HP3.out _)) | (go_at_call 51; with_reducible refine Fam.calls (HP4.out _)) | (go_at_call 51; with_reducible refine Fam.calls (HP5.out _)) | (go_at_call 51; with_reducible refine Fam.calls (HP6.out _))))
  refine wpQuiet_nil ?_
  intro _ hw'
  obtain ⟨nq, hw''⟩ := hw'
  subst hw''
  have hbq := Fam.wld_below _ nq
  generalize Fam.wld _ nq = w9 at hbq ⊢
  replace HX := Lib.hid (HX.out.all hbq)
  replace HB := Lib.hid (HB.out.trans (hbq.mono HB.out.size))
  clear hbq u0 u1 u2 u3 u4 u5 u6 hs8 x0 x1 x2 x3 x4 x5 x6 x7 x8 x9 hy1 hy2 hy3 hy4 hy5 hy6 hz2 hz3 hz4 hz5 hz6
  rw [HZERO.out]
  go_wp2
  go_loopw [3, 4] (fun sv iv wr => ∃ i : Nat, i ≤ 8 ∧ iv = .int .i64 i ∧ sv = .string (accN n i) ∧ Bk wr w.heap.size #[.int .i64 n.kind, .int .i64 n.mode, .int .i64 n.uid, .int .i64 n.gid, .int .i64 n.links, .int .i64 n.size, .int .i64 n.tick, .slice a L c, r1, r2] 26 ∧ Below w.heap.size w wr) (fun _ iv _ => 8 - (intOf iv).toNat)
  case atStart => exact ⟨0, Nat.zero_le _, rfl, rfl, HX.out, HB.out⟩
  case round =>
    obtain ⟨i, hi, rfl, rfl, hx, hbel⟩ := hrel
    replace HB := Lib.hid hbel
    replace HX := Lib.hid hx
    clear hx hbel
    obtain ⟨x0, x1, x2, x3, x4, x5, x6, x7, x8, x9⟩ := Bk.c10 HX.out
    by_cases hlt : i < 8
    · have hr := HBR.out i
      have hsz := HSZ.out i
      have HNX := Lib.hid (HNEXT.out i)
      have hp := ps2 (x := blkN n i + 1) (by omega) (by omega)
      have HPN := Lib.hid (fun W => PutNumber.spec_any (blkN n i + 1) 2 W (by omega) (by omega))
      generalize Nums.putB (blkN n i + 1) 2 = P at hp HPN HNX
      by_cases hiL : i < L
      · obtain ⟨b, off, rfl, hb, g0⟩ := HC.out i (by rw [← HL.out]; exact hiL)
        rw [← HB.out.cell (p := ⟨b, _, none⟩) hb, ← HBI.out i (by rw [← HL.out]; exact hiL)] at g0
        generalize blkN n i = x at g0 hr HPN
        generalize accN n i = S at hsz HNX ⊢
        have hz : (9223372036854775807 < S.size + P.size) = False := eq_false (by omega)
        clear hsz hp
        go_wp2_with fail
        refine (HPN.out _).mono ?_
        rintro e w5 ⟨rfl, hb5⟩
        replace HX := Lib.hid (HX.out.all hb5)
        replace HB := Lib.hid (HB.out.trans (hb5.mono HB.out.size))
        clear hb5
        go_wp2
        go_roundw
        case rel => exact ⟨i + 1, by omega, by go_num, by rw [← HNX.out], HX.out, HB.out⟩
        case measure => simp [intOf]; omega
      · have hbo := HBO.out i (by rw [← HL.out]; omega)
        rw [hbo] at HPN
        clear hr hbo
        generalize accN n i = S at hsz HNX ⊢
        have hz : (9223372036854775807 < S.size + P.size) = False := eq_false (by omega)
        have hd : decide ((i : Int) < (L : Int)) = false := decide_eq_false (by omega)
        clear hsz hp
        go_wp2_with fail
        refine (HPN.out _).mono ?_
        rintro e w5 ⟨rfl, hb5⟩
        replace HX := Lib.hid (HX.out.all hb5)
        replace HB := Lib.hid (HB.out.trans (hb5.mono HB.out.size))
        clear hb5
        go_wp2
        go_roundw
        case rel => exact ⟨i + 1, by omega, by go_num, by rw [← HNX.out], HX.out, HB.out⟩
        case measure => simp [intOf]; omega
    · obtain rfl : i = 8 := by omega
      have hsz := HSZ.out 8
      have HPD := Lib.hid (fun W => PadTo.spec_any (accN n 8 ++ packV n.acl ++ packV n.dflt) 96 W (by rw [HFS.out]; omega))
      have HA1 := Lib.hid (fun k : Fam.Ix wr => AclK.spec_any (Fam.wld wr k) r1 n.acl hn2 (Ae.holds_below H1.out (HB.out.trans (Fam.wld_below wr k |>.mono HB.out.size))))
      have HA2 := Lib.hid (fun k : Fam.Ix wr => AclK.spec_any (Fam.wld wr k) r2 n.dflt hn3 (Ae.holds_below H2.out (HB.out.trans (Fam.wld_below wr k |>.mono HB.out.size))))
      rw [HFIN.out] at HPD
      clear HFS
      have hpa := HPA.out
      have hpd := HPD2.out
      generalize packV n.acl = A1 at hpa HA1 HPD
      generalize packV n.dflt = A2 at hpd HA2 HPD
      generalize accN n 8 = S at hsz HPD ⊢
      have hz0 : (9223372036854775807 < S.size + A1.size) = False := eq_false (by omega)
      have hz1 : (9223372036854775807 < S.size + A1.size + A2.size) = False := eq_false (by omega)
      have hz2 : (9223372036854775807 < (S ++ A1).size + A2.size) = False := eq_false (by rw [ByteArray.size_append]; omega)
      clear hsz hpa hpd
      have hs8 := HX.out.lt
      go_wp2
      have u8 := Fam.cell (W := wr) (p := ⟨w.heap.size, 8, none⟩) hs8 x8
      have u9 := Fam.cell (W := wr) (p := ⟨w.heap.size, 9, none⟩) hs8 x9
      refine Fam.region (by kernel_rfl) (by kernel_rfl) ?_
      repeat (go_big_quiet_step (first | (go_at_call 53; with_reducible refine Fam.calls (HA1.out _)) | (go_at_call 53; with_reducible refine Fam.calls (HA2.out _)) | (go_at_call 52; with_reducible refine Fam.calls (HPD.out _))))
      refine wpQuiet_nil ?_
      intro _ hw'
      obtain ⟨nq, hw''⟩ := hw'
      subst hw''
      have hbq := Fam.wld_below _ nq
      generalize Fam.wld _ nq = w9 at hbq ⊢
      replace HB := Lib.hid (HB.out.trans (hbq.mono HB.out.size))
      go_wp2
      go_ret
      exact ⟨rfl, HB.out⟩
end Go.Proofs.YthobdeidjagnhaaDoor.InPs

-- YthobdeidjagnhaaDoorInPi
/- Contract: the program's PackInode, for every inode. Conditions: as the theorem types them; the table of the fields reads as it is laid. -/
namespace Go.Proofs.YthobdeidjagnhaaDoor.InPi
open Go.ChangeShapes Go.WideShapes Go.ChangeAt Go.RowKit
open Foot Bx
open InoV (I okI packI)
open InSm (nums fbV fbL arr)
open InP
open InOk (Vars)
open AclV (packV)
open Strs (ret_str)
set_option linter.unusedVariables false

theorem own_nilS (w : World) (base : Nat) (e : TypeId) : w.ownsRow base e 1 (.slice none 0 0) 0 (([] : List ByteArray).map Value.string) := ⟨rfl, .inl ⟨rfl, rfl⟩⟩
theorem ixn0 (x0 x1 x2 x3 x4 x5 x6 : Int) (w : World) : (Instr.index 48 (.agg #[.int .i64 x0, .int .i64 x1, .int .i64 x2, .int .i64 x3, .int .i64 x4, .int .i64 x5, .int .i64 x6]) (.int .i64 0)).run Tryd.prog w = .ok (.int .i64 x0) w := by kernel_rfl
theorem ixn1 (x0 x1 x2 x3 x4 x5 x6 : Int) (w : World) : (Instr.index 48 (.agg #[.int .i64 x0, .int .i64 x1, .int .i64 x2, .int .i64 x3, .int .i64 x4, .int .i64 x5, .int .i64 x6]) (.int .i64 1)).run Tryd.prog w = .ok (.int .i64 x1) w := by kernel_rfl
theorem ixn2 (x0 x1 x2 x3 x4 x5 x6 : Int) (w : World) : (Instr.index 48 (.agg #[.int .i64 x0, .int .i64 x1, .int .i64 x2, .int .i64 x3, .int .i64 x4, .int .i64 x5, .int .i64 x6]) (.int .i64 2)).run Tryd.prog w = .ok (.int .i64 x2) w := by kernel_rfl
theorem ixn3 (x0 x1 x2 x3 x4 x5 x6 : Int) (w : World) : (Instr.index 48 (.agg #[.int .i64 x0, .int .i64 x1, .int .i64 x2, .int .i64 x3, .int .i64 x4, .int .i64 x5, .int .i64 x6]) (.int .i64 3)).run Tryd.prog w = .ok (.int .i64 x3) w := by kernel_rfl
theorem ixn4 (x0 x1 x2 x3 x4 x5 x6 : Int) (w : World) : (Instr.index 48 (.agg #[.int .i64 x0, .int .i64 x1, .int .i64 x2, .int .i64 x3, .int .i64 x4, .int .i64 x5, .int .i64 x6]) (.int .i64 4)).run Tryd.prog w = .ok (.int .i64 x4) w := by kernel_rfl
theorem ixn5 (x0 x1 x2 x3 x4 x5 x6 : Int) (w : World) : (Instr.index 48 (.agg #[.int .i64 x0, .int .i64 x1, .int .i64 x2, .int .i64 x3, .int .i64 x4, .int .i64 x5, .int .i64 x6]) (.int .i64 5)).run Tryd.prog w = .ok (.int .i64 x5) w := by kernel_rfl
theorem ixn6 (x0 x1 x2 x3 x4 x5 x6 : Int) (w : World) : (Instr.index 48 (.agg #[.int .i64 x0, .int .i64 x1, .int .i64 x2, .int .i64 x3, .int .i64 x4, .int .i64 x5, .int .i64 x6]) (.int .i64 6)).run Tryd.prog w = .ok (.int .i64 x6) w := by kernel_rfl
theorem ixb0 (x0 x1 x2 x3 x4 x5 x6 x7 : Int) (w : World) : (Instr.index 52 (.agg #[.int .i64 x0, .int .i64 x1, .int .i64 x2, .int .i64 x3, .int .i64 x4, .int .i64 x5, .int .i64 x6, .int .i64 x7]) (.int .i64 0)).run Tryd.prog w = .ok (.int .i64 x0) w := by kernel_rfl
theorem ixb1 (x0 x1 x2 x3 x4 x5 x6 x7 : Int) (w : World) : (Instr.index 52 (.agg #[.int .i64 x0, .int .i64 x1, .int .i64 x2, .int .i64 x3, .int .i64 x4, .int .i64 x5, .int .i64 x6, .int .i64 x7]) (.int .i64 1)).run Tryd.prog w = .ok (.int .i64 x1) w := by kernel_rfl
theorem ixb2 (x0 x1 x2 x3 x4 x5 x6 x7 : Int) (w : World) : (Instr.index 52 (.agg #[.int .i64 x0, .int .i64 x1, .int .i64 x2, .int .i64 x3, .int .i64 x4, .int .i64 x5, .int .i64 x6, .int .i64 x7]) (.int .i64 2)).run Tryd.prog w = .ok (.int .i64 x2) w := by kernel_rfl
theorem ixb3 (x0 x1 x2 x3 x4 x5 x6 x7 : Int) (w : World) : (Instr.index 52 (.agg #[.int .i64 x0, .int .i64 x1, .int .i64 x2, .int .i64 x3, .int .i64 x4, .int .i64 x5, .int .i64 x6, .int .i64 x7]) (.int .i64 3)).run Tryd.prog w = .ok (.int .i64 x3) w := by kernel_rfl
theorem ixb4 (x0 x1 x2 x3 x4 x5 x6 x7 : Int) (w : World) : (Instr.index 52 (.agg #[.int .i64 x0, .int .i64 x1, .int .i64 x2, .int .i64 x3, .int .i64 x4, .int .i64 x5, .int .i64 x6, .int .i64 x7]) (.int .i64 4)).run Tryd.prog w = .ok (.int .i64 x4) w := by kernel_rfl
theorem ixb5 (x0 x1 x2 x3 x4 x5 x6 x7 : Int) (w : World) : (Instr.index 52 (.agg #[.int .i64 x0, .int .i64 x1, .int .i64 x2, .int .i64 x3, .int .i64 x4, .int .i64 x5, .int .i64 x6, .int .i64 x7]) (.int .i64 5)).run Tryd.prog w = .ok (.int .i64 x5) w := by kernel_rfl
theorem ixb6 (x0 x1 x2 x3 x4 x5 x6 x7 : Int) (w : World) : (Instr.index 52 (.agg #[.int .i64 x0, .int .i64 x1, .int .i64 x2, .int .i64 x3, .int .i64 x4, .int .i64 x5, .int .i64 x6, .int .i64 x7]) (.int .i64 6)).run Tryd.prog w = .ok (.int .i64 x6) w := by kernel_rfl
theorem ixb7 (x0 x1 x2 x3 x4 x5 x6 x7 : Int) (w : World) : (Instr.index 52 (.agg #[.int .i64 x0, .int .i64 x1, .int .i64 x2, .int .i64 x3, .int .i64 x4, .int .i64 x5, .int .i64 x6, .int .i64 x7]) (.int .i64 7)).run Tryd.prog w = .ok (.int .i64 x7) w := by kernel_rfl
theorem index_nums (n : I) (k : Nat) (h : k < 7) (w : World) : (Instr.index 48 (.agg #[.int .i64 n.kind, .int .i64 n.mode, .int .i64 n.uid, .int .i64 n.gid, .int .i64 n.links, .int .i64 n.size, .int .i64 n.tick]) (.int .i64 (k : Int))).run Tryd.prog w = .ok (.int .i64 ((nums n).getD k 0)) w := by
  rcases (show k = 0 ∨ k = 1 ∨ k = 2 ∨ k = 3 ∨ k = 4 ∨ k = 5 ∨ k = 6 from by omega) with rfl | rfl | rfl | rfl | rfl | rfl | rfl
  · exact ixn0 _ _ _ _ _ _ _ w
  · exact ixn1 _ _ _ _ _ _ _ w
  · exact ixn2 _ _ _ _ _ _ _ w
  · exact ixn3 _ _ _ _ _ _ _ w
  · exact ixn4 _ _ _ _ _ _ _ w
  · exact ixn5 _ _ _ _ _ _ _ w
  · exact ixn6 _ _ _ _ _ _ _ w
theorem index_blocks (l : List Int) (k : Nat) (h : k < 8) (w : World) : (Instr.index 52 (arr (fbL l)) (.int .i64 (k : Int))).run Tryd.prog w = .ok (.int .i64 (fbV l k)) w := by
  have e : arr (fbL l) = .agg #[.int .i64 (fbV l 0), .int .i64 (fbV l 1), .int .i64 (fbV l 2), .int .i64 (fbV l 3), .int .i64 (fbV l 4), .int .i64 (fbV l 5), .int .i64 (fbV l 6), .int .i64 (fbV l 7)] := rfl
  rw [e]
  rcases (show k = 0 ∨ k = 1 ∨ k = 2 ∨ k = 3 ∨ k = 4 ∨ k = 5 ∨ k = 6 ∨ k = 7 from by omega) with rfl | rfl | rfl | rfl | rfl | rfl | rfl | rfl
  · exact ixb0 _ _ _ _ _ _ _ _ w
  · exact ixb1 _ _ _ _ _ _ _ _ w
  · exact ixb2 _ _ _ _ _ _ _ _ w
  · exact ixb3 _ _ _ _ _ _ _ _ w
  · exact ixb4 _ _ _ _ _ _ _ _ w
  · exact ixb5 _ _ _ _ _ _ _ _ w
  · exact ixb6 _ _ _ _ _ _ _ _ w
  · exact ixb7 _ _ _ _ _ _ _ _ w
theorem wid_cell {w : World} (h : Vars w) (k : Nat) (hk : k < 7) : w.cell? ⟨0, k * 2, none⟩ = some (.int .i64 (wd.getD k 0)) := by
  rw [h.cell (k * 2) (by omega)]
  rcases (show k = 0 ∨ k = 1 ∨ k = 2 ∨ k = 3 ∨ k = 4 ∨ k = 5 ∨ k = 6 from by omega) with rfl | rfl | rfl | rfl | rfl | rfl | rfl
  all_goals rfl
theorem num_range {n : I} (h : okI n = true) (k : Nat) : -9223372036854775808 ≤ (nums n).getD k 0 ∧ (nums n).getD k 0 ≤ 9223372036854775807 := by
  have f := InoV.ok_nums h
  by_cases hk : k < 7
  · rcases (show k = 0 ∨ k = 1 ∨ k = 2 ∨ k = 3 ∨ k = 4 ∨ k = 5 ∨ k = 6 from by omega) with rfl | rfl | rfl | rfl | rfl | rfl | rfl
    all_goals simp only [nums, List.getD_cons_zero, List.getD_cons_succ]; omega
  · rw [List.getD_eq_getElem?_getD, List.getElem?_eq_none (by simp [nums]; omega)]; decide
theorem cells2_new (w : World) (x y : Value) (T : TypeId) : ∀ j u, [x, y][j]? = some u → (w.alloc (.cells #[x, y] T)).cell? ((⟨w.heap.size, 0, none⟩ : Addr).add j) = some u := by
  intro j u hj
  rw [Addr.add_lit, Nat.zero_add, World.cell?_alloc_at _ _ _ _ rfl]
  simpa using hj

set_option maxRecDepth 100000 in
set_option maxHeartbeats 6400000 in
theorem pack_any (w : World) (v : Value) (n : I) (hc : In.cost n ≤ 1073741824) (hx : ∀ x ∈ n.blocks, Rg x) (hv : InOk.Vars w) (h : In.Holds w v n) :
    Calls Tryd.prog 9 #[v] w fun e w' => e = .returned (.string (packI n)) ∧ Below w.heap.size w w' := by
  have hn1 : n.blocks.length ≤ 1073741824 := Nat.le_trans (In.le_blocks n) hc
  have hn2 : n.acl.length ≤ 1073741824 := Nat.le_trans (In.le_acl n) hc
  have hn3 : n.dflt.length ≤ 1073741824 := Nat.le_trans (In.le_dflt n) hc
  have HIS := Lib.hid (fun W (hb : Below w.heap.size w W) => InOk.is_any W v n hc hx (hv.all hb) (In.holds_below h hb))
  obtain ⟨r0, r1, r2, rfl, g0, g1, g2⟩ := h
  obtain ⟨a, c, rfl⟩ := NiF.form g0
  have H0 := Lib.hid g0
  have H1 := Lib.hid g1
  have H2 := Lib.hid g2
  have HC := Lib.hid (show ∀ i, i < n.blocks.length → ∃ b o, a = some ⟨b, o, none⟩ ∧ b < w.heap.size ∧ w.cell? ⟨b, o + i, none⟩ = some (.int .i64 (n.blocks.getD i 0)) from by
    obtain ⟨a', c', e, hle, hc⟩ := g0
    rw [Value.slice.injEq] at e
    obtain ⟨rfl, _, rfl⟩ := e
    exact hc)
  clear g0 g1 g2
  have HVA := Lib.hid hv
  obtain ⟨i0, hi, hz0, hz1, hz2⟩ := info_parts Strs.strInfo
  have HF0 := Lib.hid hi
  have HF1 := Lib.hid hz0
  have HF2 := Lib.hid hz1
  have HF3 := Lib.hid hz2
  clear hi hz0 hz1 hz2 hv hx
  obtain ⟨L, hL⟩ : ∃ L, L = n.blocks.length := ⟨_, rfl⟩
  rw [← hL] at hn1 HIS H0 ⊢
  have HL := Lib.hid hL
  clear hL
  have HB := Lib.hid ((Below.refl w.heap.size w).alloc (Nat.le_refl _) (.cells #[.int .i64 n.kind, .int .i64 n.mode, .int .i64 n.uid, .int .i64 n.gid, .int .i64 n.links, .int .i64 n.size, .int .i64 n.tick, .slice a L c, r1, r2] 26))
  have HX := Lib.hid (new w #[.int .i64 n.kind, .int .i64 n.mode, .int .i64 n.uid, .int .i64 n.gid, .int .i64 n.links, .int .i64 n.size, .int .i64 n.tick, .slice a L c, r1, r2] 26)
  cases hok : okI n
  · have HV := Lib.hid (InoV.packI_no hok)
    have HIN := Lib.hid (HIS.out _ HB.out)
    have HE := Lib.hid hok
    clear hok
    go_enter Tryd.func9, Tryd.ntmps9
    go_wp2_with fail
    refine HIN.out.mono ?_
    rintro e w1 ⟨rfl, hb⟩
    rw [HE.out]
    replace HB := Lib.hid (HB.out.trans (hb.mono HB.out.size))
    clear hb
    go_wp2
    go_ret
    exact ⟨ret_str HV.out.symm, HB.out⟩
  have HIN := Lib.hid (HIS.out _ HB.out)
  have HE := Lib.hid hok
  have f := InoV.ok_nums hok
  have hb8 := (InoV.ok_blocks hok).2
  have hacl := InoV.ok_acls hok
  have HPA := Lib.hid (AclV.pack_size hacl.1)
  have HPD2 := Lib.hid (AclV.pack_size hacl.2)
  have HFIN := Lib.hid (fin_pack hok)
  have HFS := Lib.hid (fin_size hok)
  have HJC := Lib.hid (joinC hok)
  have HTB := Lib.hid (totB hok 8 (Nat.le_refl _))
  have HNR := Lib.hid (num_range hok)
  have HFV := Lib.hid (fun i => fbV_in hok i)
  have HBR := Lib.hid (blkN_range hok)
  have HAS := Lib.hid (fldA_succ n)
  have HBS := Lib.hid (fldB_succ n)
  have HBZ := Lib.hid (fldB_zero n)
  have HIXN := Lib.hid (index_nums n)
  have HIXB := Lib.hid (index_blocks n.blocks)
  have HFB := Lib.hid (fun W (hb : Below w.heap.size w W) => InSm.first_any W (.slice a L c) n.blocks (by rw [← HL.out]; exact hn1) (NiF.holds_below H0.out hb))
  clear hok hacl f hb8
  go_enter Tryd.func9, Tryd.ntmps9
  go_wp2_with fail
  refine HIN.out.mono ?_
  rintro e w1 ⟨rfl, hb⟩
  rw [HE.out]
  replace HX := Lib.hid (HX.out.all hb)
  replace HB := Lib.hid (HB.out.trans (hb.mono HB.out.size))
  clear hb
  obtain ⟨x0, x1, x2, x3, x4, x5, x6, x7, x8, x9⟩ := Bk.c10 HX.out
  go_wp2_with fail
  refine (InSm.numbers_any _ n _ r1 r2).mono ?_
  rintro e w2 ⟨rfl, hb⟩
  replace HX := Lib.hid (HX.out.all hb)
  replace HB := Lib.hid (HB.out.trans (hb.mono HB.out.size))
  clear hb x0 x1 x2 x3 x4 x5 x6 x7 x8 x9
  have hw2 : w.heap.size < w2.heap.size := HX.out.lt
  obtain ⟨B, hB⟩ : ∃ B, B = w.heap.size + 1 := ⟨_, rfl⟩
  have hB1 : w.heap.size < B := by omega
  have hB2 : B ≤ w2.heap.size := by omega
  clear hB
  go_wp2
  go_loopw [3, 13] (fun sv iv wr => ∃ k : Nat, k ≤ 7 ∧ iv = .int .i64 k ∧ wr.ownsRow B 9 1 sv k ((fldA n k).map Value.string) ∧ Bk wr w.heap.size #[.int .i64 n.kind, .int .i64 n.mode, .int .i64 n.uid, .int .i64 n.gid, .int .i64 n.links, .int .i64 n.size, .int .i64 n.tick, .slice a L c, r1, r2] 26 ∧ B ≤ wr.heap.size ∧ Below w.heap.size w wr) (fun _ iv _ => 7 - (intOf iv).toNat)
  case atStart => exact ⟨0, Nat.zero_le _, rfl, own_nilS _ _ _, HX.out, hB2, HB.out⟩
  case round =>
    obtain ⟨k, hk, rfl, hown, hx, hsB, hbel⟩ := hrel
    replace HB := Lib.hid hbel
    replace HX := Lib.hid hx
    have HOWN := Lib.hid hown
    have hsz := hbel.size
    clear hx hbel hown
    by_cases hlt : k < 7
    · have hixn := HIXN.out k hlt
      have hk7 : (k : Int) < 7 := by omega
      have hvc := wid_cell (HVA.out.all HB.out) k hlt
      have hnr := HNR.out k
      have HNX := Lib.hid (HAS.out k)
      generalize (nums n).getD k 0 = x at hixn hnr HNX
      generalize wd.getD k 0 = y at hvc HNX
      go_wp2_with fail
      refine (PutNumber.impl_any x y _ hnr.1 hnr.2).mono ?_
      rintro e w5 ⟨rfl, hb5⟩
      have hs5 := hb5.size
      generalize Nums.putB x y = P at HNX ⊢
      replace HX := Lib.hid (HX.out.all hb5)
      replace HB := Lib.hid (HB.out.trans (hb5.mono HB.out.size))
      replace HOWN := Lib.hid (Strs.own_below HOWN.out hb5)
      clear hb5 hvc hixn hnr
      go_wp2_with (first | (at_builtin; refine wpList_append_own _ rfl _ _ 57 rfl B 9 i0 (.string ⟨#[]⟩) 1 16 Tryd.underlying57 HF0.out HF1.out HF2.out HF3.out rfl (by decide) _ _ _ rfl (HOWN.out.alloc _) ⟨w5.heap.size, 0, none⟩ 1 1 [.string P] rfl rfl ?c1 ?c2 ?c3 ?c4 ?c5 ?_))
      case c1 => exact InEq.cells1_new _ _ _
      case c2 => simp [Value.oneCell']
      case c3 => unfold maxLen; omega
      case c4 => omega
      case c5 => simp; omega
      intro v' w6 hown1 hg1 _
      have hs6 := hg1.size
      simp only [World.size_alloc] at hs6
      have HO1 := Lib.hid hown1
      have HX1 := Lib.hid ((HX.out.alloc (.cells #[.string P] 9)).grown hg1 (fun e => by have := (HOWN.out.lt w.heap.size e.symm).1; omega))
      have HB1 := Lib.hid ((HB.out.alloc HB.out.size (.cells #[.string P] 9)).grown hg1 (by have := HB.out.size; simp; omega) (fun k hk => by have := (HOWN.out.lt k hk).1; omega))
      clear hown1 hg1
      go_wp2
      go_roundw
      case rel => exact ⟨k + 1, by omega, by go_num, by rw [HNX.out, List.map_append]; exact HO1.out, HX1.out, by omega, HB1.out⟩
      case measure => simp [intOf]; omega
    · obtain rfl : k = 7 := by omega
      obtain ⟨x0, x1, x2, x3, x4, x5, x6, x7, x8, x9⟩ := Bk.c10 HX.out
      have HFBW := Lib.hid (HFB.out wr HB.out)
      unfold arr at HFBW HIXB
      generalize ((fbL n.blocks).map (Value.int .i64)).toArray = AR at HFBW HIXB
      go_wp2_with fail
      refine HFBW.out.mono ?_
      rintro e w5 ⟨rfl, hb5⟩
      have hs5 := hb5.size
      replace HX := Lib.hid (HX.out.all hb5)
      replace HB := Lib.hid (HB.out.trans (hb5.mono HB.out.size))
      replace HOWN := Lib.hid (Strs.own_below HOWN.out hb5)
      have HOZ := Lib.hid (show w5.ownsRow B 9 1 _ (7 + 0) ((fldB n 0).map Value.string) from by rw [HBZ.out]; exact HOWN.out)
      clear hb5 x0 x1 x2 x3 x4 x5 x6 x7 x8 x9
      go_wp2
      go_loopw [3, 30] (fun sv iv wr => ∃ k : Nat, k ≤ 8 ∧ iv = .int .i64 k ∧ wr.ownsRow B 9 1 sv (7 + k) ((fldB n k).map Value.string) ∧ Bk wr w.heap.size #[.int .i64 n.kind, .int .i64 n.mode, .int .i64 n.uid, .int .i64 n.gid, .int .i64 n.links, .int .i64 n.size, .int .i64 n.tick, .slice a L c, r1, r2] 26 ∧ B ≤ wr.heap.size ∧ Below w.heap.size w wr) (fun _ iv _ => 8 - (intOf iv).toNat)
      case atStart => exact ⟨0, Nat.zero_le _, rfl, HOZ.out, HX.out, by omega, HB.out⟩
      case round =>
        obtain ⟨k, hk, rfl, hown, hx, hsB, hbel⟩ := hrel
        replace HB := Lib.hid hbel
        replace HX := Lib.hid hx
        replace HOWN := Lib.hid hown
        have hsz := hbel.size
        clear hx hbel hown
        by_cases hlt : k < 8
        · have hixb := HIXB.out k hlt
          have hk8 : (k : Int) < 8 := by omega
          have hr := HBR.out k
          have HNX := Lib.hid (HBS.out k)
          rw [HFV.out] at hixb HNX
          generalize blkN n k = x at hixb hr HNX
          go_wp2_with fail
          refine (PutNumber.impl_any (x + 1) 2 _ (by omega) (by omega)).mono ?_
          rintro e w5 ⟨rfl, hb5⟩
          have hs5 := hb5.size
          generalize Nums.putB (x + 1) 2 = P at HNX ⊢
          replace HX := Lib.hid (HX.out.all hb5)
          replace HB := Lib.hid (HB.out.trans (hb5.mono HB.out.size))
          replace HOWN := Lib.hid (Strs.own_below HOWN.out hb5)
          clear hb5 hixb hr
          go_wp2_with (first | (at_builtin; refine wpList_append_own _ rfl _ _ 57 rfl B 9 i0 (.string ⟨#[]⟩) 1 16 Tryd.underlying57 HF0.out HF1.out HF2.out HF3.out rfl (by decide) _ _ _ rfl (HOWN.out.alloc _) ⟨w5.heap.size, 0, none⟩ 1 1 [.string P] rfl rfl ?c1 ?c2 ?c3 ?c4 ?c5 ?_))
          case c1 => exact InEq.cells1_new _ _ _
          case c2 => simp [Value.oneCell']
          case c3 => unfold maxLen; omega
          case c4 => omega
          case c5 => simp; omega
          intro v' w6 hown1 hg1 _
          have hs6 := hg1.size
          simp only [World.size_alloc] at hs6
          have HO1 := Lib.hid hown1
          have HX1 := Lib.hid ((HX.out.alloc (.cells #[.string P] 9)).grown hg1 (fun e => by have := (HOWN.out.lt w.heap.size e.symm).1; omega))
          have HB1 := Lib.hid ((HB.out.alloc HB.out.size (.cells #[.string P] 9)).grown hg1 (by have := HB.out.size; simp; omega) (fun k hk => by have := (HOWN.out.lt k hk).1; omega))
          clear hown1 hg1
          go_wp2
          go_roundw
          case rel => exact ⟨k + 1, by omega, by go_num, by rw [HNX.out, List.map_append]; exact HO1.out, HX1.out, by omega, HB1.out⟩
          case measure => simp [intOf]; omega
        · obtain rfl : k = 8 := by omega
          obtain ⟨g, cap, rfl, hbg⟩ := HexOf.own_form HOWN.out (by omega)
          obtain ⟨x0, x1, x2, x3, x4, x5, x6, x7, x8, x9⟩ := Bk.c10 HX.out
          have HA1 := Lib.hid (fun W (hb : Below w.heap.size w W) => AclK.impl_any W r1 n.acl hn2 (Ae.holds_below H1.out hb))
          have HA2 := Lib.hid (fun W (hb : Below w.heap.size w W) => AclK.impl_any W r2 n.dflt hn3 (Ae.holds_below H2.out hb))
          have HJ2 := HJC
          have HTT := Lib.hid (show (fldB n 8 ++ [packV n.acl, packV n.dflt]).length + Strs.total (fldB n 8 ++ [packV n.acl, packV n.dflt]) ≤ 2097152 from by
            have h1 := HTB.out
            have h2 := HPA.out
            have h3 := HPD2.out
            rw [List.length_append, fldB_length, AclK.total_append]
            simp only [Strs.total, List.map_cons, List.map_nil, List.sum_cons, List.sum_nil, List.length_cons, List.length_nil] at h1 ⊢
            omega)
          have HFS2 := HFS
          generalize packV n.acl = P0 at HA1 HJ2 HFIN HTT HFS2
          generalize packV n.dflt = P1 at HA2 HJ2 HFIN HTT HFS2
          have hgl : some w.heap.size ≠ some g := by
            have := (HOWN.out.lt g rfl).1
            simp; omega
          have HO := HOWN
          have hs9 := HX.out.lt
          have hsa : B ≤ wr.heap.size := hsB
          have TK := Lib.hid trivial
          go_wp2
          go_region_held3 (fun wz => wz.cell? ⟨w.heap.size, 8, none⟩ = some r1 ∧ wz.cell? ⟨w.heap.size, 9, none⟩ = some r2) (first | exact ⟨HX.out.cell 8, HX.out.cell 9⟩ | go_keep)
            (first
              | (go_at_call 32; (try (have _q := TK.out; clear _q TK; replace HB := Lib.hid HB.out.drew; replace HX := Lib.hid (Bx.Bk.drew HX.out); replace HO := Lib.hid (Strs.own_below HO.out (Below.refl _ _).drew))); (first | (with_reducible refine (HA1.out _ HB.out).mono ?_) | (with_reducible refine (HA2.out _ HB.out).mono ?_)); rintro e w3 ⟨rfl, hb⟩; replace HX := Lib.hid (Bx.Bk.all HX.out hb); replace HO := Lib.hid (Strs.own_below HO.out hb); replace HB := Lib.hid (HB.out.trans (hb.mono HB.out.size)); have hs3 := hb.size; (try simp only [World.size_drew] at hs3); clear hb)
              | (refine HexOf.step_append_own rfl _ _ 57 rfl B 9 i0 (.string ⟨#[]⟩) 1 16 Tryd.underlying57 HF0.out HF1.out HF2.out HF3.out rfl (by decide) _ _ _ rfl (World.ownsRow.alloc HO.out _) ⟨w3.heap.size, 0, none⟩ 2 2 [.string P0, .string P1] rfl rfl (cells2_new _ _ _ _) (by simp [Value.oneCell']) (by unfold maxLen; omega) (by omega) (by simp; omega) ?_; intro v' w9 hown1 hg1 _; have HO9 := Lib.hid hown1; have HX9 := Lib.hid ((HX.out.alloc (.cells #[.string P0, .string P1] 9)).grown hg1 hgl); have HB9 := Lib.hid ((HB.out.alloc HB.out.size (.cells #[.string P0, .string P1] 9)).grown hg1 (by have := HB.out.size; simp; omega) (fun k hk => by have := (HO.out.lt k hk).1; omega)); replace HX := HX9; clear hown1 hg1))
          all_goals
            clear x0 x1 x2 x3 x4 x5 x6 x7 x8 x9
            have HOL := Lib.hid (show w9.ownsRow B 9 1 _ (fldB n 8 ++ [P0, P1]).length ((fldB n 8 ++ [P0, P1]).map Value.string) from by
              have h := HO9.out
              rw [List.length_append, fldB_length, List.map_append]; exact h)
            have HH := Lib.hid (Strs.holds_of_own HOL.out)
            have HCAP := Lib.hid (Join.cap_of_own HOL.out)
            go_wp2_with fail
            refine (Join.impl_any _ _ (fldB n 8 ++ [P0, P1]) ⟨#[]⟩ (by decide) HTT.out HH.out HCAP.out).mono ?_
            rw [HJ2.out]
            rintro e wa ⟨rfl, hb⟩
            replace HB := Lib.hid (HB9.out.trans (hb.mono HB9.out.size))
            clear hb
            go_wp2_with fail
            refine (PadTo.impl_any _ 96 _ (by rw [HFS2.out]; omega) (by omega)).mono ?_
            rw [HFIN.out]
            rintro e wb ⟨rfl, hb⟩
            replace HB := Lib.hid (HB.out.trans (hb.mono HB.out.size))
            clear hb
            go_wp2
            go_ret
            exact ⟨rfl, HB.out⟩
end Go.Proofs.YthobdeidjagnhaaDoor.InPi

-- YthobdeidjagnhaaDoorInUp
/- Contracts: what UnpackInode is built of: readNumbers, inode, readBlocks, blocks. Conditions: as each theorem types them; the table of the fields reads as it is laid. -/
namespace Go.Proofs.YthobdeidjagnhaaDoor.InUp
open Go.ChangeShapes Go.WideShapes Go.ChangeAt Go.RowKit
open Foot Bx
open InoV (I num readI unpackI packI okI readB needN)
open InOk (Vars)
open GetNumber (seg)
open Nums (getL)
set_option linter.unusedVariables false

theorem fold_lt : ∀ (l : List UInt8) (a : Nat), l.foldl (fun a b => a * 256 + b.toNat) a < (a + 1) * 256 ^ l.length
  | [], a => by simp
  | x :: l, a => by
    have h := fold_lt l (a * 256 + x.toNat)
    have hx := x.toNat_lt
    rw [List.foldl_cons, List.length_cons, Nat.pow_succ, Nat.mul_comm (256 ^ l.length) 256, ← Nat.mul_assoc]
    exact Nat.lt_of_lt_of_le h (Nat.mul_le_mul_right _ (by omega))
theorem getL_lt (s : ByteArray) (a k : Nat) : getL (seg s a k) < 256 ^ k := by
  have h := fold_lt (seg s a k) 0
  have hl : (seg s a k).length ≤ k := by unfold seg; rw [List.length_take]; omega
  have hp : 256 ^ (seg s a k).length ≤ 256 ^ k := Nat.pow_le_pow_right (by omega) hl
  rw [Nat.zero_add, Nat.one_mul] at h
  exact Nat.lt_of_lt_of_le h hp
theorem num_lt (s : ByteArray) (a k : Nat) (h : a + k ≤ s.size) (hk : k ≤ 4) : 0 ≤ num s a k ∧ num s a k < 4294967296 := by
  have h1 := getL_lt s a k
  have h2 : 256 ^ k ≤ 256 ^ 4 := Nat.pow_le_pow_right (by omega) hk
  unfold num
  omega
theorem num2_lt (s : ByteArray) (a : Nat) (h : a + 2 ≤ s.size) : 0 ≤ num s a 2 ∧ num s a 2 < 65536 := by
  have h1 := getL_lt s a 2
  unfold num
  omega
theorem get_impl (s : ByteArray) (a width : Nat) (w : World) (hs : s.size ≤ 1048576) (h1 : 1 ≤ width) (h2 : width ≤ 6) (h : a + width ≤ s.size) :
    Calls Tryd.prog 64 #[.string s, .int .i64 a, .int .i64 width] w fun e w' => e = .returned (.tuple #[.int .i64 (num s a width), .bool true]) ∧ w = w' := GetNumber.impl_yes s a width w hs h1 h2 h
theorem get_spec (s : ByteArray) (a width : Nat) (w : World) (hs : s.size ≤ 1048576) (h1 : 1 ≤ width) (h2 : width ≤ 6) (h : a + width ≤ s.size) :
    Calls Tryd.prog 54 #[.string s, .int .i64 a, .int .i64 width] w fun e w' => e = .returned (.tuple #[.int .i64 (num s a width), .bool true]) ∧ w = w' := GetNumber.spec_yes s a width w hs h1 h2 h
def numV (s : ByteArray) (j : Nat) : Int := num s (([0, 1, 3, 4, 5, 7, 9] : List Nat).getD j 0) (([1, 2, 1, 1, 2, 2, 4] : List Nat).getD j 0)
/-- The numbers with k of them read. -/
def nbR (s : ByteArray) (k : Nat) : List Value := ((List.range k).map fun j => Value.int .i64 (numV s j)) ++ List.replicate (7 - k) (Value.int .i64 0)

set_option maxRecDepth 100000 in
set_option maxHeartbeats 800000 in
theorem inode_any (w : World) (x0 x1 x2 x3 x4 x5 x6 : Int) :
    Calls Tryd.prog 25 #[.agg #[.int .i64 x0, .int .i64 x1, .int .i64 x2, .int .i64 x3, .int .i64 x4, .int .i64 x5, .int .i64 x6]] w fun e w' => e = .returned (.agg #[.int .i64 x0, .int .i64 x1, .int .i64 x2, .int .i64 x3, .int .i64 x4, .int .i64 x5, .int .i64 x6, .slice none 0 0, .slice none 0 0, .slice none 0 0]) ∧ Below w.heap.size w w' := by
  go_enter Tryd.func25, Tryd.ntmps25
  go_wp2
  refine bodyPost_ret (v := .agg #[.int .i64 x0, .int .i64 x1, .int .i64 x2, .int .i64 x3, .int .i64 x4, .int .i64 x5, .int .i64 x6, .slice none 0 0, .slice none 0 0, .slice none 0 0]) (by simp [results, Tryd.results25, go_sem]) rfl ⟨rfl, ?_⟩
  exact ((Below.refl w.heap.size w).alloc (Nat.le_refl _) _).alloc (by simp) _

theorem off_int (k : Nat) : True := trivial
def offV (k : Nat) : Int := (([0, 1, 3, 4, 5, 7, 9, 13] : List Nat).getD k 0 : Nat)
set_option maxRecDepth 100000 in
set_option maxHeartbeats 3200000 in
theorem numbers_any (s : ByteArray) (w : World) (hs : s.size = 96) (hv : Vars w) :
    Calls Tryd.prog 24 #[.string s] w fun e w' => e = .returned (.agg #[.int .i64 (InoV.num s 0 1), .int .i64 (InoV.num s 1 2), .int .i64 (InoV.num s 3 1), .int .i64 (InoV.num s 4 1), .int .i64 (InoV.num s 5 2), .int .i64 (InoV.num s 7 2), .int .i64 (InoV.num s 9 4)]) ∧ Below w.heap.size w w' := by
  have hg0 := fun W => get_impl s 0 1 W (by omega) (by omega) (by omega) (by omega)
  have hg1 := fun W => get_impl s 1 2 W (by omega) (by omega) (by omega) (by omega)
  have hg2 := fun W => get_impl s 3 1 W (by omega) (by omega) (by omega) (by omega)
  have hg3 := fun W => get_impl s 4 1 W (by omega) (by omega) (by omega) (by omega)
  have hg4 := fun W => get_impl s 5 2 W (by omega) (by omega) (by omega) (by omega)
  have hg5 := fun W => get_impl s 7 2 W (by omega) (by omega) (by omega) (by omega)
  have hg6 := fun W => get_impl s 9 4 W (by omega) (by omega) (by omega) (by omega)
  have HG0 := Lib.hid hg0
  clear hg0
  have HG1 := Lib.hid hg1
  clear hg1
  have HG2 := Lib.hid hg2
  clear hg2
  have HG3 := Lib.hid hg3
  clear hg3
  have HG4 := Lib.hid hg4
  clear hg4
  have HG5 := Lib.hid hg5
  clear hg5
  have HG6 := Lib.hid hg6
  clear hg6
  have HS := Lib.hid hs
  have hb0 := ((Below.refl w.heap.size w).alloc (Nat.le_refl _) (.cells #[.int .i64 0, .int .i64 0, .int .i64 0, .int .i64 0, .int .i64 0, .int .i64 0, .int .i64 0] 48)).alloc (by simp) (.cells #[.int .i64 0, .int .i64 0, .int .i64 0, .int .i64 0, .int .i64 0, .int .i64 0, .int .i64 0] 48)
  have HB := Lib.hid hb0
  have HR := Lib.hid ((new w #[.int .i64 0, .int .i64 0, .int .i64 0, .int .i64 0, .int .i64 0, .int .i64 0, .int .i64 0] 48).alloc (.cells #[.int .i64 0, .int .i64 0, .int .i64 0, .int .i64 0, .int .i64 0, .int .i64 0, .int .i64 0] 48))
  have HQ := Lib.hid (show Bk ((w.alloc (.cells #[.int .i64 0, .int .i64 0, .int .i64 0, .int .i64 0, .int .i64 0, .int .i64 0, .int .i64 0] 48)).alloc (.cells #[.int .i64 0, .int .i64 0, .int .i64 0, .int .i64 0, .int .i64 0, .int .i64 0, .int .i64 0] 48)) (w.heap.size + 1) (nbR s 0).toArray 48 from new_at (w.alloc (.cells #[.int .i64 0, .int .i64 0, .int .i64 0, .int .i64 0, .int .i64 0, .int .i64 0, .int .i64 0] 48)) #[.int .i64 0, .int .i64 0, .int .i64 0, .int .i64 0, .int .i64 0, .int .i64 0, .int .i64 0] 48 (w.heap.size + 1) (by simp))
  have hv2 := hv.all hb0
  have c0 : ((w.alloc (.cells #[.int .i64 0, .int .i64 0, .int .i64 0, .int .i64 0, .int .i64 0, .int .i64 0, .int .i64 0] 48)).alloc (.cells #[.int .i64 0, .int .i64 0, .int .i64 0, .int .i64 0, .int .i64 0, .int .i64 0, .int .i64 0] 48)).cell? ⟨0, 0, none⟩ = some (.int .i64 1) := hv2.cell 0 (by decide)
  have c1 : ((w.alloc (.cells #[.int .i64 0, .int .i64 0, .int .i64 0, .int .i64 0, .int .i64 0, .int .i64 0, .int .i64 0] 48)).alloc (.cells #[.int .i64 0, .int .i64 0, .int .i64 0, .int .i64 0, .int .i64 0, .int .i64 0, .int .i64 0] 48)).cell? ⟨0, 1, none⟩ = some (.int .i64 2) := hv2.cell 1 (by decide)
  have c2 : ((w.alloc (.cells #[.int .i64 0, .int .i64 0, .int .i64 0, .int .i64 0, .int .i64 0, .int .i64 0, .int .i64 0] 48)).alloc (.cells #[.int .i64 0, .int .i64 0, .int .i64 0, .int .i64 0, .int .i64 0, .int .i64 0, .int .i64 0] 48)).cell? ⟨0, 2, none⟩ = some (.int .i64 2) := hv2.cell 2 (by decide)
  have c3 : ((w.alloc (.cells #[.int .i64 0, .int .i64 0, .int .i64 0, .int .i64 0, .int .i64 0, .int .i64 0, .int .i64 0] 48)).alloc (.cells #[.int .i64 0, .int .i64 0, .int .i64 0, .int .i64 0, .int .i64 0, .int .i64 0, .int .i64 0] 48)).cell? ⟨0, 3, none⟩ = some (.int .i64 2047) := hv2.cell 3 (by decide)
  have c4 : ((w.alloc (.cells #[.int .i64 0, .int .i64 0, .int .i64 0, .int .i64 0, .int .i64 0, .int .i64 0, .int .i64 0] 48)).alloc (.cells #[.int .i64 0, .int .i64 0, .int .i64 0, .int .i64 0, .int .i64 0, .int .i64 0, .int .i64 0] 48)).cell? ⟨0, 4, none⟩ = some (.int .i64 1) := hv2.cell 4 (by decide)
  have c5 : ((w.alloc (.cells #[.int .i64 0, .int .i64 0, .int .i64 0, .int .i64 0, .int .i64 0, .int .i64 0, .int .i64 0] 48)).alloc (.cells #[.int .i64 0, .int .i64 0, .int .i64 0, .int .i64 0, .int .i64 0, .int .i64 0, .int .i64 0] 48)).cell? ⟨0, 5, none⟩ = some (.int .i64 3) := hv2.cell 5 (by decide)
  have c6 : ((w.alloc (.cells #[.int .i64 0, .int .i64 0, .int .i64 0, .int .i64 0, .int .i64 0, .int .i64 0, .int .i64 0] 48)).alloc (.cells #[.int .i64 0, .int .i64 0, .int .i64 0, .int .i64 0, .int .i64 0, .int .i64 0, .int .i64 0] 48)).cell? ⟨0, 6, none⟩ = some (.int .i64 1) := hv2.cell 6 (by decide)
  have c7 : ((w.alloc (.cells #[.int .i64 0, .int .i64 0, .int .i64 0, .int .i64 0, .int .i64 0, .int .i64 0, .int .i64 0] 48)).alloc (.cells #[.int .i64 0, .int .i64 0, .int .i64 0, .int .i64 0, .int .i64 0, .int .i64 0, .int .i64 0] 48)).cell? ⟨0, 7, none⟩ = some (.int .i64 3) := hv2.cell 7 (by decide)
  have c8 : ((w.alloc (.cells #[.int .i64 0, .int .i64 0, .int .i64 0, .int .i64 0, .int .i64 0, .int .i64 0, .int .i64 0] 48)).alloc (.cells #[.int .i64 0, .int .i64 0, .int .i64 0, .int .i64 0, .int .i64 0, .int .i64 0, .int .i64 0] 48)).cell? ⟨0, 8, none⟩ = some (.int .i64 2) := hv2.cell 8 (by decide)
  have c9 : ((w.alloc (.cells #[.int .i64 0, .int .i64 0, .int .i64 0, .int .i64 0, .int .i64 0, .int .i64 0, .int .i64 0] 48)).alloc (.cells #[.int .i64 0, .int .i64 0, .int .i64 0, .int .i64 0, .int .i64 0, .int .i64 0, .int .i64 0] 48)).cell? ⟨0, 9, none⟩ = some (.int .i64 1000) := hv2.cell 9 (by decide)
  have c10 : ((w.alloc (.cells #[.int .i64 0, .int .i64 0, .int .i64 0, .int .i64 0, .int .i64 0, .int .i64 0, .int .i64 0] 48)).alloc (.cells #[.int .i64 0, .int .i64 0, .int .i64 0, .int .i64 0, .int .i64 0, .int .i64 0, .int .i64 0] 48)).cell? ⟨0, 10, none⟩ = some (.int .i64 2) := hv2.cell 10 (by decide)
  have c11 : ((w.alloc (.cells #[.int .i64 0, .int .i64 0, .int .i64 0, .int .i64 0, .int .i64 0, .int .i64 0, .int .i64 0] 48)).alloc (.cells #[.int .i64 0, .int .i64 0, .int .i64 0, .int .i64 0, .int .i64 0, .int .i64 0, .int .i64 0] 48)).cell? ⟨0, 11, none⟩ = some (.int .i64 256) := hv2.cell 11 (by decide)
  have c12 : ((w.alloc (.cells #[.int .i64 0, .int .i64 0, .int .i64 0, .int .i64 0, .int .i64 0, .int .i64 0, .int .i64 0] 48)).alloc (.cells #[.int .i64 0, .int .i64 0, .int .i64 0, .int .i64 0, .int .i64 0, .int .i64 0, .int .i64 0] 48)).cell? ⟨0, 12, none⟩ = some (.int .i64 4) := hv2.cell 12 (by decide)
  have c13 : ((w.alloc (.cells #[.int .i64 0, .int .i64 0, .int .i64 0, .int .i64 0, .int .i64 0, .int .i64 0, .int .i64 0] 48)).alloc (.cells #[.int .i64 0, .int .i64 0, .int .i64 0, .int .i64 0, .int .i64 0, .int .i64 0, .int .i64 0] 48)).cell? ⟨0, 13, none⟩ = some (.int .i64 1000000000) := hv2.cell 13 (by decide)
  clear hs hv hb0 hv2
  go_enter Tryd.func24, Tryd.ntmps24
  go_wp2
  clear c0 c1 c2 c3 c4 c5 c6 c7 c8 c9 c10 c11 c12 c13
  go_loopw [4, 8] (fun av iv wr => ∃ k : Nat, k ≤ 7 ∧ iv = .int .i64 k ∧ av = .int .i64 (offV k) ∧ Bk wr w.heap.size #[.int .i64 0, .int .i64 0, .int .i64 0, .int .i64 0, .int .i64 0, .int .i64 0, .int .i64 0] 48 ∧ Bk wr (w.heap.size + 1) (nbR s k).toArray 48 ∧ Below w.heap.size w wr) (fun _ iv _ => 7 - (intOf iv).toNat)
  case atStart => exact ⟨0, Nat.zero_le _, rfl, rfl, HR.out, HQ.out, HB.out⟩
  case round =>
    obtain ⟨k, hk, rfl, rfl, hr, hq, hbel⟩ := hrel
    replace HB := Lib.hid hbel
    replace HR := Lib.hid hr
    replace HQ := Lib.hid hq
    have hsz := HQ.out.lt
    clear hr hq hbel
    by_cases hlt : k < 7
    · obtain rfl | rfl | rfl | rfl | rfl | rfl | rfl : k = 0 ∨ k = 1 ∨ k = 2 ∨ k = 3 ∨ k = 4 ∨ k = 5 ∨ k = 6 := by omega
      · have hix := InOk.idx0
        have hq : Bk wr (w.heap.size + 1) #[.int .i64 0, .int .i64 0, .int .i64 0, .int .i64 0, .int .i64 0, .int .i64 0, .int .i64 0] 48 := HQ.out
        have q0 := hq.cell 0
        have f0 := hq.free 0
        have q1 := (hq.put 0 (.int .i64 (InoV.num s 0 1))).alloc (.cells #[.int .i64 1, .int .i64 2] 61)
        have r1 := (HR.out.far (p := ⟨w.heap.size + 1, 0, none⟩) (by simp) (.int .i64 (InoV.num s 0 1))).alloc (.cells #[.int .i64 1, .int .i64 2] 61)
        have b1 := (HB.out.setCell (p := ⟨w.heap.size + 1, 0, none⟩) (by simp) (.int .i64 (InoV.num s 0 1))).alloc (by simp; omega) (.cells #[.int .i64 1, .int .i64 2] 61)
        have HQ1 := Lib.hid q1
        have HR1 := Lib.hid r1
        have HB1 := Lib.hid b1
        clear q1 r1 b1 hq
        rw [show offV 0 = 0 from rfl]
        go_wp2_with fail
        refine (HG0.out _).mono ?_
        rintro e wq ⟨rfl, rfl⟩
        go_wp2
        go_roundw
        case rel => exact ⟨1, by omega, by go_num, by first | rfl | go_num, HR1.out, HQ1.out, HB1.out⟩
        case measure => simp [intOf]
      · have hix := InOk.idx1
        have hq : Bk wr (w.heap.size + 1) #[.int .i64 (InoV.num s 0 1), .int .i64 0, .int .i64 0, .int .i64 0, .int .i64 0, .int .i64 0, .int .i64 0] 48 := HQ.out
        have q0 := hq.cell 1
        have f0 := hq.free 1
        have q1 := (hq.put 1 (.int .i64 (InoV.num s 1 2))).alloc (.cells #[.int .i64 2, .int .i64 2047] 61)
        have r1 := (HR.out.far (p := ⟨w.heap.size + 1, 1, none⟩) (by simp) (.int .i64 (InoV.num s 1 2))).alloc (.cells #[.int .i64 2, .int .i64 2047] 61)
        have b1 := (HB.out.setCell (p := ⟨w.heap.size + 1, 1, none⟩) (by simp) (.int .i64 (InoV.num s 1 2))).alloc (by simp; omega) (.cells #[.int .i64 2, .int .i64 2047] 61)
        have HQ1 := Lib.hid q1
        have HR1 := Lib.hid r1
        have HB1 := Lib.hid b1
        clear q1 r1 b1 hq
        rw [show offV 1 = 1 from rfl]
        go_wp2_with fail
        refine (HG1.out _).mono ?_
        rintro e wq ⟨rfl, rfl⟩
        go_wp2
        go_roundw
        case rel => exact ⟨2, by omega, by go_num, by first | rfl | go_num, HR1.out, HQ1.out, HB1.out⟩
        case measure => simp [intOf]
      · have hix := InOk.idx2
        have hq : Bk wr (w.heap.size + 1) #[.int .i64 (InoV.num s 0 1), .int .i64 (InoV.num s 1 2), .int .i64 0, .int .i64 0, .int .i64 0, .int .i64 0, .int .i64 0] 48 := HQ.out
        have q0 := hq.cell 2
        have f0 := hq.free 2
        have q1 := (hq.put 2 (.int .i64 (InoV.num s 3 1))).alloc (.cells #[.int .i64 1, .int .i64 3] 61)
        have r1 := (HR.out.far (p := ⟨w.heap.size + 1, 2, none⟩) (by simp) (.int .i64 (InoV.num s 3 1))).alloc (.cells #[.int .i64 1, .int .i64 3] 61)
        have b1 := (HB.out.setCell (p := ⟨w.heap.size + 1, 2, none⟩) (by simp) (.int .i64 (InoV.num s 3 1))).alloc (by simp; omega) (.cells #[.int .i64 1, .int .i64 3] 61)
        have HQ1 := Lib.hid q1
        have HR1 := Lib.hid r1
        have HB1 := Lib.hid b1
        clear q1 r1 b1 hq
        rw [show offV 2 = 3 from rfl]
        go_wp2_with fail
        refine (HG2.out _).mono ?_
        rintro e wq ⟨rfl, rfl⟩
        go_wp2
        go_roundw
        case rel => exact ⟨3, by omega, by go_num, by first | rfl | go_num, HR1.out, HQ1.out, HB1.out⟩
        case measure => simp [intOf]
      · have hix := InOk.idx3
        have hq : Bk wr (w.heap.size + 1) #[.int .i64 (InoV.num s 0 1), .int .i64 (InoV.num s 1 2), .int .i64 (InoV.num s 3 1), .int .i64 0, .int .i64 0, .int .i64 0, .int .i64 0] 48 := HQ.out
        have q0 := hq.cell 3
        have f0 := hq.free 3
        have q1 := (hq.put 3 (.int .i64 (InoV.num s 4 1))).alloc (.cells #[.int .i64 1, .int .i64 3] 61)
        have r1 := (HR.out.far (p := ⟨w.heap.size + 1, 3, none⟩) (by simp) (.int .i64 (InoV.num s 4 1))).alloc (.cells #[.int .i64 1, .int .i64 3] 61)
        have b1 := (HB.out.setCell (p := ⟨w.heap.size + 1, 3, none⟩) (by simp) (.int .i64 (InoV.num s 4 1))).alloc (by simp; omega) (.cells #[.int .i64 1, .int .i64 3] 61)
        have HQ1 := Lib.hid q1
        have HR1 := Lib.hid r1
        have HB1 := Lib.hid b1
        clear q1 r1 b1 hq
        rw [show offV 3 = 4 from rfl]
        go_wp2_with fail
        refine (HG3.out _).mono ?_
        rintro e wq ⟨rfl, rfl⟩
        go_wp2
        go_roundw
        case rel => exact ⟨4, by omega, by go_num, by first | rfl | go_num, HR1.out, HQ1.out, HB1.out⟩
        case measure => simp [intOf]
      · have hix := InOk.idx4
        have hq : Bk wr (w.heap.size + 1) #[.int .i64 (InoV.num s 0 1), .int .i64 (InoV.num s 1 2), .int .i64 (InoV.num s 3 1), .int .i64 (InoV.num s 4 1), .int .i64 0, .int .i64 0, .int .i64 0] 48 := HQ.out
        have q0 := hq.cell 4
        have f0 := hq.free 4
        have q1 := (hq.put 4 (.int .i64 (InoV.num s 5 2))).alloc (.cells #[.int .i64 2, .int .i64 1000] 61)
        have r1 := (HR.out.far (p := ⟨w.heap.size + 1, 4, none⟩) (by simp) (.int .i64 (InoV.num s 5 2))).alloc (.cells #[.int .i64 2, .int .i64 1000] 61)
        have b1 := (HB.out.setCell (p := ⟨w.heap.size + 1, 4, none⟩) (by simp) (.int .i64 (InoV.num s 5 2))).alloc (by simp; omega) (.cells #[.int .i64 2, .int .i64 1000] 61)
        have HQ1 := Lib.hid q1
        have HR1 := Lib.hid r1
        have HB1 := Lib.hid b1
        clear q1 r1 b1 hq
        rw [show offV 4 = 5 from rfl]
        go_wp2_with fail
        refine (HG4.out _).mono ?_
        rintro e wq ⟨rfl, rfl⟩
        go_wp2
        go_roundw
        case rel => exact ⟨5, by omega, by go_num, by first | rfl | go_num, HR1.out, HQ1.out, HB1.out⟩
        case measure => simp [intOf]
      · have hix := InOk.idx5
        have hq : Bk wr (w.heap.size + 1) #[.int .i64 (InoV.num s 0 1), .int .i64 (InoV.num s 1 2), .int .i64 (InoV.num s 3 1), .int .i64 (InoV.num s 4 1), .int .i64 (InoV.num s 5 2), .int .i64 0, .int .i64 0] 48 := HQ.out
        have q0 := hq.cell 5
        have f0 := hq.free 5
        have q1 := (hq.put 5 (.int .i64 (InoV.num s 7 2))).alloc (.cells #[.int .i64 2, .int .i64 256] 61)
        have r1 := (HR.out.far (p := ⟨w.heap.size + 1, 5, none⟩) (by simp) (.int .i64 (InoV.num s 7 2))).alloc (.cells #[.int .i64 2, .int .i64 256] 61)
        have b1 := (HB.out.setCell (p := ⟨w.heap.size + 1, 5, none⟩) (by simp) (.int .i64 (InoV.num s 7 2))).alloc (by simp; omega) (.cells #[.int .i64 2, .int .i64 256] 61)
        have HQ1 := Lib.hid q1
        have HR1 := Lib.hid r1
        have HB1 := Lib.hid b1
        clear q1 r1 b1 hq
        rw [show offV 5 = 7 from rfl]
        go_wp2_with fail
        refine (HG5.out _).mono ?_
        rintro e wq ⟨rfl, rfl⟩
        go_wp2
        go_roundw
        case rel => exact ⟨6, by omega, by go_num, by first | rfl | go_num, HR1.out, HQ1.out, HB1.out⟩
        case measure => simp [intOf]
      · have hix := InOk.idx6
        have hq : Bk wr (w.heap.size + 1) #[.int .i64 (InoV.num s 0 1), .int .i64 (InoV.num s 1 2), .int .i64 (InoV.num s 3 1), .int .i64 (InoV.num s 4 1), .int .i64 (InoV.num s 5 2), .int .i64 (InoV.num s 7 2), .int .i64 0] 48 := HQ.out
        have q0 := hq.cell 6
        have f0 := hq.free 6
        have q1 := (hq.put 6 (.int .i64 (InoV.num s 9 4))).alloc (.cells #[.int .i64 4, .int .i64 1000000000] 61)
        have r1 := (HR.out.far (p := ⟨w.heap.size + 1, 6, none⟩) (by simp) (.int .i64 (InoV.num s 9 4))).alloc (.cells #[.int .i64 4, .int .i64 1000000000] 61)
        have b1 := (HB.out.setCell (p := ⟨w.heap.size + 1, 6, none⟩) (by simp) (.int .i64 (InoV.num s 9 4))).alloc (by simp; omega) (.cells #[.int .i64 4, .int .i64 1000000000] 61)
        have HQ1 := Lib.hid q1
        have HR1 := Lib.hid r1
        have HB1 := Lib.hid b1
        clear q1 r1 b1 hq
        rw [show offV 6 = 9 from rfl]
        go_wp2_with fail
        refine (HG6.out _).mono ?_
        rintro e wq ⟨rfl, rfl⟩
        go_wp2
        go_roundw
        case rel => exact ⟨7, by omega, by go_num, by first | rfl | go_num, HR1.out, HQ1.out, HB1.out⟩
        case measure => simp [intOf]
    · obtain rfl : k = 7 := by omega
      have hq : Bk wr (w.heap.size + 1) #[.int .i64 (InoV.num s 0 1), .int .i64 (InoV.num s 1 2), .int .i64 (InoV.num s 3 1), .int .i64 (InoV.num s 4 1), .int .i64 (InoV.num s 5 2), .int .i64 (InoV.num s 7 2), .int .i64 (InoV.num s 9 4)] 48 := HQ.out
      obtain ⟨q0, q1, q2, q3, q4, q5, q6⟩ := hq.c7
      obtain ⟨z0, z1, z2, z3, z4, z5, z6⟩ := HR.out.c7
      have e0 := HR.out.free 0
      have e1 := HR.out.free 1
      have e2 := HR.out.free 2
      have e3 := HR.out.free 3
      have e4 := HR.out.free 4
      have e5 := HR.out.free 5
      have e6 := HR.out.free 6
      go_wp2_with fail
      have hF0 := HR.out
      have hF1 : Bk _ _ #[.int .i64 (InoV.num s 0 1), .int .i64 0, .int .i64 0, .int .i64 0, .int .i64 0, .int .i64 0, .int .i64 0] _ := hF0.put 0 (.int .i64 (InoV.num s 0 1))
      clear hF0
      have hF2 : Bk _ _ #[.int .i64 (InoV.num s 0 1), .int .i64 (InoV.num s 1 2), .int .i64 0, .int .i64 0, .int .i64 0, .int .i64 0, .int .i64 0] _ := hF1.put 1 (.int .i64 (InoV.num s 1 2))
      clear hF1
      have hF3 : Bk _ _ #[.int .i64 (InoV.num s 0 1), .int .i64 (InoV.num s 1 2), .int .i64 (InoV.num s 3 1), .int .i64 0, .int .i64 0, .int .i64 0, .int .i64 0] _ := hF2.put 2 (.int .i64 (InoV.num s 3 1))
      clear hF2
      have hF4 : Bk _ _ #[.int .i64 (InoV.num s 0 1), .int .i64 (InoV.num s 1 2), .int .i64 (InoV.num s 3 1), .int .i64 (InoV.num s 4 1), .int .i64 0, .int .i64 0, .int .i64 0] _ := hF3.put 3 (.int .i64 (InoV.num s 4 1))
      clear hF3
      have hF5 : Bk _ _ #[.int .i64 (InoV.num s 0 1), .int .i64 (InoV.num s 1 2), .int .i64 (InoV.num s 3 1), .int .i64 (InoV.num s 4 1), .int .i64 (InoV.num s 5 2), .int .i64 0, .int .i64 0] _ := hF4.put 4 (.int .i64 (InoV.num s 5 2))
      clear hF4
      have hF6 : Bk _ _ #[.int .i64 (InoV.num s 0 1), .int .i64 (InoV.num s 1 2), .int .i64 (InoV.num s 3 1), .int .i64 (InoV.num s 4 1), .int .i64 (InoV.num s 5 2), .int .i64 (InoV.num s 7 2), .int .i64 0] _ := hF5.put 5 (.int .i64 (InoV.num s 7 2))
      clear hF5
      have hF7 : Bk _ _ #[.int .i64 (InoV.num s 0 1), .int .i64 (InoV.num s 1 2), .int .i64 (InoV.num s 3 1), .int .i64 (InoV.num s 4 1), .int .i64 (InoV.num s 5 2), .int .i64 (InoV.num s 7 2), .int .i64 (InoV.num s 9 4)] _ := hF6.put 6 (.int .i64 (InoV.num s 9 4))
      clear hF6
      have hB9 := (((((((HB.out.setCell (p := ⟨w.heap.size, 0, none⟩) (Nat.le_refl _) (.int .i64 (InoV.num s 0 1))).setCell (p := ⟨w.heap.size, 1, none⟩) (Nat.le_refl _) (.int .i64 (InoV.num s 1 2))).setCell (p := ⟨w.heap.size, 2, none⟩) (Nat.le_refl _) (.int .i64 (InoV.num s 3 1))).setCell (p := ⟨w.heap.size, 3, none⟩) (Nat.le_refl _) (.int .i64 (InoV.num s 4 1))).setCell (p := ⟨w.heap.size, 4, none⟩) (Nat.le_refl _) (.int .i64 (InoV.num s 5 2))).setCell (p := ⟨w.heap.size, 5, none⟩) (Nat.le_refl _) (.int .i64 (InoV.num s 7 2))).setCell (p := ⟨w.heap.size, 6, none⟩) (Nat.le_refl _) (.int .i64 (InoV.num s 9 4)))
      generalize (((((((wr.setCell ⟨w.heap.size, 0, none⟩ (.int .i64 (InoV.num s 0 1))).setCell ⟨w.heap.size, 1, none⟩ (.int .i64 (InoV.num s 1 2))).setCell ⟨w.heap.size, 2, none⟩ (.int .i64 (InoV.num s 3 1))).setCell ⟨w.heap.size, 3, none⟩ (.int .i64 (InoV.num s 4 1))).setCell ⟨w.heap.size, 4, none⟩ (.int .i64 (InoV.num s 5 2))).setCell ⟨w.heap.size, 5, none⟩ (.int .i64 (InoV.num s 7 2))).setCell ⟨w.heap.size, 6, none⟩ (.int .i64 (InoV.num s 9 4))) = w9 at hF7 hB9 ⊢
      have fc0 : w9.cell? ⟨w.heap.size, 0, none⟩ = some (.int .i64 (InoV.num s 0 1)) := hF7.cell 0
      have fc1 : w9.cell? ⟨w.heap.size, 1, none⟩ = some (.int .i64 (InoV.num s 1 2)) := hF7.cell 1
      have fc2 : w9.cell? ⟨w.heap.size, 2, none⟩ = some (.int .i64 (InoV.num s 3 1)) := hF7.cell 2
      have fc3 : w9.cell? ⟨w.heap.size, 3, none⟩ = some (.int .i64 (InoV.num s 4 1)) := hF7.cell 3
      have fc4 : w9.cell? ⟨w.heap.size, 4, none⟩ = some (.int .i64 (InoV.num s 5 2)) := hF7.cell 4
      have fc5 : w9.cell? ⟨w.heap.size, 5, none⟩ = some (.int .i64 (InoV.num s 7 2)) := hF7.cell 5
      have fc6 : w9.cell? ⟨w.heap.size, 6, none⟩ = some (.int .i64 (InoV.num s 9 4)) := hF7.cell 6
      exact bodyPost_ret (v := .agg #[.int .i64 (InoV.num s 0 1), .int .i64 (InoV.num s 1 2), .int .i64 (InoV.num s 3 1), .int .i64 (InoV.num s 4 1), .int .i64 (InoV.num s 5 2), .int .i64 (InoV.num s 7 2), .int .i64 (InoV.num s 9 4)]) (by simp [results, Tryd.results24, go_sem, fc0, fc1, fc2, fc3, fc4, fc5, fc6]) rfl ⟨rfl, hB9⟩

/-- The array of the blocks with i of them read. -/
def bkV (s : ByteArray) (j : Nat) : Int := num s (13 + 2 * j) 2
def bkR (s : ByteArray) (i : Nat) : List Value := (List.range 8).map fun j => Value.int .i64 (if j < i then bkV s j else 0)
def bkL (s : ByteArray) : List Int := (List.range 8).map (bkV s)
theorem bkR_length (s : ByteArray) (i : Nat) : (bkR s i).length = 8 := by simp [bkR]
theorem bkR_at (s : ByteArray) (i j : Nat) (h : j < 8) : (bkR s i)[j]? = some (.int .i64 (if j < i then bkV s j else 0)) := by
  simp [bkR, List.getElem?_map, List.getElem?_range h]
theorem bkR_set (s : ByteArray) (i : Nat) (h : i < 8) : (bkR s i).set i (.int .i64 (bkV s i)) = bkR s (i + 1) := by
  refine List.ext_getElem? fun j => ?_
  by_cases hj : j < 8
  · rw [List.getElem?_set, bkR_at s (i + 1) j hj, bkR_length]
    by_cases hij : i = j
    · subst hij
      simp [h]
    · rw [if_neg hij, bkR_at s i j hj]
      by_cases h1 : j < i
      · rw [if_pos h1, if_pos (by omega)]
      · rw [if_neg h1, if_neg (by omega)]
  · rw [List.getElem?_eq_none (by rw [List.length_set, bkR_length]; omega), List.getElem?_eq_none (by rw [bkR_length]; omega)]
set_option maxRecDepth 100000 in
set_option maxHeartbeats 3200000 in
theorem blocks_any (s : ByteArray) (w : World) (hs : s.size = 96) :
    Calls Tryd.prog 26 #[.string s] w fun e w' => e = .returned (.agg #[.int .i64 (bkV s 0), .int .i64 (bkV s 1), .int .i64 (bkV s 2), .int .i64 (bkV s 3), .int .i64 (bkV s 4), .int .i64 (bkV s 5), .int .i64 (bkV s 6), .int .i64 (bkV s 7)]) ∧ Below w.heap.size w w' := by
  have HG := Lib.hid (fun (k : Nat) (hk : k < 8) W => get_impl s (13 + 2 * k) 2 W (by omega) (by omega) (by omega) (by omega))
  have HSET := Lib.hid (bkR_set s)
  have HAT := Lib.hid (bkR_at s)
  have HB := Lib.hid (((Below.refl w.heap.size w).alloc (Nat.le_refl _) (.cells #[.int .i64 0, .int .i64 0, .int .i64 0, .int .i64 0, .int .i64 0, .int .i64 0, .int .i64 0, .int .i64 0] 52)).alloc (by simp) (.cells #[.int .i64 0, .int .i64 0, .int .i64 0, .int .i64 0, .int .i64 0, .int .i64 0, .int .i64 0, .int .i64 0] 52))
  have HR := Lib.hid ((new w #[.int .i64 0, .int .i64 0, .int .i64 0, .int .i64 0, .int .i64 0, .int .i64 0, .int .i64 0, .int .i64 0] 52).alloc (.cells #[.int .i64 0, .int .i64 0, .int .i64 0, .int .i64 0, .int .i64 0, .int .i64 0, .int .i64 0, .int .i64 0] 52))
  have HQ := Lib.hid (show Bk ((w.alloc (.cells #[.int .i64 0, .int .i64 0, .int .i64 0, .int .i64 0, .int .i64 0, .int .i64 0, .int .i64 0, .int .i64 0] 52)).alloc (.cells #[.int .i64 0, .int .i64 0, .int .i64 0, .int .i64 0, .int .i64 0, .int .i64 0, .int .i64 0, .int .i64 0] 52)) (w.heap.size + 1) (bkR s 0).toArray 52 from new_at (w.alloc (.cells #[.int .i64 0, .int .i64 0, .int .i64 0, .int .i64 0, .int .i64 0, .int .i64 0, .int .i64 0, .int .i64 0] 52)) #[.int .i64 0, .int .i64 0, .int .i64 0, .int .i64 0, .int .i64 0, .int .i64 0, .int .i64 0, .int .i64 0] 52 (w.heap.size + 1) (by simp))
  clear hs
  go_enter Tryd.func26, Tryd.ntmps26
  go_wp2
  go_loopw [5] (fun iv wr => ∃ i : Nat, i ≤ 8 ∧ iv = .int .i64 i ∧ Bk wr w.heap.size #[.int .i64 0, .int .i64 0, .int .i64 0, .int .i64 0, .int .i64 0, .int .i64 0, .int .i64 0, .int .i64 0] 52 ∧ Bk wr (w.heap.size + 1) (bkR s i).toArray 52 ∧ Below w.heap.size w wr) (fun iv _ => 8 - (intOf iv).toNat)
  case atStart => exact ⟨0, Nat.zero_le _, rfl, HR.out, HQ.out, HB.out⟩
  case round =>
    obtain ⟨i, hi, rfl, hr, hq, hbel⟩ := hrel
    replace HB := Lib.hid hbel
    replace HR := Lib.hid hr
    replace HQ := Lib.hid hq
    clear hr hq hbel
    by_cases hlt : i < 8
    · have h8 : (i : Int) < 8 := by omega
      have hget := HG.out i hlt
      rw [show (((13 + 2 * i : Nat)) : Int) = 13 + (i : Int) * 2 from by omega] at hget
      have hq1 := HQ.out.cell i
      rw [List.getElem?_toArray, HAT.out i i (by omega), if_neg (Nat.lt_irrefl i)] at hq1
      have hf1 := HQ.out.free i
      have hn := HQ.out.put i (.int .i64 (bkV s i))
      rw [HSET.out i (by omega)] at hn
      have hrn := HR.out.far (p := ⟨w.heap.size + 1, i, none⟩) (by simp) (.int .i64 (bkV s i))
      have hbn := HB.out.setCell (p := ⟨w.heap.size + 1, i, none⟩) (by simp) (.int .i64 (bkV s i))
      have HN := Lib.hid hn
      have HRN := Lib.hid hrn
      have HBN := Lib.hid hbn
      clear hn hrn hbn
      change ∀ W, Calls Tryd.prog _ _ W fun e w' => e = .returned (.tuple #[.int .i64 (bkV s i), .bool true]) ∧ W = w' at hget
      have HGET := Lib.hid hget
      clear hget
      generalize bkV s i = y at HGET HN HRN HBN
      go_wp2_with fail
      refine (HGET.out _).mono ?_
      rintro e wq ⟨rfl, rfl⟩
      go_wp2
      go_roundw
      case rel => exact ⟨i + 1, by omega, by go_num, HRN.out, HN.out, HBN.out⟩
      case measure => simp [intOf]; omega
    · obtain rfl : i = 8 := by omega
      have hq : Bk wr (w.heap.size + 1) #[.int .i64 (bkV s 0), .int .i64 (bkV s 1), .int .i64 (bkV s 2), .int .i64 (bkV s 3), .int .i64 (bkV s 4), .int .i64 (bkV s 5), .int .i64 (bkV s 6), .int .i64 (bkV s 7)] 52 := HQ.out
      obtain ⟨q0, q1, q2, q3, q4, q5, q6, q7⟩ := hq.c8
      obtain ⟨z0, z1, z2, z3, z4, z5, z6, z7⟩ := HR.out.c8
      have e0 := HR.out.free 0
      have e1 := HR.out.free 1
      have e2 := HR.out.free 2
      have e3 := HR.out.free 3
      have e4 := HR.out.free 4
      have e5 := HR.out.free 5
      have e6 := HR.out.free 6
      have e7 := HR.out.free 7
      go_wp2_with fail
      have hF0 := HR.out
      have hF1 : Bk _ _ #[.int .i64 (bkV s 0), .int .i64 0, .int .i64 0, .int .i64 0, .int .i64 0, .int .i64 0, .int .i64 0, .int .i64 0] _ := hF0.put 0 (.int .i64 (bkV s 0))
      clear hF0
      have hF2 : Bk _ _ #[.int .i64 (bkV s 0), .int .i64 (bkV s 1), .int .i64 0, .int .i64 0, .int .i64 0, .int .i64 0, .int .i64 0, .int .i64 0] _ := hF1.put 1 (.int .i64 (bkV s 1))
      clear hF1
      have hF3 : Bk _ _ #[.int .i64 (bkV s 0), .int .i64 (bkV s 1), .int .i64 (bkV s 2), .int .i64 0, .int .i64 0, .int .i64 0, .int .i64 0, .int .i64 0] _ := hF2.put 2 (.int .i64 (bkV s 2))
      clear hF2
      have hF4 : Bk _ _ #[.int .i64 (bkV s 0), .int .i64 (bkV s 1), .int .i64 (bkV s 2), .int .i64 (bkV s 3), .int .i64 0, .int .i64 0, .int .i64 0, .int .i64 0] _ := hF3.put 3 (.int .i64 (bkV s 3))
      clear hF3
      have hF5 : Bk _ _ #[.int .i64 (bkV s 0), .int .i64 (bkV s 1), .int .i64 (bkV s 2), .int .i64 (bkV s 3), .int .i64 (bkV s 4), .int .i64 0, .int .i64 0, .int .i64 0] _ := hF4.put 4 (.int .i64 (bkV s 4))
      clear hF4
      have hF6 : Bk _ _ #[.int .i64 (bkV s 0), .int .i64 (bkV s 1), .int .i64 (bkV s 2), .int .i64 (bkV s 3), .int .i64 (bkV s 4), .int .i64 (bkV s 5), .int .i64 0, .int .i64 0] _ := hF5.put 5 (.int .i64 (bkV s 5))
      clear hF5
      have hF7 : Bk _ _ #[.int .i64 (bkV s 0), .int .i64 (bkV s 1), .int .i64 (bkV s 2), .int .i64 (bkV s 3), .int .i64 (bkV s 4), .int .i64 (bkV s 5), .int .i64 (bkV s 6), .int .i64 0] _ := hF6.put 6 (.int .i64 (bkV s 6))
      clear hF6
      have hF8 : Bk _ _ #[.int .i64 (bkV s 0), .int .i64 (bkV s 1), .int .i64 (bkV s 2), .int .i64 (bkV s 3), .int .i64 (bkV s 4), .int .i64 (bkV s 5), .int .i64 (bkV s 6), .int .i64 (bkV s 7)] _ := hF7.put 7 (.int .i64 (bkV s 7))
      clear hF7
      have hB9 := ((((((((HB.out.setCell (p := ⟨w.heap.size, 0, none⟩) (Nat.le_refl _) (.int .i64 (bkV s 0))).setCell (p := ⟨w.heap.size, 1, none⟩) (Nat.le_refl _) (.int .i64 (bkV s 1))).setCell (p := ⟨w.heap.size, 2, none⟩) (Nat.le_refl _) (.int .i64 (bkV s 2))).setCell (p := ⟨w.heap.size, 3, none⟩) (Nat.le_refl _) (.int .i64 (bkV s 3))).setCell (p := ⟨w.heap.size, 4, none⟩) (Nat.le_refl _) (.int .i64 (bkV s 4))).setCell (p := ⟨w.heap.size, 5, none⟩) (Nat.le_refl _) (.int .i64 (bkV s 5))).setCell (p := ⟨w.heap.size, 6, none⟩) (Nat.le_refl _) (.int .i64 (bkV s 6))).setCell (p := ⟨w.heap.size, 7, none⟩) (Nat.le_refl _) (.int .i64 (bkV s 7)))
      generalize ((((((((wr.setCell ⟨w.heap.size, 0, none⟩ (.int .i64 (bkV s 0))).setCell ⟨w.heap.size, 1, none⟩ (.int .i64 (bkV s 1))).setCell ⟨w.heap.size, 2, none⟩ (.int .i64 (bkV s 2))).setCell ⟨w.heap.size, 3, none⟩ (.int .i64 (bkV s 3))).setCell ⟨w.heap.size, 4, none⟩ (.int .i64 (bkV s 4))).setCell ⟨w.heap.size, 5, none⟩ (.int .i64 (bkV s 5))).setCell ⟨w.heap.size, 6, none⟩ (.int .i64 (bkV s 6))).setCell ⟨w.heap.size, 7, none⟩ (.int .i64 (bkV s 7))) = w9 at hF8 hB9 ⊢
      have fc0 : w9.cell? ⟨w.heap.size, 0, none⟩ = some (.int .i64 (bkV s 0)) := hF8.cell 0
      have fc1 : w9.cell? ⟨w.heap.size, 1, none⟩ = some (.int .i64 (bkV s 1)) := hF8.cell 1
      have fc2 : w9.cell? ⟨w.heap.size, 2, none⟩ = some (.int .i64 (bkV s 2)) := hF8.cell 2
      have fc3 : w9.cell? ⟨w.heap.size, 3, none⟩ = some (.int .i64 (bkV s 3)) := hF8.cell 3
      have fc4 : w9.cell? ⟨w.heap.size, 4, none⟩ = some (.int .i64 (bkV s 4)) := hF8.cell 4
      have fc5 : w9.cell? ⟨w.heap.size, 5, none⟩ = some (.int .i64 (bkV s 5)) := hF8.cell 5
      have fc6 : w9.cell? ⟨w.heap.size, 6, none⟩ = some (.int .i64 (bkV s 6)) := hF8.cell 6
      have fc7 : w9.cell? ⟨w.heap.size, 7, none⟩ = some (.int .i64 (bkV s 7)) := hF8.cell 7
      exact bodyPost_ret (v := .agg #[.int .i64 (bkV s 0), .int .i64 (bkV s 1), .int .i64 (bkV s 2), .int .i64 (bkV s 3), .int .i64 (bkV s 4), .int .i64 (bkV s 5), .int .i64 (bkV s 6), .int .i64 (bkV s 7)]) (by simp [results, Tryd.results26, go_sem, fc0, fc1, fc2, fc3, fc4, fc5, fc6, fc7]) rfl ⟨rfl, hB9⟩

def predL (l : List Int) (k : Nat) : List Int := (l.take k).map (· - 1)
theorem pred_succ {l : List Int} {k : Nat} (h : k < l.length) : predL l (k + 1) = predL l k ++ [l.getD k 0 - 1] := by
  unfold predL
  rw [List.take_succ_eq_append_getElem h, List.map_append, List.getD_eq_getElem?_getD, List.getElem?_eq_getElem h]; rfl
theorem pred_length {l : List Int} {k : Nat} (h : k ≤ l.length) : (predL l k).length = k := by
  unfold predL
  rw [List.length_map, List.length_take]; omega
set_option maxRecDepth 100000 in
set_option maxHeartbeats 3200000 in
theorem list_any (w : World) (y0 y1 y2 y3 y4 y5 y6 y7 n : Int) (h0 : 0 ≤ n) (hn : n ≤ 4611686018427387904) (hy : ∀ y ∈ [y0, y1, y2, y3, y4, y5, y6, y7], 0 ≤ y ∧ y < 65536) :
    Calls Tryd.prog 27 #[.agg #[.int .i64 y0, .int .i64 y1, .int .i64 y2, .int .i64 y3, .int .i64 y4, .int .i64 y5, .int .i64 y6, .int .i64 y7], .int .i64 n] w fun e w' => ∃ v S, e = .returned v ∧ NiF.Own w' w.heap.size v (predL [y0, y1, y2, y3, y4, y5, y6, y7] (min n.toNat 8)) S ∧ Below w.heap.size w w' := by
  obtain ⟨i0, hi, hz0, hz1, hz2⟩ := info_parts Ni.intInfo
  have HF0 := Lib.hid hi
  have HF1 := Lib.hid hz0
  have HF2 := Lib.hid hz1
  have HF3 := Lib.hid hz2
  clear hi hz0 hz1 hz2
  obtain ⟨N, rfl⟩ := Int.eq_ofNat_of_zero_le h0
  rw [Int.toNat_natCast]
  have HY := Lib.hid (show ∀ k, k < 8 → 0 ≤ ([y0, y1, y2, y3, y4, y5, y6, y7] : List Int).getD k 0 ∧ ([y0, y1, y2, y3, y4, y5, y6, y7] : List Int).getD k 0 < 65536 from fun k hk => hy _ (InSm.mem_getD (by simpa using hk)))
  have HPS := Lib.hid (fun k (hk : k < 8) => pred_succ (l := [y0, y1, y2, y3, y4, y5, y6, y7]) (k := k) (by simpa using hk))
  have HPL := Lib.hid (fun k (hk : k ≤ 8) => pred_length (l := [y0, y1, y2, y3, y4, y5, y6, y7]) (k := k) (by simpa using hk))
  clear hy h0
  have HB := Lib.hid ((Below.refl w.heap.size w).alloc (Nat.le_refl _) (.cells #[.int .i64 y0, .int .i64 y1, .int .i64 y2, .int .i64 y3, .int .i64 y4, .int .i64 y5, .int .i64 y6, .int .i64 y7] 52))
  have HX := Lib.hid (new w #[.int .i64 y0, .int .i64 y1, .int .i64 y2, .int .i64 y3, .int .i64 y4, .int .i64 y5, .int .i64 y6, .int .i64 y7] 52)
  have HCE := Lib.hid (show ∀ (W : World), Bk W w.heap.size #[.int .i64 y0, .int .i64 y1, .int .i64 y2, .int .i64 y3, .int .i64 y4, .int .i64 y5, .int .i64 y6, .int .i64 y7] 52 → ∀ k, k < 8 → W.cell? ⟨w.heap.size, k, none⟩ = some (.int .i64 (([y0, y1, y2, y3, y4, y5, y6, y7] : List Int).getD k 0)) from fun W h k hk => by
    rcases (show k = 0 ∨ k = 1 ∨ k = 2 ∨ k = 3 ∨ k = 4 ∨ k = 5 ∨ k = 6 ∨ k = 7 from by omega) with rfl | rfl | rfl | rfl | rfl | rfl | rfl | rfl
    all_goals exact h.cell _)
  obtain ⟨B, hB⟩ : ∃ B, B = w.heap.size + 1 := ⟨_, rfl⟩
  have hB1 : w.heap.size < B := by omega
  have hB2 : B ≤ (w.alloc (.cells #[.int .i64 y0, .int .i64 y1, .int .i64 y2, .int .i64 y3, .int .i64 y4, .int .i64 y5, .int .i64 y6, .int .i64 y7] 52)).heap.size := by simp; omega
  clear hB
  by_cases hN : N ≤ 8
  · have hle8 : (N : Int) ≤ 8 := by omega
    rw [show min N 8 = N by omega]
    have hmin : min (N : Int) 8 = N := by omega
    have hal : (Tryd.prog.arrayLen 52) = 8 := by kernel_rfl
    clear hN
    go_enter Tryd.func27, Tryd.ntmps27
    go_wp2
    go_loopw [5, 12] (fun sv iv wr => ∃ k : Nat, k ≤ N ∧ iv = .int .i64 k ∧ wr.ownsRow B 3 1 sv k (NiF.cells (predL [y0, y1, y2, y3, y4, y5, y6, y7] k)) ∧ Bk wr w.heap.size #[.int .i64 y0, .int .i64 y1, .int .i64 y2, .int .i64 y3, .int .i64 y4, .int .i64 y5, .int .i64 y6, .int .i64 y7] 52 ∧ B ≤ wr.heap.size ∧ Below w.heap.size w wr) (fun _ iv _ => N - (intOf iv).toNat)
    case atStart => exact ⟨0, Nat.zero_le _, rfl, InEq.own_nil1 _ _ _, HX.out, hB2, HB.out⟩
    case round =>
      obtain ⟨k, hk, rfl, hown, hx, hsB, hbel⟩ := hrel
      replace HB := Lib.hid hbel
      replace HX := Lib.hid hx
      have HOWN := Lib.hid hown
      have hsz := hbel.size
      clear hx hbel hown
      by_cases hlt : k < N
      · have hk8 : (k : Int) < 8 := by omega
        have g0 := HCE.out wr HX.out k (by omega)
        have hyr := HY.out k (by omega)
        have HNX := Lib.hid (HPS.out k (by omega))
        generalize ([y0, y1, y2, y3, y4, y5, y6, y7] : List Int).getD k 0 = y at g0 hyr HNX
        go_wp2_with (first | (at_builtin; refine wpList_append_own _ rfl _ _ 23 rfl B 3 i0 (.int .i64 0) 1 8 Tryd.underlying23 HF0.out HF1.out HF2.out HF3.out rfl (by decide) _ _ _ rfl (HOWN.out.alloc _) ⟨wr.heap.size, 0, none⟩ 1 1 [.int .i64 (y - 1)] rfl rfl ?c1 ?c2 ?c3 ?c4 ?c5 ?_))
        case c1 => exact InEq.cells1_new _ _ _
        case c2 => simp [Value.oneCell']
        case c3 => unfold maxLen; omega
        case c4 => omega
        case c5 => simp; omega
        intro v' w6 hown1 hg1 _
        have hs6 := hg1.size
        simp only [World.size_alloc] at hs6
        have HO1 := Lib.hid hown1
        have HX1 := Lib.hid ((HX.out.alloc (.cells #[.int .i64 (y - 1)] 3)).grown hg1 (fun e => by have := (HOWN.out.lt w.heap.size e.symm).1; omega))
        have HB1 := Lib.hid ((HB.out.alloc HB.out.size (.cells #[.int .i64 (y - 1)] 3)).grown hg1 (by have := HB.out.size; simp; omega) (fun k hk => by have := (HOWN.out.lt k hk).1; omega))
        clear hown1 hg1
        go_wp2
        go_roundw
        case rel => exact ⟨k + 1, by omega, by go_num, by rw [HNX.out]; unfold NiF.cells; rw [List.map_append]; exact HO1.out, HX1.out, by omega, HB1.out⟩
        case measure => simp [intOf]; omega
      · obtain rfl : k = N := by omega
        have hl := HPL.out k (by omega)
        go_wp2
        go_ret
        exact ⟨_, _, rfl, ⟨by rw [hl]; exact SplitAny.own_mono HOWN.out (by omega), rfl⟩, HB.out⟩
  · have hle8 : ¬ (N : Int) ≤ 8 := by omega
    rw [show min N 8 = 8 by omega]
    have hmin : min (N : Int) 8 = 8 := by omega
    have hal : (Tryd.prog.arrayLen 52) = 8 := by kernel_rfl
    clear hN
    go_enter Tryd.func27, Tryd.ntmps27
    go_wp2
    go_loopw [5, 12] (fun sv iv wr => ∃ k : Nat, k ≤ 8 ∧ iv = .int .i64 k ∧ wr.ownsRow B 3 1 sv k (NiF.cells (predL [y0, y1, y2, y3, y4, y5, y6, y7] k)) ∧ Bk wr w.heap.size #[.int .i64 y0, .int .i64 y1, .int .i64 y2, .int .i64 y3, .int .i64 y4, .int .i64 y5, .int .i64 y6, .int .i64 y7] 52 ∧ B ≤ wr.heap.size ∧ Below w.heap.size w wr) (fun _ iv _ => 8 - (intOf iv).toNat)
    case atStart => exact ⟨0, Nat.zero_le _, rfl, InEq.own_nil1 _ _ _, HX.out, hB2, HB.out⟩
    case round =>
      obtain ⟨k, hk, rfl, hown, hx, hsB, hbel⟩ := hrel
      replace HB := Lib.hid hbel
      replace HX := Lib.hid hx
      have HOWN := Lib.hid hown
      have hsz := hbel.size
      clear hx hbel hown
      by_cases hlt : k < 8
      · have hk8 : (k : Int) < 8 := by omega
        have g0 := HCE.out wr HX.out k (by omega)
        have hyr := HY.out k (by omega)
        have HNX := Lib.hid (HPS.out k (by omega))
        generalize ([y0, y1, y2, y3, y4, y5, y6, y7] : List Int).getD k 0 = y at g0 hyr HNX
        go_wp2_with (first | (at_builtin; refine wpList_append_own _ rfl _ _ 23 rfl B 3 i0 (.int .i64 0) 1 8 Tryd.underlying23 HF0.out HF1.out HF2.out HF3.out rfl (by decide) _ _ _ rfl (HOWN.out.alloc _) ⟨wr.heap.size, 0, none⟩ 1 1 [.int .i64 (y - 1)] rfl rfl ?c1 ?c2 ?c3 ?c4 ?c5 ?_))
        case c1 => exact InEq.cells1_new _ _ _
        case c2 => simp [Value.oneCell']
        case c3 => unfold maxLen; omega
        case c4 => omega
        case c5 => simp; omega
        intro v' w6 hown1 hg1 _
        have hs6 := hg1.size
        simp only [World.size_alloc] at hs6
        have HO1 := Lib.hid hown1
        have HX1 := Lib.hid ((HX.out.alloc (.cells #[.int .i64 (y - 1)] 3)).grown hg1 (fun e => by have := (HOWN.out.lt w.heap.size e.symm).1; omega))
        have HB1 := Lib.hid ((HB.out.alloc HB.out.size (.cells #[.int .i64 (y - 1)] 3)).grown hg1 (by have := HB.out.size; simp; omega) (fun k hk => by have := (HOWN.out.lt k hk).1; omega))
        clear hown1 hg1
        go_wp2
        go_roundw
        case rel => exact ⟨k + 1, by omega, by go_num, by rw [HNX.out]; unfold NiF.cells; rw [List.map_append]; exact HO1.out, HX1.out, by omega, HB1.out⟩
        case measure => simp [intOf]; omega
      · obtain rfl : k = 8 := by omega
        have hl := HPL.out 8 (by omega)
        go_wp2
        go_ret
        exact ⟨_, _, rfl, ⟨by rw [hl]; exact SplitAny.own_mono HOWN.out (by omega), rfl⟩, HB.out⟩
end Go.Proofs.YthobdeidjagnhaaDoor.InUp

-- YthobdeidjagnhaaDoorInUi
/- Contract: the program's UnpackInode, for every string of at most 2^20 bytes. Conditions: as the theorem types them. -/
namespace Go.Proofs.YthobdeidjagnhaaDoor.InUi
open Go.ChangeShapes Go.WideShapes Go.ChangeAt Go.RowKit
open Foot Bx
open InoV (I num readI unpackI packI okI readB needN needV optL)
open AclV (unpackV)
open InOk (Vars)
open InUp
set_option linter.unusedVariables false

theorem opt_res (x : Option (List AclV.At)) : (AclU.resR x).1 = optL x := by cases x <;> rfl
theorem un_yes {s : ByteArray} (h96 : s.size = 96) (h : packI (readI s) = s) : unpackI s = (readI s, true) := by
  have hok : okI (readI s) = true := by
    cases hk : okI (readI s)
    · rw [InoV.packI_no hk] at h
      rw [← h] at h96
      cases h96
    · rfl
  rw [unpackI, if_pos ⟨h, hok⟩]
theorem un_no {s : ByteArray} (h : packI (readI s) ≠ s) : unpackI s = (InoV.zero, false) := by
  rw [unpackI, if_neg (fun hh => h hh.1)]
theorem zero_own (w : World) (base : Nat) : In.Own w base (.agg #[.int .i64 0, .int .i64 0, .int .i64 0, .int .i64 0, .int .i64 0, .int .i64 0, .int .i64 0, .slice none 0 0, .slice none 0 0, .slice none 0 0]) InoV.zero [] :=
  ⟨.slice none 0 0, .slice none 0 0, .slice none 0 0, [], [], [], rfl, rfl, List.nodup_nil, ⟨InEq.own_nil1 _ _ _, rfl⟩, ⟨AclU.own_nil3 _ _ _, rfl⟩, ⟨AclU.own_nil3 _ _ _, rfl⟩⟩
theorem need_le (s : ByteArray) : needN s ≤ 8 := by unfold needN; omega
theorem acl_len (s : ByteArray) : (optL (unpackV s)).length ≤ 6 := by rw [← opt_res]; exact AclU.unp_len s
theorem read_cost (s : ByteArray) : In.cost (readI s) ≤ 20 := by
  have h1 : (readI s).blocks.length = needN s := InoV.readB_length s _
  have h2 : (readI s).acl.length ≤ 6 := acl_len _
  have h3 : (readI s).dflt.length ≤ 6 := acl_len _
  have := need_le s
  show (readI s).blocks.length + (readI s).acl.length + (readI s).dflt.length ≤ 20
  omega
theorem read_rg {s : ByteArray} (h : s.size = 96) : ∀ x ∈ (readI s).blocks, Rg x := by
  intro x hx
  obtain ⟨i, hi, rfl⟩ := List.mem_map.1 (show x ∈ readB s (needN s) from hx)
  have hi2 := List.mem_range.1 hi
  have := need_le s
  have := num2_lt s (13 + 2 * i) (by omega)
  unfold Rg
  omega
theorem pred_read (s : ByteArray) (k : Nat) (hk : k ≤ 8) : predL [bkV s 0, bkV s 1, bkV s 2, bkV s 3, bkV s 4, bkV s 5, bkV s 6, bkV s 7] k = readB s k := by
  have e : ([bkV s 0, bkV s 1, bkV s 2, bkV s 3, bkV s 4, bkV s 5, bkV s 6, bkV s 7] : List Int) = (List.range 8).map (bkV s) := rfl
  rw [e]
  unfold predL readB
  rw [← List.map_take, List.take_range, List.map_map, show min k 8 = k by omega]
  rfl
theorem bk_in {s : ByteArray} (h : s.size = 96) : ∀ y ∈ ([bkV s 0, bkV s 1, bkV s 2, bkV s 3, bkV s 4, bkV s 5, bkV s 6, bkV s 7] : List Int), 0 ≤ y ∧ y < 65536 := by
  intro y hy
  have e : ([bkV s 0, bkV s 1, bkV s 2, bkV s 3, bkV s 4, bkV s 5, bkV s 6, bkV s 7] : List Int) = (List.range 8).map (bkV s) := rfl
  rw [e] at hy
  obtain ⟨i, hi, rfl⟩ := List.mem_map.1 hy
  have := List.mem_range.1 hi
  exact num2_lt s (13 + 2 * i) (by omega)
theorem in_holds {W : World} {n : I} {m0 m1 m2 m3 m4 m5 m6 : Int} {r0 r1 r2 : Value} (h : n.kind = m0 ∧ n.mode = m1 ∧ n.uid = m2 ∧ n.gid = m3 ∧ n.links = m4 ∧ n.size = m5 ∧ n.tick = m6) (h0 : NiF.Holds W r0 n.blocks) (h1 : AeF.Holds W r1 n.acl) (h2 : AeF.Holds W r2 n.dflt) : In.Holds W (.agg #[.int .i64 m0, .int .i64 m1, .int .i64 m2, .int .i64 m3, .int .i64 m4, .int .i64 m5, .int .i64 m6, r0, r1, r2]) n := by
  obtain ⟨rfl, rfl, rfl, rfl, rfl, rfl, rfl⟩ := h
  exact ⟨r0, r1, r2, rfl, h0, h1, h2⟩
theorem in_own {W : World} {B : Nat} {n : I} {m0 m1 m2 m3 m4 m5 m6 : Int} {r0 r1 r2 : Value} {S0 S1 S2 : List Nat} (h : n.kind = m0 ∧ n.mode = m1 ∧ n.uid = m2 ∧ n.gid = m3 ∧ n.links = m4 ∧ n.size = m5 ∧ n.tick = m6) (h0 : NiF.Own W B r0 n.blocks S0) (h1 : AeF.Own W B r1 n.acl S1) (h2 : AeF.Own W B r2 n.dflt S2) (a01 : Apart S0 S1) (a02 : Apart S0 S2) (a12 : Apart S1 S2) : In.Own W B (.agg #[.int .i64 m0, .int .i64 m1, .int .i64 m2, .int .i64 m3, .int .i64 m4, .int .i64 m5, .int .i64 m6, r0, r1, r2]) n (S0 ++ S1 ++ S2) := by
  obtain ⟨rfl, rfl, rfl, rfl, rfl, rfl, rfl⟩ := h
  exact ⟨r0, r1, r2, S0, S1, S2, rfl, rfl, nodup_app (nodup_app (NiF.own_nodup h0) (AeF.own_nodup h1) a01) (AeF.own_nodup h2) (apart_app.2 ⟨a02, a12⟩), h0, h1, h2⟩
theorem not_empty {P : ByteArray} (h : P ≠ ⟨#[]⟩) : P.toList.isEmpty = false := by
  cases hl : P.toList.isEmpty
  · rfl
  · refine absurd ?_ h
    rw [List.isEmpty_iff, ByteArray.toList_eq] at hl
    exact AclP.ext hl
theorem need_nn {n : Int} (h0 : 0 ≤ n) (h : n < 65536) : 0 ≤ needV n ∧ needV n ≤ 2048 := by
  unfold needV
  split <;> omega

set_option maxRecDepth 100000 in
set_option maxHeartbeats 6400000 in
theorem unpack_any (s : ByteArray) (w : World) (hs : s.size ≤ 1048576) (hv : Vars w) :
    Calls Tryd.prog 8 #[.string s] w fun e w' => ∃ v S, e = .returned (.tuple #[v, .bool (unpackI s).2]) ∧ In.Own w' w.heap.size v (unpackI s).1 S ∧ Below w.heap.size w w' := by
  have HB := Lib.hid ((Below.refl w.heap.size w).alloc (Nat.le_refl _) (.cells #[.int .i64 0, .int .i64 0, .int .i64 0, .int .i64 0, .int .i64 0, .int .i64 0, .int .i64 0, .slice none 0 0, .slice none 0 0, .slice none 0 0] 26))
  have HR := Lib.hid (new w #[.int .i64 0, .int .i64 0, .int .i64 0, .int .i64 0, .int .i64 0, .int .i64 0, .int .i64 0, .slice none 0 0, .slice none 0 0, .slice none 0 0] 26)
  by_cases h96 : s.size = 96
  · have HLE := Lib.hid (fun a b (h : a + b ≤ 96) => show a + b ≤ s.size by omega)
    have hn5 := num2_lt s 7 (by omega)
    have hnd := need_nn hn5.1 hn5.2
    have HBL := Lib.hid (fun W => list_any W (bkV s 0) (bkV s 1) (bkV s 2) (bkV s 3) (bkV s 4) (bkV s 5) (bkV s 6) (bkV s 7) (needV (num s 7 2)) hnd.1 (by omega) (bk_in h96))
    rw [show predL _ (min (needV (num s 7 2)).toNat 8) = (readI s).blocks from pred_read s (needN s) (need_le s)] at HBL
    have HRB := Lib.hid (fun W => InUp.blocks_any s W h96)
    have HNU := Lib.hid (fun W hv => InUp.numbers_any s W h96 hv)
    have HND := Lib.hid (fun W => FlK.still (InEq.need_impl (num s 7 2) W (by unfold Rg; omega)))
    have HYES := Lib.hid (fun h => un_yes h96 h)
    have HNO := Lib.hid (fun h => un_no (s := s) h)
    have HA1 := Lib.hid (fun W => AclU.impl_any (s.extract 29 48) W (by rw [ByteArray.size_extract]; omega))
    have HA2 := Lib.hid (fun W => AclU.impl_any (s.extract 48 67) W (by rw [ByteArray.size_extract]; omega))
    rw [show (AclU.resR (unpackV (s.extract 29 48))).1 = (readI s).acl from opt_res _] at HA1
    rw [show (AclU.resR (unpackV (s.extract 48 67))).1 = (readI s).dflt from opt_res _] at HA2
    have HPK := Lib.hid (fun W v (hv : Vars W) (h : In.Holds W v (readI s)) => InPi.pack_any W v (readI s) (Nat.le_trans (read_cost s) (by omega)) (read_rg h96) hv h)
    have hz96 : ((s.size : Int) != 96) = false := by simp [h96]
    have hz97 : ((s.size : Int) == 96) = true := by simp [h96]
    have hz48 : (48 : Int) ≤ (s.size : Int) := by omega
    have hz67 : (67 : Int) ≤ (s.size : Int) := by omega
    have HV := Lib.hid hv
    have HFLD := Lib.hid (show (readI s).kind = num s 0 1 ∧ (readI s).mode = num s 1 2 ∧ (readI s).uid = num s 3 1 ∧ (readI s).gid = num s 4 1 ∧ (readI s).links = num s 5 2 ∧ (readI s).size = num s 7 2 ∧ (readI s).tick = num s 9 4 from ⟨rfl, rfl, rfl, rfl, rfl, rfl, rfl⟩)
    have HUN := Lib.hid (show ∃ N, N = readI s from ⟨_, rfl⟩)
    clear h96 hv hn5 hnd
    go_enter Tryd.func8, Tryd.ntmps8
    go_wp2_with fail
    refine (HNU.out _ (HV.out.all HB.out)).mono ?_
    rintro e w1 ⟨rfl, hb⟩
    replace HR := Lib.hid (HR.out.all hb)
    replace HB := Lib.hid (HB.out.trans (hb.mono HB.out.size))
    have s1 := hb.size
    simp only [World.size_alloc] at s1
    clear hb
    generalize InoV.num s 0 1 = m0 at HFLD HBL HND ⊢
    generalize InoV.num s 1 2 = m1 at HFLD HBL HND ⊢
    generalize InoV.num s 3 1 = m2 at HFLD HBL HND ⊢
    generalize InoV.num s 4 1 = m3 at HFLD HBL HND ⊢
    generalize InoV.num s 5 2 = m4 at HFLD HBL HND ⊢
    generalize InoV.num s 7 2 = m5 at HFLD HBL HND ⊢
    generalize InoV.num s 9 4 = m6 at HFLD HBL HND ⊢
    go_wp2_with fail
    refine (InUp.inode_any _ m0 m1 m2 m3 m4 m5 m6).mono ?_
    rintro e w2 ⟨rfl, hb⟩
    replace HR := Lib.hid (HR.out.all hb)
    replace HB := Lib.hid (HB.out.trans (hb.mono HB.out.size))
    have s2 := hb.size
    clear hb
    have hbx := Joins.below_alloc1 w2 (.cells #[.int .i64 m0, .int .i64 m1, .int .i64 m2, .int .i64 m3, .int .i64 m4, .int .i64 m5, .int .i64 m6, .slice none 0 0, .slice none 0 0, .slice none 0 0] 26)
    replace HR := Lib.hid (HR.out.all hbx)
    replace HB := Lib.hid (HB.out.trans (hbx.mono HB.out.size))
    have HX := Lib.hid (new w2 #[.int .i64 m0, .int .i64 m1, .int .i64 m2, .int .i64 m3, .int .i64 m4, .int .i64 m5, .int .i64 m6, .slice none 0 0, .slice none 0 0, .slice none 0 0] 26)
    clear hbx
    obtain ⟨x0, x1, x2, x3, x4, x5, x6, x7, x8, x9⟩ := Bk.c10 HX.out
    have xf7 := HX.out.free 7
    have TK := Lib.hid trivial
    generalize bkV s 0 = y0 at HRB HBL
    generalize bkV s 1 = y1 at HRB HBL
    generalize bkV s 2 = y2 at HRB HBL
    generalize bkV s 3 = y3 at HRB HBL
    generalize bkV s 4 = y4 at HRB HBL
    generalize bkV s 5 = y5 at HRB HBL
    generalize bkV s 6 = y6 at HRB HBL
    generalize bkV s 7 = y7 at HRB HBL
    generalize needV m5 = nd at HND HBL
    have BX : ∃ b, b = w2.heap.size := ⟨_, rfl⟩
    go_wp2
    go_region_held3 (fun wz => wz.cell? ⟨w2.heap.size, 5, none⟩ = some (.int .i64 m5)) (first | exact HX.out.cell 5 | exact (HX.out.put 7 _).cell 5 | go_keep)
      (first
        | (go_at_call 26; (try (have _q := TK.out; clear _q TK; replace HB := Lib.hid HB.out.drew; replace HX := Lib.hid (Bx.Bk.drew HX.out); replace HR := Lib.hid (Bx.Bk.drew HR.out))); with_reducible refine (HRB.out _).mono ?_; rintro e wa ⟨rfl, hb⟩; replace HX := Lib.hid (Bx.Bk.all HX.out hb); replace HR := Lib.hid (Bx.Bk.all HR.out hb); replace HB := Lib.hid (HB.out.trans (hb.mono HB.out.size)); have sa := hb.size; (try simp only [World.size_alloc, World.size_drew] at sa); clear hb)
        | (go_at_call 13; (try (have _q := TK.out; clear _q TK; replace HB := Lib.hid HB.out.drew; replace HX := Lib.hid (Bx.Bk.drew HX.out); replace HR := Lib.hid (Bx.Bk.drew HR.out))); with_reducible refine (HND.out _).mono ?_; rintro e wb ⟨rfl, hb⟩; replace HX := Lib.hid (Bx.Bk.all HX.out hb); replace HR := Lib.hid (Bx.Bk.all HR.out hb); replace HB := Lib.hid (HB.out.trans (hb.mono HB.out.size)); have sb := hb.size; (try simp only [World.size_alloc, World.size_drew] at sb); clear hb)
        | (go_at_call 27; with_reducible refine (HBL.out _).mono ?_; rintro e wc ⟨sv, SB, rfl, hown, hb⟩; obtain ⟨ba, bc, rfl⟩ := NiF.own_form hown; have hlies := NiF.own_lies hown; have HOB := Lib.hid (NiF.own_mono hown (base' := w2.heap.size + 1) (by omega)); have HLB := Lib.hid (Lies.wide hlies (show w2.heap.size + 1 ≤ _ by omega) (Nat.le_refl _)); clear hown hlies; replace HX := Lib.hid (Bx.Bk.all HX.out hb); replace HR := Lib.hid (Bx.Bk.all HR.out hb); replace HB := Lib.hid (HB.out.trans (hb.mono HB.out.size)); have sc := hb.size; have xc7 := HX.out.cell 7; have xf9 := HX.out.free 7; clear hb))
    clear x0 x1 x2 x3 x4 x5 x6 x7 x8 x9 xf7 xc7 xf9 BX
    have hX : Bk _ _ #[.int .i64 m0, .int .i64 m1, .int .i64 m2, .int .i64 m3, .int .i64 m4, .int .i64 m5, .int .i64 m6, (.slice ba (readI s).blocks.length bc), .slice none 0 0, .slice none 0 0] _ := HX.out.put 7 (.slice ba (readI s).blocks.length bc)
    have hR := HR.out.far (p := ⟨w2.heap.size, 7, none⟩) (by simp; omega) (.slice ba (readI s).blocks.length bc)
    have hB := HB.out.setCell (p := ⟨w2.heap.size, 7, none⟩) (by simp; omega) (.slice ba (readI s).blocks.length bc)
    have hO := NiF.own_set HOB.out (a := ⟨w2.heap.size, 7, none⟩) (by simp) (.slice ba (readI s).blocks.length bc)
    have sd : wc.heap.size ≤ (wc.setCell ⟨w2.heap.size, 7, none⟩ (.slice ba (readI s).blocks.length bc)).heap.size := by simp
    generalize wc.setCell ⟨w2.heap.size, 7, none⟩ (.slice ba (readI s).blocks.length bc) = wd at hX hR hB hO sd ⊢
    replace HX := Lib.hid hX
    replace HR := Lib.hid hR
    replace HB := Lib.hid hB
    replace HOB := Lib.hid hO
    clear hX hR hB hO
    go_wp2_with fail
    refine (HA1.out _).mono ?_
    rintro e we ⟨va, rfl, hown, hb⟩
    obtain ⟨aa, ac, rfl⟩ := Dk.slice_of hown
    have se := hb.size
    replace HX := Lib.hid (HX.out.all hb)
    replace HR := Lib.hid (HR.out.all hb)
    replace HOB := Lib.hid (NiF.own_below HOB.out hb)
    replace HB := Lib.hid (HB.out.trans (hb.mono HB.out.size))
    have HLA := Lib.hid (row_lies hown)
    have HOA := Lib.hid (show AeF.Own we (w2.heap.size + 1) _ (readI s).acl (fpR (.slice aa (readI s).acl.length ac)) from AeF.own_mono (show AeF.Own we _ _ _ _ from ⟨hown, rfl⟩) (by omega))
    clear hown hb
    have xc8 : we.cell? ⟨w2.heap.size, 8, none⟩ = some (.slice none 0 0) := HX.out.cell 8
    have xf8 := HX.out.free 8
    have hX : Bk _ _ #[.int .i64 m0, .int .i64 m1, .int .i64 m2, .int .i64 m3, .int .i64 m4, .int .i64 m5, .int .i64 m6, (.slice ba (readI s).blocks.length bc), (.slice aa (readI s).acl.length ac), .slice none 0 0] _ := HX.out.put 8 (.slice aa (readI s).acl.length ac)
    have hR := HR.out.far (p := ⟨w2.heap.size, 8, none⟩) (by first | (simp; done) | (simp; omega)) (.slice aa (readI s).acl.length ac)
    have hB := HB.out.setCell (p := ⟨w2.heap.size, 8, none⟩) (by first | (simp; done) | (simp; omega)) (.slice aa (readI s).acl.length ac)
    have hO := NiF.own_set HOB.out (a := ⟨w2.heap.size, 8, none⟩) (by simp) (.slice aa (readI s).acl.length ac)
    have hA := AeF.own_set HOA.out (a := ⟨w2.heap.size, 8, none⟩) (by simp) (.slice aa (readI s).acl.length ac)
    replace HX := Lib.hid hX
    replace HR := Lib.hid hR
    replace HB := Lib.hid hB
    replace HOB := Lib.hid hO
    replace HOA := Lib.hid hA
    clear hX hR hB hO hA
    go_wp2_with fail
    clear xc8 xf8
    refine (HA2.out _).mono ?_
    rintro e wg ⟨vd, rfl, hown, hb⟩
    obtain ⟨da, dc, rfl⟩ := Dk.slice_of hown
    have sg := hb.size
    simp only [World.size_setCell] at sg
    replace HX := Lib.hid (HX.out.all hb)
    replace HR := Lib.hid (HR.out.all hb)
    replace HOB := Lib.hid (NiF.own_below HOB.out hb)
    replace HOA := Lib.hid (AeF.own_below HOA.out hb)
    replace HB := Lib.hid (HB.out.trans (hb.mono HB.out.size))
    have hld := row_lies hown
    simp only [World.size_setCell] at hown hld
    have HLD := Lib.hid hld
    have HOD := Lib.hid (show AeF.Own wg (w2.heap.size + 1) _ (readI s).dflt (fpR (.slice da (readI s).dflt.length dc)) from AeF.own_mono (show AeF.Own wg _ _ _ _ from ⟨hown, rfl⟩) (by omega))
    clear hown hb hld
    have xc9 : wg.cell? ⟨w2.heap.size, 9, none⟩ = some (.slice none 0 0) := HX.out.cell 9
    have xf9 := HX.out.free 9
    have hX : Bk _ _ #[.int .i64 m0, .int .i64 m1, .int .i64 m2, .int .i64 m3, .int .i64 m4, .int .i64 m5, .int .i64 m6, (.slice ba (readI s).blocks.length bc), (.slice aa (readI s).acl.length ac), (.slice da (readI s).dflt.length dc)] _ := HX.out.put 9 (.slice da (readI s).dflt.length dc)
    have hR := HR.out.far (p := ⟨w2.heap.size, 9, none⟩) (by first | (simp; done) | (simp; omega)) (.slice da (readI s).dflt.length dc)
    have hB := HB.out.setCell (p := ⟨w2.heap.size, 9, none⟩) (by first | (simp; done) | (simp; omega)) (.slice da (readI s).dflt.length dc)
    have hO := NiF.own_set HOB.out (a := ⟨w2.heap.size, 9, none⟩) (by simp) (.slice da (readI s).dflt.length dc)
    have hA := AeF.own_set HOA.out (a := ⟨w2.heap.size, 9, none⟩) (by simp) (.slice da (readI s).dflt.length dc)
    have hD := AeF.own_set HOD.out (a := ⟨w2.heap.size, 9, none⟩) (by simp) (.slice da (readI s).dflt.length dc)
    replace HX := Lib.hid hX
    replace HR := Lib.hid hR
    replace HB := Lib.hid hB
    replace HOB := Lib.hid hO
    replace HOA := Lib.hid hA
    replace HOD := Lib.hid hD
    clear hX hR hB hO hA hD
    have sh : wg.heap.size ≤ (wg.setCell ⟨w2.heap.size, 9, none⟩ (.slice da (readI s).dflt.length dc)).heap.size := by simp
    obtain ⟨x0, x1, x2, x3, x4, x5, x6, x7, x8, x9⟩ := Bk.c10 HX.out
    have HIH := Lib.hid (fun (W : World) (hb : Below (wg.setCell ⟨w2.heap.size, 9, none⟩ (.slice da (readI s).dflt.length dc)).heap.size (wg.setCell ⟨w2.heap.size, 9, none⟩ (.slice da (readI s).dflt.length dc)) W) => in_holds HFLD.out (NiF.own_holds (NiF.own_below HOB.out hb)) (AeF.own_holds (AeF.own_below HOA.out hb)) (AeF.own_holds (AeF.own_below HOD.out hb)))
    have HOWN := Lib.hid (fun (W : World) (hb : Below (wg.setCell ⟨w2.heap.size, 9, none⟩ (.slice da (readI s).dflt.length dc)).heap.size (wg.setCell ⟨w2.heap.size, 9, none⟩ (.slice da (readI s).dflt.length dc)) W) => in_own HFLD.out (NiF.own_below HOB.out hb) (AeF.own_below HOA.out hb) (AeF.own_below HOD.out hb) (Lies.apart HLB.out HLA.out (by omega)) (Lies.apart HLB.out HLD.out (by omega)) (Lies.apart HLA.out HLD.out (by omega)))
    clear HOB HOA HOD
    go_wp2_with fail
    clear xc9 xf9
    generalize wg.setCell ⟨w2.heap.size, 9, none⟩ (.slice da (readI s).dflt.length dc) = wh at HIH HOWN HX HR HB sh x0 x1 x2 x3 x4 x5 x6 x7 x8 x9 ⊢
    refine (HPK.out _ (.agg #[.int .i64 m0, .int .i64 m1, .int .i64 m2, .int .i64 m3, .int .i64 m4, .int .i64 m5, .int .i64 m6, .slice ba (readI s).blocks.length bc, .slice aa (readI s).acl.length ac, .slice da (readI s).dflt.length dc]) (HV.out.all HB.out) (HIH.out _ (Below.refl _ _))).mono ?_
    rintro e wi ⟨rfl, hb⟩
    replace HX := Lib.hid (HX.out.all hb)
    replace HR := Lib.hid (HR.out.all hb)
    replace HB := Lib.hid (HB.out.trans (hb.mono HB.out.size))
    clear x0 x1 x2 x3 x4 x5 x6 x7 x8 x9
    have HBB := Lib.hid hb
    clear hb
    by_cases he : packI (readI s) = s
    · have HU := Lib.hid (HYES.out he)
      rw [he]
      clear he
      obtain ⟨z0, z1, z2, z3, z4, z5, z6, z7, z8, z9⟩ := Bk.c10 HR.out
      have ze0 := HR.out.free 0
      have ze1 := HR.out.free 1
      have ze2 := HR.out.free 2
      have ze3 := HR.out.free 3
      have ze4 := HR.out.free 4
      have ze5 := HR.out.free 5
      have ze6 := HR.out.free 6
      have ze7 := HR.out.free 7
      have ze8 := HR.out.free 8
      have ze9 := HR.out.free 9
      obtain ⟨x0, x1, x2, x3, x4, x5, x6, x7, x8, x9⟩ := Bk.c10 HX.out
      go_wp2_with fail
      have hO9 := HOWN.out wi HBB.out
      have hF0 := HR.out
      have hF1 : Bk _ _ #[.int .i64 m0, .int .i64 0, .int .i64 0, .int .i64 0, .int .i64 0, .int .i64 0, .int .i64 0, .slice none 0 0, .slice none 0 0, .slice none 0 0] _ := hF0.put 0 (.int .i64 m0)
      clear hF0
      have hF2 : Bk _ _ #[.int .i64 m0, .int .i64 m1, .int .i64 0, .int .i64 0, .int .i64 0, .int .i64 0, .int .i64 0, .slice none 0 0, .slice none 0 0, .slice none 0 0] _ := hF1.put 1 (.int .i64 m1)
      clear hF1
      have hF3 : Bk _ _ #[.int .i64 m0, .int .i64 m1, .int .i64 m2, .int .i64 0, .int .i64 0, .int .i64 0, .int .i64 0, .slice none 0 0, .slice none 0 0, .slice none 0 0] _ := hF2.put 2 (.int .i64 m2)
      clear hF2
      have hF4 : Bk _ _ #[.int .i64 m0, .int .i64 m1, .int .i64 m2, .int .i64 m3, .int .i64 0, .int .i64 0, .int .i64 0, .slice none 0 0, .slice none 0 0, .slice none 0 0] _ := hF3.put 3 (.int .i64 m3)
      clear hF3
      have hF5 : Bk _ _ #[.int .i64 m0, .int .i64 m1, .int .i64 m2, .int .i64 m3, .int .i64 m4, .int .i64 0, .int .i64 0, .slice none 0 0, .slice none 0 0, .slice none 0 0] _ := hF4.put 4 (.int .i64 m4)
      clear hF4
      have hF6 : Bk _ _ #[.int .i64 m0, .int .i64 m1, .int .i64 m2, .int .i64 m3, .int .i64 m4, .int .i64 m5, .int .i64 0, .slice none 0 0, .slice none 0 0, .slice none 0 0] _ := hF5.put 5 (.int .i64 m5)
      clear hF5
      have hF7 : Bk _ _ #[.int .i64 m0, .int .i64 m1, .int .i64 m2, .int .i64 m3, .int .i64 m4, .int .i64 m5, .int .i64 m6, .slice none 0 0, .slice none 0 0, .slice none 0 0] _ := hF6.put 6 (.int .i64 m6)
      clear hF6
      have hF8 : Bk _ _ #[.int .i64 m0, .int .i64 m1, .int .i64 m2, .int .i64 m3, .int .i64 m4, .int .i64 m5, .int .i64 m6, .slice ba (readI s).blocks.length bc, .slice none 0 0, .slice none 0 0] _ := hF7.put 7 (.slice ba (readI s).blocks.length bc)
      clear hF7
      have hF9 : Bk _ _ #[.int .i64 m0, .int .i64 m1, .int .i64 m2, .int .i64 m3, .int .i64 m4, .int .i64 m5, .int .i64 m6, .slice ba (readI s).blocks.length bc, .slice aa (readI s).acl.length ac, .slice none 0 0] _ := hF8.put 8 (.slice aa (readI s).acl.length ac)
      clear hF8
      have hF10 : Bk _ _ #[.int .i64 m0, .int .i64 m1, .int .i64 m2, .int .i64 m3, .int .i64 m4, .int .i64 m5, .int .i64 m6, .slice ba (readI s).blocks.length bc, .slice aa (readI s).acl.length ac, .slice da (readI s).dflt.length dc] _ := hF9.put 9 (.slice da (readI s).dflt.length dc)
      clear hF9
      have hB9 := ((((((((((HB.out.setCell (p := ⟨w.heap.size, 0, none⟩) (Nat.le_refl _) (.int .i64 m0)).setCell (p := ⟨w.heap.size, 1, none⟩) (Nat.le_refl _) (.int .i64 m1)).setCell (p := ⟨w.heap.size, 2, none⟩) (Nat.le_refl _) (.int .i64 m2)).setCell (p := ⟨w.heap.size, 3, none⟩) (Nat.le_refl _) (.int .i64 m3)).setCell (p := ⟨w.heap.size, 4, none⟩) (Nat.le_refl _) (.int .i64 m4)).setCell (p := ⟨w.heap.size, 5, none⟩) (Nat.le_refl _) (.int .i64 m5)).setCell (p := ⟨w.heap.size, 6, none⟩) (Nat.le_refl _) (.int .i64 m6)).setCell (p := ⟨w.heap.size, 7, none⟩) (Nat.le_refl _) (.slice ba (readI s).blocks.length bc)).setCell (p := ⟨w.heap.size, 8, none⟩) (Nat.le_refl _) (.slice aa (readI s).acl.length ac)).setCell (p := ⟨w.heap.size, 9, none⟩) (Nat.le_refl _) (.slice da (readI s).dflt.length dc))
      have hOF := (In.own_set (In.own_set (In.own_set (In.own_set (In.own_set (In.own_set (In.own_set (In.own_set (In.own_set (In.own_set hO9 (a := ⟨w.heap.size, 0, none⟩) (by simp; omega) (.int .i64 m0)) (a := ⟨w.heap.size, 1, none⟩) (by simp; omega) (.int .i64 m1)) (a := ⟨w.heap.size, 2, none⟩) (by simp; omega) (.int .i64 m2)) (a := ⟨w.heap.size, 3, none⟩) (by simp; omega) (.int .i64 m3)) (a := ⟨w.heap.size, 4, none⟩) (by simp; omega) (.int .i64 m4)) (a := ⟨w.heap.size, 5, none⟩) (by simp; omega) (.int .i64 m5)) (a := ⟨w.heap.size, 6, none⟩) (by simp; omega) (.int .i64 m6)) (a := ⟨w.heap.size, 7, none⟩) (by simp; omega) (.slice ba (readI s).blocks.length bc)) (a := ⟨w.heap.size, 8, none⟩) (by simp; omega) (.slice aa (readI s).acl.length ac)) (a := ⟨w.heap.size, 9, none⟩) (by simp; omega) (.slice da (readI s).dflt.length dc))
      generalize ((((((((((wi.setCell ⟨w.heap.size, 0, none⟩ (.int .i64 m0)).setCell ⟨w.heap.size, 1, none⟩ (.int .i64 m1)).setCell ⟨w.heap.size, 2, none⟩ (.int .i64 m2)).setCell ⟨w.heap.size, 3, none⟩ (.int .i64 m3)).setCell ⟨w.heap.size, 4, none⟩ (.int .i64 m4)).setCell ⟨w.heap.size, 5, none⟩ (.int .i64 m5)).setCell ⟨w.heap.size, 6, none⟩ (.int .i64 m6)).setCell ⟨w.heap.size, 7, none⟩ (.slice ba (readI s).blocks.length bc)).setCell ⟨w.heap.size, 8, none⟩ (.slice aa (readI s).acl.length ac)).setCell ⟨w.heap.size, 9, none⟩ (.slice da (readI s).dflt.length dc)) = w9 at hF10 hB9 hOF ⊢
      have fc0 : w9.cell? ⟨w.heap.size, 0, none⟩ = some (.int .i64 m0) := hF10.cell 0
      have fc1 : w9.cell? ⟨w.heap.size, 1, none⟩ = some (.int .i64 m1) := hF10.cell 1
      have fc2 : w9.cell? ⟨w.heap.size, 2, none⟩ = some (.int .i64 m2) := hF10.cell 2
      have fc3 : w9.cell? ⟨w.heap.size, 3, none⟩ = some (.int .i64 m3) := hF10.cell 3
      have fc4 : w9.cell? ⟨w.heap.size, 4, none⟩ = some (.int .i64 m4) := hF10.cell 4
      have fc5 : w9.cell? ⟨w.heap.size, 5, none⟩ = some (.int .i64 m5) := hF10.cell 5
      have fc6 : w9.cell? ⟨w.heap.size, 6, none⟩ = some (.int .i64 m6) := hF10.cell 6
      have fc7 : w9.cell? ⟨w.heap.size, 7, none⟩ = some (.slice ba (readI s).blocks.length bc) := hF10.cell 7
      have fc8 : w9.cell? ⟨w.heap.size, 8, none⟩ = some (.slice aa (readI s).acl.length ac) := hF10.cell 8
      have fc9 : w9.cell? ⟨w.heap.size, 9, none⟩ = some (.slice da (readI s).dflt.length dc) := hF10.cell 9
      exact bodyPost_ret (v := .tuple #[.agg #[.int .i64 m0, .int .i64 m1, .int .i64 m2, .int .i64 m3, .int .i64 m4, .int .i64 m5, .int .i64 m6, .slice ba (readI s).blocks.length bc, .slice aa (readI s).acl.length ac, .slice da (readI s).dflt.length dc], .bool true]) (by simp [results, Tryd.results8, go_sem, fc0, fc1, fc2, fc3, fc4, fc5, fc6, fc7, fc8, fc9]) rfl ⟨_, _, by rw [HU.out], by rw [HU.out]; exact In.own_mono hOF (by omega), hB9⟩
    · have HU := Lib.hid (HNO.out he)
      have hne := AclU.str_ne he
      clear he
      generalize packI (readI s) = P at hne
      obtain ⟨z0, z1, z2, z3, z4, z5, z6, z7, z8, z9⟩ := Bk.c10 HR.out
      have ze0 := HR.out.free 0
      have ze1 := HR.out.free 1
      have ze2 := HR.out.free 2
      have ze3 := HR.out.free 3
      have ze4 := HR.out.free 4
      have ze5 := HR.out.free 5
      have ze6 := HR.out.free 6
      have ze7 := HR.out.free 7
      have ze8 := HR.out.free 8
      have ze9 := HR.out.free 9
      go_wp2_with fail
      have hF0 := HR.out
      have hF1 : Bk _ _ #[.int .i64 0, .int .i64 0, .int .i64 0, .int .i64 0, .int .i64 0, .int .i64 0, .int .i64 0, .slice none 0 0, .slice none 0 0, .slice none 0 0] _ := hF0.put 0 (.int .i64 0)
      clear hF0
      have hF2 : Bk _ _ #[.int .i64 0, .int .i64 0, .int .i64 0, .int .i64 0, .int .i64 0, .int .i64 0, .int .i64 0, .slice none 0 0, .slice none 0 0, .slice none 0 0] _ := hF1.put 1 (.int .i64 0)
      clear hF1
      have hF3 : Bk _ _ #[.int .i64 0, .int .i64 0, .int .i64 0, .int .i64 0, .int .i64 0, .int .i64 0, .int .i64 0, .slice none 0 0, .slice none 0 0, .slice none 0 0] _ := hF2.put 2 (.int .i64 0)
      clear hF2
      have hF4 : Bk _ _ #[.int .i64 0, .int .i64 0, .int .i64 0, .int .i64 0, .int .i64 0, .int .i64 0, .int .i64 0, .slice none 0 0, .slice none 0 0, .slice none 0 0] _ := hF3.put 3 (.int .i64 0)
      clear hF3
      have hF5 : Bk _ _ #[.int .i64 0, .int .i64 0, .int .i64 0, .int .i64 0, .int .i64 0, .int .i64 0, .int .i64 0, .slice none 0 0, .slice none 0 0, .slice none 0 0] _ := hF4.put 4 (.int .i64 0)
      clear hF4
      have hF6 : Bk _ _ #[.int .i64 0, .int .i64 0, .int .i64 0, .int .i64 0, .int .i64 0, .int .i64 0, .int .i64 0, .slice none 0 0, .slice none 0 0, .slice none 0 0] _ := hF5.put 5 (.int .i64 0)
      clear hF5
      have hF7 : Bk _ _ #[.int .i64 0, .int .i64 0, .int .i64 0, .int .i64 0, .int .i64 0, .int .i64 0, .int .i64 0, .slice none 0 0, .slice none 0 0, .slice none 0 0] _ := hF6.put 6 (.int .i64 0)
      clear hF6
      have hF8 : Bk _ _ #[.int .i64 0, .int .i64 0, .int .i64 0, .int .i64 0, .int .i64 0, .int .i64 0, .int .i64 0, .slice none 0 0, .slice none 0 0, .slice none 0 0] _ := hF7.put 7 (.slice none 0 0)
      clear hF7
      have hF9 : Bk _ _ #[.int .i64 0, .int .i64 0, .int .i64 0, .int .i64 0, .int .i64 0, .int .i64 0, .int .i64 0, .slice none 0 0, .slice none 0 0, .slice none 0 0] _ := hF8.put 8 (.slice none 0 0)
      clear hF8
      have hF10 : Bk _ _ #[.int .i64 0, .int .i64 0, .int .i64 0, .int .i64 0, .int .i64 0, .int .i64 0, .int .i64 0, .slice none 0 0, .slice none 0 0, .slice none 0 0] _ := hF9.put 9 (.slice none 0 0)
      clear hF9
      have hB9 := ((((((((((HB.out.setCell (p := ⟨w.heap.size, 0, none⟩) (Nat.le_refl _) (.int .i64 0)).setCell (p := ⟨w.heap.size, 1, none⟩) (Nat.le_refl _) (.int .i64 0)).setCell (p := ⟨w.heap.size, 2, none⟩) (Nat.le_refl _) (.int .i64 0)).setCell (p := ⟨w.heap.size, 3, none⟩) (Nat.le_refl _) (.int .i64 0)).setCell (p := ⟨w.heap.size, 4, none⟩) (Nat.le_refl _) (.int .i64 0)).setCell (p := ⟨w.heap.size, 5, none⟩) (Nat.le_refl _) (.int .i64 0)).setCell (p := ⟨w.heap.size, 6, none⟩) (Nat.le_refl _) (.int .i64 0)).setCell (p := ⟨w.heap.size, 7, none⟩) (Nat.le_refl _) (.slice none 0 0)).setCell (p := ⟨w.heap.size, 8, none⟩) (Nat.le_refl _) (.slice none 0 0)).setCell (p := ⟨w.heap.size, 9, none⟩) (Nat.le_refl _) (.slice none 0 0))
      generalize ((((((((((wi.setCell ⟨w.heap.size, 0, none⟩ (.int .i64 0)).setCell ⟨w.heap.size, 1, none⟩ (.int .i64 0)).setCell ⟨w.heap.size, 2, none⟩ (.int .i64 0)).setCell ⟨w.heap.size, 3, none⟩ (.int .i64 0)).setCell ⟨w.heap.size, 4, none⟩ (.int .i64 0)).setCell ⟨w.heap.size, 5, none⟩ (.int .i64 0)).setCell ⟨w.heap.size, 6, none⟩ (.int .i64 0)).setCell ⟨w.heap.size, 7, none⟩ (.slice none 0 0)).setCell ⟨w.heap.size, 8, none⟩ (.slice none 0 0)).setCell ⟨w.heap.size, 9, none⟩ (.slice none 0 0)) = w9 at hF10 hB9 ⊢
      have fc0 : w9.cell? ⟨w.heap.size, 0, none⟩ = some (.int .i64 0) := hF10.cell 0
      have fc1 : w9.cell? ⟨w.heap.size, 1, none⟩ = some (.int .i64 0) := hF10.cell 1
      have fc2 : w9.cell? ⟨w.heap.size, 2, none⟩ = some (.int .i64 0) := hF10.cell 2
      have fc3 : w9.cell? ⟨w.heap.size, 3, none⟩ = some (.int .i64 0) := hF10.cell 3
      have fc4 : w9.cell? ⟨w.heap.size, 4, none⟩ = some (.int .i64 0) := hF10.cell 4
      have fc5 : w9.cell? ⟨w.heap.size, 5, none⟩ = some (.int .i64 0) := hF10.cell 5
      have fc6 : w9.cell? ⟨w.heap.size, 6, none⟩ = some (.int .i64 0) := hF10.cell 6
      have fc7 : w9.cell? ⟨w.heap.size, 7, none⟩ = some (.slice none 0 0) := hF10.cell 7
      have fc8 : w9.cell? ⟨w.heap.size, 8, none⟩ = some (.slice none 0 0) := hF10.cell 8
      have fc9 : w9.cell? ⟨w.heap.size, 9, none⟩ = some (.slice none 0 0) := hF10.cell 9
      exact bodyPost_ret (v := .tuple #[.agg #[.int .i64 0, .int .i64 0, .int .i64 0, .int .i64 0, .int .i64 0, .int .i64 0, .int .i64 0, .slice none 0 0, .slice none 0 0, .slice none 0 0], .bool false]) (by simp [results, Tryd.results8, go_sem, fc0, fc1, fc2, fc3, fc4, fc5, fc6, fc7, fc8, fc9]) rfl ⟨_, _, by rw [HU.out], by rw [HU.out]; exact zero_own _ _, hB9⟩
  · have HU := Lib.hid (InoV.unpackI_short h96)
    have hz96 : ((s.size : Int) != 96) = true := by simp; exact fun e => h96 (by omega)
    have hz97 : ((s.size : Int) == 96) = false := by simp; exact fun e => h96 (by omega)
    clear h96
    obtain ⟨z0, z1, z2, z3, z4, z5, z6, z7, z8, z9⟩ := Bk.c10 HR.out
    have ze0 := HR.out.free 0
    have ze1 := HR.out.free 1
    have ze2 := HR.out.free 2
    have ze3 := HR.out.free 3
    have ze4 := HR.out.free 4
    have ze5 := HR.out.free 5
    have ze6 := HR.out.free 6
    have ze7 := HR.out.free 7
    have ze8 := HR.out.free 8
    have ze9 := HR.out.free 9
    go_enter Tryd.func8, Tryd.ntmps8
    go_wp2_with fail
    exact bodyPost_ret (v := .tuple #[.agg #[.int .i64 0, .int .i64 0, .int .i64 0, .int .i64 0, .int .i64 0, .int .i64 0, .int .i64 0, .slice none 0 0, .slice none 0 0, .slice none 0 0], .bool false]) (by simp [results, Tryd.results8, go_sem, z0, z1, z2, z3, z4, z5, z6, z7, z8, z9]) rfl ⟨_, _, by rw [HU.out], by rw [HU.out]; exact zero_own _ _, HB.out⟩
end Go.Proofs.YthobdeidjagnhaaDoor.InUi

-- YthobdeidjagnhaaDoorInUs
/- Contract: the model's UnpackInode, for every string of at most 2^20 bytes. Conditions: as the theorem types them. -/
namespace Go.Proofs.YthobdeidjagnhaaDoor.InUs
open Go.ChangeShapes Go.WideShapes Go.ChangeAt Go.RowKit
open Foot Bx
open InoV (I num readI unpackI packI okI readB needN needV optL)
open AclV (unpackV)
open InOk (Vars)
open InUp
open InUi (opt_res un_yes un_no zero_own need_le acl_len read_cost in_holds in_own need_nn not_empty)
set_option linter.unusedVariables false

set_option maxRecDepth 100000 in
set_option maxHeartbeats 6400000 in
theorem unpack_any (s : ByteArray) (w : World) (hs : s.size ≤ 1048576) :
    Calls Tryd.prog 19 #[.string s] w fun e w' => ∃ v S, e = .returned (.tuple #[v, .bool (unpackI s).2]) ∧ In.Own w' w.heap.size v (unpackI s).1 S ∧ Below w.heap.size w w' := by
  have HB := Lib.hid ((Below.refl w.heap.size w).alloc (Nat.le_refl _) (.cells #[.int .i64 0, .int .i64 0, .int .i64 0, .int .i64 0, .int .i64 0, .int .i64 0, .int .i64 0, .slice none 0 0, .slice none 0 0, .slice none 0 0] 26))
  have HR := Lib.hid (new w #[.int .i64 0, .int .i64 0, .int .i64 0, .int .i64 0, .int .i64 0, .int .i64 0, .int .i64 0, .slice none 0 0, .slice none 0 0, .slice none 0 0] 26)
  by_cases h96 : s.size = 96
  · have hn5 := num2_lt s 7 (by omega)
    have hnd := need_nn hn5.1 hn5.2
    have HG0 := Lib.hid (fun W => get_spec s 0 1 W (by omega) (by omega) (by omega) (by omega))
    have HG1 := Lib.hid (fun W => get_spec s 1 2 W (by omega) (by omega) (by omega) (by omega))
    have HG2 := Lib.hid (fun W => get_spec s 3 1 W (by omega) (by omega) (by omega) (by omega))
    have HG3 := Lib.hid (fun W => get_spec s 4 1 W (by omega) (by omega) (by omega) (by omega))
    have HG4 := Lib.hid (fun W => get_spec s 5 2 W (by omega) (by omega) (by omega) (by omega))
    have HG5 := Lib.hid (fun W => get_spec s 7 2 W (by omega) (by omega) (by omega) (by omega))
    have HG6 := Lib.hid (fun W => get_spec s 9 4 W (by omega) (by omega) (by omega) (by omega))
    have HGB := Lib.hid (fun (k : Nat) (hk : k < 8) W => get_spec s (13 + 2 * k) 2 W (by omega) (by omega) (by omega) (by omega))
    have HBD := Lib.hid (fun (k : Nat) (hk : k < 8) => num2_lt s (13 + 2 * k) (by omega))
    have HRS := Lib.hid (InoV.readB_succ s)
    have HRL := Lib.hid (InoV.readB_length s)
    have HND := Lib.hid (fun W => InEq.need_spec (num s 7 2) W (by unfold Rg; omega))
    have HYES := Lib.hid (fun h => un_yes h96 h)
    have HNO := Lib.hid (fun h => un_no (s := s) h)
    have HSE := Lib.hid (not_empty (P := s) (fun e => by rw [e] at h96; cases h96))
    have HA1 := Lib.hid (fun W => AclU.spec_any (s.extract 29 48) W (by rw [ByteArray.size_extract]; omega))
    have HA2 := Lib.hid (fun W => AclU.spec_any (s.extract 48 67) W (by rw [ByteArray.size_extract]; omega))
    rw [show (AclU.resR (unpackV (s.extract 29 48))).1 = (readI s).acl from opt_res _] at HA1
    rw [show (AclU.resR (unpackV (s.extract 48 67))).1 = (readI s).dflt from opt_res _] at HA2
    have HPK := Lib.hid (fun W v (h : In.Holds W v (readI s)) => InPs.pack_any W v (readI s) (Nat.le_trans (read_cost s) (by omega)) h)
    have hz96 : ((s.size : Int) != 96) = false := by simp [h96]
    have hz97 : ((s.size : Int) == 96) = true := by simp [h96]
    have hz48 : (48 : Int) ≤ (s.size : Int) := by omega
    have hz67 : (67 : Int) ≤ (s.size : Int) := by omega
    have HFLD := Lib.hid (show (readI s).kind = num s 0 1 ∧ (readI s).mode = num s 1 2 ∧ (readI s).uid = num s 3 1 ∧ (readI s).gid = num s 4 1 ∧ (readI s).links = num s 5 2 ∧ (readI s).size = num s 7 2 ∧ (readI s).tick = num s 9 4 from ⟨rfl, rfl, rfl, rfl, rfl, rfl, rfl⟩)
    obtain ⟨i0, hi, hy0, hy1, hy2⟩ := info_parts Ni.intInfo
    have HF0 := Lib.hid hi
    have HF1 := Lib.hid hy0
    have HF2 := Lib.hid hy1
    have HF3 := Lib.hid hy2
    clear hi hy0 hy1 hy2 h96 hn5
    have hneed : ∃ N : Nat, N = needN s := ⟨_, rfl⟩
    obtain ⟨N, hN⟩ := hneed
    have hN8 : N ≤ 8 := by rw [hN]; exact need_le s
    have hNN : N = min (needV (num s 7 2)).toNat 8 := by rw [hN]; rfl
    have HBN := Lib.hid (show (readI s).blocks = readB s N by rw [hN]; rfl)
    clear hN
    have hbx := Joins.below_alloc1 (w.alloc (.cells #[.int .i64 0, .int .i64 0, .int .i64 0, .int .i64 0, .int .i64 0, .int .i64 0, .int .i64 0, .slice none 0 0, .slice none 0 0, .slice none 0 0] 26)) (.cells #[.int .i64 0, .int .i64 0, .int .i64 0, .int .i64 0, .int .i64 0, .int .i64 0, .int .i64 0, .slice none 0 0, .slice none 0 0, .slice none 0 0] 26)
    replace HR := Lib.hid (HR.out.all hbx)
    replace HB := Lib.hid (HB.out.trans (hbx.mono HB.out.size))
    have HX := Lib.hid (new_at (w.alloc (.cells #[.int .i64 0, .int .i64 0, .int .i64 0, .int .i64 0, .int .i64 0, .int .i64 0, .int .i64 0, .slice none 0 0, .slice none 0 0, .slice none 0 0] 26)) #[.int .i64 0, .int .i64 0, .int .i64 0, .int .i64 0, .int .i64 0, .int .i64 0, .int .i64 0, .slice none 0 0, .slice none 0 0, .slice none 0 0] 26 (w.heap.size + 1) (by simp))
    clear hbx
    generalize InoV.num s 0 1 = m0 at HFLD HG0
    generalize InoV.num s 1 2 = m1 at HFLD HG1
    generalize InoV.num s 3 1 = m2 at HFLD HG2
    generalize InoV.num s 4 1 = m3 at HFLD HG3
    generalize InoV.num s 5 2 = m4 at HFLD HG4
    generalize InoV.num s 7 2 = m5 at HFLD HG5 HND hnd hNN
    generalize InoV.num s 9 4 = m6 at HFLD HG6
    generalize needV m5 = nd at HND hnd hNN
    go_enter Tryd.func19, Tryd.ntmps19
    go_wp2_with fail
    generalize ((w.alloc (.cells #[.int .i64 0, .int .i64 0, .int .i64 0, .int .i64 0, .int .i64 0, .int .i64 0, .int .i64 0, .slice none 0 0, .slice none 0 0, .slice none 0 0] 26)).alloc (.cells #[.int .i64 0, .int .i64 0, .int .i64 0, .int .i64 0, .int .i64 0, .int .i64 0, .int .i64 0, .slice none 0 0, .slice none 0 0, .slice none 0 0] 26)) = v0 at HX HR HB ⊢
    refine (HG0.out _).mono ?_
    rintro e wq ⟨rfl, rfl⟩
    have xc : v0.cell? ⟨w.heap.size + 1, 0, none⟩ = some (.int .i64 0) := HX.out.cell 0
    have xf := HX.out.free 0
    have hX : Bk _ _ #[.int .i64 m0, .int .i64 0, .int .i64 0, .int .i64 0, .int .i64 0, .int .i64 0, .int .i64 0, .slice none 0 0, .slice none 0 0, .slice none 0 0] _ := HX.out.put 0 (.int .i64 m0)
    have hR := HR.out.far (p := ⟨w.heap.size + 1, 0, none⟩) (by simp) (.int .i64 m0)
    have hB := HB.out.setCell (p := ⟨w.heap.size + 1, 0, none⟩) (by simp) (.int .i64 m0)
    go_wp2_with fail
    generalize v0.setCell ⟨w.heap.size + 1, 0, none⟩ (.int .i64 m0) = v1 at hX hR hB ⊢
    replace HX := Lib.hid hX
    replace HR := Lib.hid hR
    replace HB := Lib.hid hB
    clear hX hR hB xc xf
    refine (HG1.out _).mono ?_
    rintro e wq ⟨rfl, rfl⟩
    have xc : v1.cell? ⟨w.heap.size + 1, 1, none⟩ = some (.int .i64 0) := HX.out.cell 1
    have xf := HX.out.free 1
    have hX : Bk _ _ #[.int .i64 m0, .int .i64 m1, .int .i64 0, .int .i64 0, .int .i64 0, .int .i64 0, .int .i64 0, .slice none 0 0, .slice none 0 0, .slice none 0 0] _ := HX.out.put 1 (.int .i64 m1)
    have hR := HR.out.far (p := ⟨w.heap.size + 1, 1, none⟩) (by simp) (.int .i64 m1)
    have hB := HB.out.setCell (p := ⟨w.heap.size + 1, 1, none⟩) (by simp) (.int .i64 m1)
    go_wp2_with fail
    generalize v1.setCell ⟨w.heap.size + 1, 1, none⟩ (.int .i64 m1) = v2 at hX hR hB ⊢
    replace HX := Lib.hid hX
    replace HR := Lib.hid hR
    replace HB := Lib.hid hB
    clear hX hR hB xc xf
    refine (HG2.out _).mono ?_
    rintro e wq ⟨rfl, rfl⟩
    have xc : v2.cell? ⟨w.heap.size + 1, 2, none⟩ = some (.int .i64 0) := HX.out.cell 2
    have xf := HX.out.free 2
    have hX : Bk _ _ #[.int .i64 m0, .int .i64 m1, .int .i64 m2, .int .i64 0, .int .i64 0, .int .i64 0, .int .i64 0, .slice none 0 0, .slice none 0 0, .slice none 0 0] _ := HX.out.put 2 (.int .i64 m2)
    have hR := HR.out.far (p := ⟨w.heap.size + 1, 2, none⟩) (by simp) (.int .i64 m2)
    have hB := HB.out.setCell (p := ⟨w.heap.size + 1, 2, none⟩) (by simp) (.int .i64 m2)
    go_wp2_with fail
    generalize v2.setCell ⟨w.heap.size + 1, 2, none⟩ (.int .i64 m2) = v3 at hX hR hB ⊢
    replace HX := Lib.hid hX
    replace HR := Lib.hid hR
    replace HB := Lib.hid hB
    clear hX hR hB xc xf
    refine (HG3.out _).mono ?_
    rintro e wq ⟨rfl, rfl⟩
    have xc : v3.cell? ⟨w.heap.size + 1, 3, none⟩ = some (.int .i64 0) := HX.out.cell 3
    have xf := HX.out.free 3
    have hX : Bk _ _ #[.int .i64 m0, .int .i64 m1, .int .i64 m2, .int .i64 m3, .int .i64 0, .int .i64 0, .int .i64 0, .slice none 0 0, .slice none 0 0, .slice none 0 0] _ := HX.out.put 3 (.int .i64 m3)
    have hR := HR.out.far (p := ⟨w.heap.size + 1, 3, none⟩) (by simp) (.int .i64 m3)
    have hB := HB.out.setCell (p := ⟨w.heap.size + 1, 3, none⟩) (by simp) (.int .i64 m3)
    go_wp2_with fail
    generalize v3.setCell ⟨w.heap.size + 1, 3, none⟩ (.int .i64 m3) = v4 at hX hR hB ⊢
    replace HX := Lib.hid hX
    replace HR := Lib.hid hR
    replace HB := Lib.hid hB
    clear hX hR hB xc xf
    refine (HG4.out _).mono ?_
    rintro e wq ⟨rfl, rfl⟩
    have xc : v4.cell? ⟨w.heap.size + 1, 4, none⟩ = some (.int .i64 0) := HX.out.cell 4
    have xf := HX.out.free 4
    have hX : Bk _ _ #[.int .i64 m0, .int .i64 m1, .int .i64 m2, .int .i64 m3, .int .i64 m4, .int .i64 0, .int .i64 0, .slice none 0 0, .slice none 0 0, .slice none 0 0] _ := HX.out.put 4 (.int .i64 m4)
    have hR := HR.out.far (p := ⟨w.heap.size + 1, 4, none⟩) (by simp) (.int .i64 m4)
    have hB := HB.out.setCell (p := ⟨w.heap.size + 1, 4, none⟩) (by simp) (.int .i64 m4)
    go_wp2_with fail
    generalize v4.setCell ⟨w.heap.size + 1, 4, none⟩ (.int .i64 m4) = v5 at hX hR hB ⊢
    replace HX := Lib.hid hX
    replace HR := Lib.hid hR
    replace HB := Lib.hid hB
    clear hX hR hB xc xf
    refine (HG5.out _).mono ?_
    rintro e wq ⟨rfl, rfl⟩
    have xc : v5.cell? ⟨w.heap.size + 1, 5, none⟩ = some (.int .i64 0) := HX.out.cell 5
    have xf := HX.out.free 5
    have hX : Bk _ _ #[.int .i64 m0, .int .i64 m1, .int .i64 m2, .int .i64 m3, .int .i64 m4, .int .i64 m5, .int .i64 0, .slice none 0 0, .slice none 0 0, .slice none 0 0] _ := HX.out.put 5 (.int .i64 m5)
    have hR := HR.out.far (p := ⟨w.heap.size + 1, 5, none⟩) (by simp) (.int .i64 m5)
    have hB := HB.out.setCell (p := ⟨w.heap.size + 1, 5, none⟩) (by simp) (.int .i64 m5)
    go_wp2_with fail
    generalize v5.setCell ⟨w.heap.size + 1, 5, none⟩ (.int .i64 m5) = v6 at hX hR hB ⊢
    replace HX := Lib.hid hX
    replace HR := Lib.hid hR
    replace HB := Lib.hid hB
    clear hX hR hB xc xf
    refine (HG6.out _).mono ?_
    rintro e wq ⟨rfl, rfl⟩
    have xc : v6.cell? ⟨w.heap.size + 1, 6, none⟩ = some (.int .i64 0) := HX.out.cell 6
    have xf := HX.out.free 6
    have hX : Bk _ _ #[.int .i64 m0, .int .i64 m1, .int .i64 m2, .int .i64 m3, .int .i64 m4, .int .i64 m5, .int .i64 m6, .slice none 0 0, .slice none 0 0, .slice none 0 0] _ := HX.out.put 6 (.int .i64 m6)
    have hR := HR.out.far (p := ⟨w.heap.size + 1, 6, none⟩) (by simp) (.int .i64 m6)
    have hB := HB.out.setCell (p := ⟨w.heap.size + 1, 6, none⟩) (by simp) (.int .i64 m6)
    go_wp2_with fail
    generalize v6.setCell ⟨w.heap.size + 1, 6, none⟩ (.int .i64 m6) = v7 at hX hR hB ⊢
    replace HX := Lib.hid hX
    replace HR := Lib.hid hR
    replace HB := Lib.hid hB
    clear hX hR hB xc xf
    have HLT := Lib.hid HX.out.lt
    go_loopw [5] (fun iv wr => ∃ (k : Nat) (ba : Option Addr) (bc : Nat), k ≤ N ∧ iv = .int .i64 k ∧ wr.ownsRow (w.heap.size + 1 + 1) 3 1 (.slice ba k bc) k (NiF.cells (readB s k)) ∧ Bk wr (w.heap.size + 1) #[.int .i64 m0, .int .i64 m1, .int .i64 m2, .int .i64 m3, .int .i64 m4, .int .i64 m5, .int .i64 m6, .slice ba k bc, .slice none 0 0, .slice none 0 0] 26 ∧ Bk wr w.heap.size #[.int .i64 0, .int .i64 0, .int .i64 0, .int .i64 0, .int .i64 0, .int .i64 0, .int .i64 0, .slice none 0 0, .slice none 0 0, .slice none 0 0] 26 ∧ Below w.heap.size w wr) (fun iv _ => N - (intOf iv).toNat)
    case atStart => exact ⟨0, none, 0, Nat.zero_le _, rfl, InEq.own_nil1 _ _ _, HX.out, HR.out, HB.out⟩
    case round =>
      obtain ⟨k, ba, bc, hk, rfl, hown, hx, hr, hbel⟩ := hrel
      replace HB := Lib.hid hbel
      replace HX := Lib.hid hx
      replace HR := Lib.hid hr
      have HOWN := Lib.hid hown
      have hlt1 := HX.out.lt
      have hsz := hbel.size
      clear hx hr hbel hown
      have xc5 : wr.cell? ⟨w.heap.size + 1, 5, none⟩ = some (.int .i64 m5) := HX.out.cell 5
      have xc7 : wr.cell? ⟨w.heap.size + 1, 7, none⟩ = some (.slice ba k bc) := HX.out.cell 7
      have xf7 := HX.out.free 7
      by_cases hlt : k < N
      · have hd1 : (k : Int) < nd := by omega
        have hd8 : (k : Int) < 8 := by omega
        have hget := HGB.out k (by omega)
        rw [show (((13 + 2 * k : Nat)) : Int) = 13 + 2 * (k : Int) from by omega] at hget
        have hbd := HBD.out k (by omega)
        have HNX := Lib.hid (HRS.out k)
        generalize num s (13 + 2 * k) 2 = y at hget hbd HNX
        have HGET := Lib.hid hget
        clear hget
        go_wp2_with fail
        refine (HND.out _).mono ?_
        rintro e wq ⟨rfl, rfl⟩
        go_wp2_with fail
        refine (HGET.out _).mono ?_
        rintro e wq ⟨rfl, rfl⟩
        go_wp2_with (first | (at_builtin; refine wpList_append_own _ rfl _ _ 23 rfl (w.heap.size + 1 + 1) 3 i0 (.int .i64 0) 1 8 Tryd.underlying23 HF0.out HF1.out HF2.out HF3.out rfl (by decide) _ _ _ rfl (HOWN.out.alloc _) ⟨wr.heap.size, 0, none⟩ 1 1 [.int .i64 (y - 1)] rfl rfl ?c1 ?c2 ?c3 ?c4 ?c5 ?_))
        case c1 => exact InEq.cells1_new _ _ _
        case c2 => simp [Value.oneCell']
        case c3 => unfold maxLen; omega
        case c4 => omega
        case c5 => simp; omega
        intro v' w6 hown1 hg1 _
        obtain ⟨b6, c6, rfl⟩ := Dk.slice_of hown1
        have HO1 := hown1
        have hx1 := (HX.out.alloc (.cells #[.int .i64 (y - 1)] 3)).grown hg1 (fun e => by have := (HOWN.out.lt _ e.symm).1; omega)
        have hr1 := (HR.out.alloc (.cells #[.int .i64 (y - 1)] 3)).grown hg1 (fun e => by have := (HOWN.out.lt _ e.symm).1; omega)
        have hb1 := (HB.out.alloc HB.out.size (.cells #[.int .i64 (y - 1)] 3)).grown hg1 (by have := HB.out.size; simp; omega) (fun k hk => by have := (HOWN.out.lt k hk).1; omega)
        have zc7 : w6.cell? ⟨w.heap.size + 1, 7, none⟩ = some (.slice ba k bc) := hx1.cell 7
        have zf7 := hx1.free 7
        have hX : Bk _ _ #[.int .i64 m0, .int .i64 m1, .int .i64 m2, .int .i64 m3, .int .i64 m4, .int .i64 m5, .int .i64 m6, .slice b6 (k + 1) c6, .slice none 0 0, .slice none 0 0] _ := hx1.put 7 (.slice b6 (k + 1) c6)
        have hR := hr1.far (p := ⟨w.heap.size + 1, 7, none⟩) (by simp) (.slice b6 (k + 1) c6)
        have hB := hb1.setCell (p := ⟨w.heap.size + 1, 7, none⟩) (by simp) (.slice b6 (k + 1) c6)
        have hO := ownsRow_setCell_below HO1 (a := ⟨w.heap.size + 1, 7, none⟩) (by simp) (.slice b6 (k + 1) c6)
        have HXN := Lib.hid hX
        have HRN := Lib.hid hR
        have HBN2 := Lib.hid hB
        have HON := Lib.hid hO
        clear hX hR hB hO hown1 hg1 hx1 hr1 hb1 HO1 xc5 xc7 xf7
        go_wp2
        go_roundw
        case rel => exact ⟨k + 1, b6, c6, by omega, by go_num, by rw [HNX.out]; unfold NiF.cells; rw [List.map_append]; exact HON.out, HXN.out, HRN.out, HBN2.out⟩
        case measure => simp [intOf]; omega
      · obtain rfl : k = N := by omega
        have hrl := HRL.out k
        have HOB0 := Lib.hid (show NiF.Own wr (w.heap.size + 1 + 1) (.slice ba (readI s).blocks.length bc) (readI s).blocks (fpR (.slice ba (readI s).blocks.length bc)) from by
          refine ⟨?_, rfl⟩
          rw [HBN.out, hrl]; exact HOWN.out)
        have hbl2 : k = (readI s).blocks.length := by rw [HBN.out, hrl]
        have HLB0 := Lib.hid (NiF.own_lies HOB0.out)
        have HXB := Lib.hid (show Bk wr (w.heap.size + 1) #[.int .i64 m0, .int .i64 m1, .int .i64 m2, .int .i64 m3, .int .i64 m4, .int .i64 m5, .int .i64 m6, .slice ba (readI s).blocks.length bc, .slice none 0 0, .slice none 0 0] 26 from by rw [← hbl2]; exact HX.out)
        have HEQ := Lib.hid hbl2
        clear hrl hbl2 HOWN
        replace HX := HXB
        have HOB := HOB0
        have HLB := HLB0
        clear HXB HOB0 HLB0 HEQ xc7 xf7 hN8
        by_cases hnd8 : (k : Int) < nd
        · have hd8 : decide ((k : Int) < 8) = false := decide_eq_false (by omega)
          have hk8 : ¬ (k : Int) < 8 := by omega
          clear hNN hlt hk hnd
          go_wp2_with fail
          refine (HND.out _).mono ?_
          rintro e wq ⟨rfl, rfl⟩
          clear xc5
          go_wp2_with fail
          refine (HA1.out _).mono ?_
          rintro e we ⟨va, rfl, hown, hb⟩
          obtain ⟨aa, ac, rfl⟩ := Dk.slice_of hown
          have se := hb.size
          replace HX := Lib.hid (HX.out.all hb)
          replace HR := Lib.hid (HR.out.all hb)
          replace HOB := Lib.hid (NiF.own_below HOB.out hb)
          replace HB := Lib.hid (HB.out.trans (hb.mono HB.out.size))
          have HLA := Lib.hid (row_lies hown)
          have HOA := Lib.hid (show AeF.Own we (w.heap.size + 1 + 1) _ (readI s).acl (fpR (.slice aa (readI s).acl.length ac)) from AeF.own_mono (show AeF.Own we _ _ _ _ from ⟨hown, rfl⟩) (by omega))
          clear hown hb
          have xc8 : we.cell? ⟨w.heap.size + 1, 8, none⟩ = some (.slice none 0 0) := HX.out.cell 8
          have xf8 := HX.out.free 8
          have hX : Bk _ _ #[.int .i64 m0, .int .i64 m1, .int .i64 m2, .int .i64 m3, .int .i64 m4, .int .i64 m5, .int .i64 m6, (.slice ba (readI s).blocks.length bc), (.slice aa (readI s).acl.length ac), .slice none 0 0] _ := HX.out.put 8 (.slice aa (readI s).acl.length ac)
          have hR := HR.out.far (p := ⟨w.heap.size + 1, 8, none⟩) (by first | (simp; done) | (simp; omega)) (.slice aa (readI s).acl.length ac)
          have hB := HB.out.setCell (p := ⟨w.heap.size + 1, 8, none⟩) (by first | (simp; done) | (simp; omega)) (.slice aa (readI s).acl.length ac)
          have hO := NiF.own_set HOB.out (a := ⟨w.heap.size + 1, 8, none⟩) (by simp) (.slice aa (readI s).acl.length ac)
          have hA := AeF.own_set HOA.out (a := ⟨w.heap.size + 1, 8, none⟩) (by simp) (.slice aa (readI s).acl.length ac)
          replace HX := Lib.hid hX
          replace HR := Lib.hid hR
          replace HB := Lib.hid hB
          replace HOB := Lib.hid hO
          replace HOA := Lib.hid hA
          clear hX hR hB hO hA
          go_wp2_with fail
          clear xc8 xf8
          refine (HA2.out _).mono ?_
          rintro e wg ⟨vd, rfl, hown, hb⟩
          obtain ⟨da, dc, rfl⟩ := Dk.slice_of hown
          have sg := hb.size
          simp only [World.size_setCell] at sg
          replace HX := Lib.hid (HX.out.all hb)
          replace HR := Lib.hid (HR.out.all hb)
          replace HOB := Lib.hid (NiF.own_below HOB.out hb)
          replace HOA := Lib.hid (AeF.own_below HOA.out hb)
          replace HB := Lib.hid (HB.out.trans (hb.mono HB.out.size))
          have hld := row_lies hown
          simp only [World.size_setCell] at hown hld
          have HLD := Lib.hid hld
          have HOD := Lib.hid (show AeF.Own wg (w.heap.size + 1 + 1) _ (readI s).dflt (fpR (.slice da (readI s).dflt.length dc)) from AeF.own_mono (show AeF.Own wg _ _ _ _ from ⟨hown, rfl⟩) (by omega))
          clear hown hb hld
          have xc9 : wg.cell? ⟨w.heap.size + 1, 9, none⟩ = some (.slice none 0 0) := HX.out.cell 9
          have xf9 := HX.out.free 9
          have hX : Bk _ _ #[.int .i64 m0, .int .i64 m1, .int .i64 m2, .int .i64 m3, .int .i64 m4, .int .i64 m5, .int .i64 m6, (.slice ba (readI s).blocks.length bc), (.slice aa (readI s).acl.length ac), (.slice da (readI s).dflt.length dc)] _ := HX.out.put 9 (.slice da (readI s).dflt.length dc)
          have hR := HR.out.far (p := ⟨w.heap.size + 1, 9, none⟩) (by first | (simp; done) | (simp; omega)) (.slice da (readI s).dflt.length dc)
          have hB := HB.out.setCell (p := ⟨w.heap.size + 1, 9, none⟩) (by first | (simp; done) | (simp; omega)) (.slice da (readI s).dflt.length dc)
          have hO := NiF.own_set HOB.out (a := ⟨w.heap.size + 1, 9, none⟩) (by simp) (.slice da (readI s).dflt.length dc)
          have hA := AeF.own_set HOA.out (a := ⟨w.heap.size + 1, 9, none⟩) (by simp) (.slice da (readI s).dflt.length dc)
          have hD := AeF.own_set HOD.out (a := ⟨w.heap.size + 1, 9, none⟩) (by simp) (.slice da (readI s).dflt.length dc)
          replace HX := Lib.hid hX
          replace HR := Lib.hid hR
          replace HB := Lib.hid hB
          replace HOB := Lib.hid hO
          replace HOA := Lib.hid hA
          replace HOD := Lib.hid hD
          clear hX hR hB hO hA hD
          have sh : wg.heap.size ≤ (wg.setCell ⟨w.heap.size + 1, 9, none⟩ (.slice da (readI s).dflt.length dc)).heap.size := by simp
          obtain ⟨x0, x1, x2, x3, x4, x5, x6, x7, x8, x9⟩ := Bk.c10 HX.out
          have HIH := Lib.hid (fun (W : World) (hb : Below (wg.setCell ⟨w.heap.size + 1, 9, none⟩ (.slice da (readI s).dflt.length dc)).heap.size (wg.setCell ⟨w.heap.size + 1, 9, none⟩ (.slice da (readI s).dflt.length dc)) W) => in_holds HFLD.out (NiF.own_holds (NiF.own_below HOB.out hb)) (AeF.own_holds (AeF.own_below HOA.out hb)) (AeF.own_holds (AeF.own_below HOD.out hb)))
          have HOWN := Lib.hid (fun (W : World) (hb : Below (wg.setCell ⟨w.heap.size + 1, 9, none⟩ (.slice da (readI s).dflt.length dc)).heap.size (wg.setCell ⟨w.heap.size + 1, 9, none⟩ (.slice da (readI s).dflt.length dc)) W) => in_own HFLD.out (NiF.own_below HOB.out hb) (AeF.own_below HOA.out hb) (AeF.own_below HOD.out hb) (Lies.apart HLB.out HLA.out (by omega)) (Lies.apart HLB.out HLD.out (by omega)) (Lies.apart HLA.out HLD.out (by omega)))
          clear HOB HOA HOD
          go_wp2_with fail
          clear xc9 xf9
          generalize wg.setCell ⟨w.heap.size + 1, 9, none⟩ (.slice da (readI s).dflt.length dc) = wh at HIH HOWN HX HR HB sh x0 x1 x2 x3 x4 x5 x6 x7 x8 x9 ⊢
          refine (HPK.out _ (.agg #[.int .i64 m0, .int .i64 m1, .int .i64 m2, .int .i64 m3, .int .i64 m4, .int .i64 m5, .int .i64 m6, .slice ba (readI s).blocks.length bc, .slice aa (readI s).acl.length ac, .slice da (readI s).dflt.length dc]) (HIH.out _ (Below.refl _ _))).mono ?_
          rintro e wi ⟨rfl, hb⟩
          replace HX := Lib.hid (HX.out.all hb)
          replace HR := Lib.hid (HR.out.all hb)
          replace HB := Lib.hid (HB.out.trans (hb.mono HB.out.size))
          clear x0 x1 x2 x3 x4 x5 x6 x7 x8 x9
          have HB1 := Lib.hid hb
          clear hb
          obtain ⟨x0, x1, x2, x3, x4, x5, x6, x7, x8, x9⟩ := Bk.c10 HX.out
          by_cases he : packI (readI s) = s
          · have HU := Lib.hid (HYES.out he)
            have hsn := HSE.out
            rw [he] at HPK ⊢
            clear he
            go_wp2_with fail
            refine (HPK.out _ (.agg #[.int .i64 m0, .int .i64 m1, .int .i64 m2, .int .i64 m3, .int .i64 m4, .int .i64 m5, .int .i64 m6, .slice ba (readI s).blocks.length bc, .slice aa (readI s).acl.length ac, .slice da (readI s).dflt.length dc]) (HIH.out _ HB1.out)).mono ?_
            rintro e wj ⟨rfl, hb⟩
            replace HX := Lib.hid (HX.out.all hb)
            replace HR := Lib.hid (HR.out.all hb)
            replace HB := Lib.hid (HB.out.trans (hb.mono HB.out.size))
            clear x0 x1 x2 x3 x4 x5 x6 x7 x8 x9
            have HBB := Lib.hid (HB1.out.trans (hb.mono HB1.out.size))
            clear hb
            obtain ⟨z0, z1, z2, z3, z4, z5, z6, z7, z8, z9⟩ := Bk.c10 HR.out
            have ze0 := HR.out.free 0
            have ze1 := HR.out.free 1
            have ze2 := HR.out.free 2
            have ze3 := HR.out.free 3
            have ze4 := HR.out.free 4
            have ze5 := HR.out.free 5
            have ze6 := HR.out.free 6
            have ze7 := HR.out.free 7
            have ze8 := HR.out.free 8
            have ze9 := HR.out.free 9
            obtain ⟨x0, x1, x2, x3, x4, x5, x6, x7, x8, x9⟩ := Bk.c10 HX.out
            go_wp2_with fail
            have hO9 := HOWN.out wj HBB.out
            have hF0 := HR.out
            have hF1 : Bk _ _ #[.int .i64 m0, .int .i64 0, .int .i64 0, .int .i64 0, .int .i64 0, .int .i64 0, .int .i64 0, .slice none 0 0, .slice none 0 0, .slice none 0 0] _ := hF0.put 0 (.int .i64 m0)
            clear hF0
            have hF2 : Bk _ _ #[.int .i64 m0, .int .i64 m1, .int .i64 0, .int .i64 0, .int .i64 0, .int .i64 0, .int .i64 0, .slice none 0 0, .slice none 0 0, .slice none 0 0] _ := hF1.put 1 (.int .i64 m1)
            clear hF1
            have hF3 : Bk _ _ #[.int .i64 m0, .int .i64 m1, .int .i64 m2, .int .i64 0, .int .i64 0, .int .i64 0, .int .i64 0, .slice none 0 0, .slice none 0 0, .slice none 0 0] _ := hF2.put 2 (.int .i64 m2)
            clear hF2
            have hF4 : Bk _ _ #[.int .i64 m0, .int .i64 m1, .int .i64 m2, .int .i64 m3, .int .i64 0, .int .i64 0, .int .i64 0, .slice none 0 0, .slice none 0 0, .slice none 0 0] _ := hF3.put 3 (.int .i64 m3)
            clear hF3
            have hF5 : Bk _ _ #[.int .i64 m0, .int .i64 m1, .int .i64 m2, .int .i64 m3, .int .i64 m4, .int .i64 0, .int .i64 0, .slice none 0 0, .slice none 0 0, .slice none 0 0] _ := hF4.put 4 (.int .i64 m4)
            clear hF4
            have hF6 : Bk _ _ #[.int .i64 m0, .int .i64 m1, .int .i64 m2, .int .i64 m3, .int .i64 m4, .int .i64 m5, .int .i64 0, .slice none 0 0, .slice none 0 0, .slice none 0 0] _ := hF5.put 5 (.int .i64 m5)
            clear hF5
            have hF7 : Bk _ _ #[.int .i64 m0, .int .i64 m1, .int .i64 m2, .int .i64 m3, .int .i64 m4, .int .i64 m5, .int .i64 m6, .slice none 0 0, .slice none 0 0, .slice none 0 0] _ := hF6.put 6 (.int .i64 m6)
            clear hF6
            have hF8 : Bk _ _ #[.int .i64 m0, .int .i64 m1, .int .i64 m2, .int .i64 m3, .int .i64 m4, .int .i64 m5, .int .i64 m6, .slice ba (readI s).blocks.length bc, .slice none 0 0, .slice none 0 0] _ := hF7.put 7 (.slice ba (readI s).blocks.length bc)
            clear hF7
            have hF9 : Bk _ _ #[.int .i64 m0, .int .i64 m1, .int .i64 m2, .int .i64 m3, .int .i64 m4, .int .i64 m5, .int .i64 m6, .slice ba (readI s).blocks.length bc, .slice aa (readI s).acl.length ac, .slice none 0 0] _ := hF8.put 8 (.slice aa (readI s).acl.length ac)
            clear hF8
            have hF10 : Bk _ _ #[.int .i64 m0, .int .i64 m1, .int .i64 m2, .int .i64 m3, .int .i64 m4, .int .i64 m5, .int .i64 m6, .slice ba (readI s).blocks.length bc, .slice aa (readI s).acl.length ac, .slice da (readI s).dflt.length dc] _ := hF9.put 9 (.slice da (readI s).dflt.length dc)
            clear hF9
            have hB9 := ((((((((((HB.out.setCell (p := ⟨w.heap.size, 0, none⟩) (Nat.le_refl _) (.int .i64 m0)).setCell (p := ⟨w.heap.size, 1, none⟩) (Nat.le_refl _) (.int .i64 m1)).setCell (p := ⟨w.heap.size, 2, none⟩) (Nat.le_refl _) (.int .i64 m2)).setCell (p := ⟨w.heap.size, 3, none⟩) (Nat.le_refl _) (.int .i64 m3)).setCell (p := ⟨w.heap.size, 4, none⟩) (Nat.le_refl _) (.int .i64 m4)).setCell (p := ⟨w.heap.size, 5, none⟩) (Nat.le_refl _) (.int .i64 m5)).setCell (p := ⟨w.heap.size, 6, none⟩) (Nat.le_refl _) (.int .i64 m6)).setCell (p := ⟨w.heap.size, 7, none⟩) (Nat.le_refl _) (.slice ba (readI s).blocks.length bc)).setCell (p := ⟨w.heap.size, 8, none⟩) (Nat.le_refl _) (.slice aa (readI s).acl.length ac)).setCell (p := ⟨w.heap.size, 9, none⟩) (Nat.le_refl _) (.slice da (readI s).dflt.length dc))
            have hOF := (In.own_set (In.own_set (In.own_set (In.own_set (In.own_set (In.own_set (In.own_set (In.own_set (In.own_set (In.own_set hO9 (a := ⟨w.heap.size, 0, none⟩) (by simp; omega) (.int .i64 m0)) (a := ⟨w.heap.size, 1, none⟩) (by simp; omega) (.int .i64 m1)) (a := ⟨w.heap.size, 2, none⟩) (by simp; omega) (.int .i64 m2)) (a := ⟨w.heap.size, 3, none⟩) (by simp; omega) (.int .i64 m3)) (a := ⟨w.heap.size, 4, none⟩) (by simp; omega) (.int .i64 m4)) (a := ⟨w.heap.size, 5, none⟩) (by simp; omega) (.int .i64 m5)) (a := ⟨w.heap.size, 6, none⟩) (by simp; omega) (.int .i64 m6)) (a := ⟨w.heap.size, 7, none⟩) (by simp; omega) (.slice ba (readI s).blocks.length bc)) (a := ⟨w.heap.size, 8, none⟩) (by simp; omega) (.slice aa (readI s).acl.length ac)) (a := ⟨w.heap.size, 9, none⟩) (by simp; omega) (.slice da (readI s).dflt.length dc))
            generalize ((((((((((wj.setCell ⟨w.heap.size, 0, none⟩ (.int .i64 m0)).setCell ⟨w.heap.size, 1, none⟩ (.int .i64 m1)).setCell ⟨w.heap.size, 2, none⟩ (.int .i64 m2)).setCell ⟨w.heap.size, 3, none⟩ (.int .i64 m3)).setCell ⟨w.heap.size, 4, none⟩ (.int .i64 m4)).setCell ⟨w.heap.size, 5, none⟩ (.int .i64 m5)).setCell ⟨w.heap.size, 6, none⟩ (.int .i64 m6)).setCell ⟨w.heap.size, 7, none⟩ (.slice ba (readI s).blocks.length bc)).setCell ⟨w.heap.size, 8, none⟩ (.slice aa (readI s).acl.length ac)).setCell ⟨w.heap.size, 9, none⟩ (.slice da (readI s).dflt.length dc)) = w9 at hF10 hB9 hOF ⊢
            have fc0 : w9.cell? ⟨w.heap.size, 0, none⟩ = some (.int .i64 m0) := hF10.cell 0
            have fc1 : w9.cell? ⟨w.heap.size, 1, none⟩ = some (.int .i64 m1) := hF10.cell 1
            have fc2 : w9.cell? ⟨w.heap.size, 2, none⟩ = some (.int .i64 m2) := hF10.cell 2
            have fc3 : w9.cell? ⟨w.heap.size, 3, none⟩ = some (.int .i64 m3) := hF10.cell 3
            have fc4 : w9.cell? ⟨w.heap.size, 4, none⟩ = some (.int .i64 m4) := hF10.cell 4
            have fc5 : w9.cell? ⟨w.heap.size, 5, none⟩ = some (.int .i64 m5) := hF10.cell 5
            have fc6 : w9.cell? ⟨w.heap.size, 6, none⟩ = some (.int .i64 m6) := hF10.cell 6
            have fc7 : w9.cell? ⟨w.heap.size, 7, none⟩ = some (.slice ba (readI s).blocks.length bc) := hF10.cell 7
            have fc8 : w9.cell? ⟨w.heap.size, 8, none⟩ = some (.slice aa (readI s).acl.length ac) := hF10.cell 8
            have fc9 : w9.cell? ⟨w.heap.size, 9, none⟩ = some (.slice da (readI s).dflt.length dc) := hF10.cell 9
            exact bodyPost_ret (v := .tuple #[.agg #[.int .i64 m0, .int .i64 m1, .int .i64 m2, .int .i64 m3, .int .i64 m4, .int .i64 m5, .int .i64 m6, .slice ba (readI s).blocks.length bc, .slice aa (readI s).acl.length ac, .slice da (readI s).dflt.length dc], .bool true]) (by simp [results, Tryd.results19, go_sem, fc0, fc1, fc2, fc3, fc4, fc5, fc6, fc7, fc8, fc9]) rfl ⟨_, _, by rw [HU.out], by rw [HU.out]; exact In.own_mono hOF (by omega), hB9⟩
          · have HU := Lib.hid (HNO.out he)
            have hne := AclU.str_ne he
            clear he
            generalize packI (readI s) = P at hne HPK ⊢
            by_cases hem : P = ⟨#[]⟩
            · subst hem
              clear hne
              obtain ⟨z0, z1, z2, z3, z4, z5, z6, z7, z8, z9⟩ := Bk.c10 HR.out
              have ze0 := HR.out.free 0
              have ze1 := HR.out.free 1
              have ze2 := HR.out.free 2
              have ze3 := HR.out.free 3
              have ze4 := HR.out.free 4
              have ze5 := HR.out.free 5
              have ze6 := HR.out.free 6
              have ze7 := HR.out.free 7
              have ze8 := HR.out.free 8
              have ze9 := HR.out.free 9
              go_wp2_with fail
              have hF0 := HR.out
              have hF1 : Bk _ _ #[.int .i64 0, .int .i64 0, .int .i64 0, .int .i64 0, .int .i64 0, .int .i64 0, .int .i64 0, .slice none 0 0, .slice none 0 0, .slice none 0 0] _ := hF0.put 0 (.int .i64 0)
              clear hF0
              have hF2 : Bk _ _ #[.int .i64 0, .int .i64 0, .int .i64 0, .int .i64 0, .int .i64 0, .int .i64 0, .int .i64 0, .slice none 0 0, .slice none 0 0, .slice none 0 0] _ := hF1.put 1 (.int .i64 0)
              clear hF1
              have hF3 : Bk _ _ #[.int .i64 0, .int .i64 0, .int .i64 0, .int .i64 0, .int .i64 0, .int .i64 0, .int .i64 0, .slice none 0 0, .slice none 0 0, .slice none 0 0] _ := hF2.put 2 (.int .i64 0)
              clear hF2
              have hF4 : Bk _ _ #[.int .i64 0, .int .i64 0, .int .i64 0, .int .i64 0, .int .i64 0, .int .i64 0, .int .i64 0, .slice none 0 0, .slice none 0 0, .slice none 0 0] _ := hF3.put 3 (.int .i64 0)
              clear hF3
              have hF5 : Bk _ _ #[.int .i64 0, .int .i64 0, .int .i64 0, .int .i64 0, .int .i64 0, .int .i64 0, .int .i64 0, .slice none 0 0, .slice none 0 0, .slice none 0 0] _ := hF4.put 4 (.int .i64 0)
              clear hF4
              have hF6 : Bk _ _ #[.int .i64 0, .int .i64 0, .int .i64 0, .int .i64 0, .int .i64 0, .int .i64 0, .int .i64 0, .slice none 0 0, .slice none 0 0, .slice none 0 0] _ := hF5.put 5 (.int .i64 0)
              clear hF5
              have hF7 : Bk _ _ #[.int .i64 0, .int .i64 0, .int .i64 0, .int .i64 0, .int .i64 0, .int .i64 0, .int .i64 0, .slice none 0 0, .slice none 0 0, .slice none 0 0] _ := hF6.put 6 (.int .i64 0)
              clear hF6
              have hF8 : Bk _ _ #[.int .i64 0, .int .i64 0, .int .i64 0, .int .i64 0, .int .i64 0, .int .i64 0, .int .i64 0, .slice none 0 0, .slice none 0 0, .slice none 0 0] _ := hF7.put 7 (.slice none 0 0)
              clear hF7
              have hF9 : Bk _ _ #[.int .i64 0, .int .i64 0, .int .i64 0, .int .i64 0, .int .i64 0, .int .i64 0, .int .i64 0, .slice none 0 0, .slice none 0 0, .slice none 0 0] _ := hF8.put 8 (.slice none 0 0)
              clear hF8
              have hF10 : Bk _ _ #[.int .i64 0, .int .i64 0, .int .i64 0, .int .i64 0, .int .i64 0, .int .i64 0, .int .i64 0, .slice none 0 0, .slice none 0 0, .slice none 0 0] _ := hF9.put 9 (.slice none 0 0)
              clear hF9
              have hB9 := ((((((((((HB.out.setCell (p := ⟨w.heap.size, 0, none⟩) (Nat.le_refl _) (.int .i64 0)).setCell (p := ⟨w.heap.size, 1, none⟩) (Nat.le_refl _) (.int .i64 0)).setCell (p := ⟨w.heap.size, 2, none⟩) (Nat.le_refl _) (.int .i64 0)).setCell (p := ⟨w.heap.size, 3, none⟩) (Nat.le_refl _) (.int .i64 0)).setCell (p := ⟨w.heap.size, 4, none⟩) (Nat.le_refl _) (.int .i64 0)).setCell (p := ⟨w.heap.size, 5, none⟩) (Nat.le_refl _) (.int .i64 0)).setCell (p := ⟨w.heap.size, 6, none⟩) (Nat.le_refl _) (.int .i64 0)).setCell (p := ⟨w.heap.size, 7, none⟩) (Nat.le_refl _) (.slice none 0 0)).setCell (p := ⟨w.heap.size, 8, none⟩) (Nat.le_refl _) (.slice none 0 0)).setCell (p := ⟨w.heap.size, 9, none⟩) (Nat.le_refl _) (.slice none 0 0))
              generalize ((((((((((wi.setCell ⟨w.heap.size, 0, none⟩ (.int .i64 0)).setCell ⟨w.heap.size, 1, none⟩ (.int .i64 0)).setCell ⟨w.heap.size, 2, none⟩ (.int .i64 0)).setCell ⟨w.heap.size, 3, none⟩ (.int .i64 0)).setCell ⟨w.heap.size, 4, none⟩ (.int .i64 0)).setCell ⟨w.heap.size, 5, none⟩ (.int .i64 0)).setCell ⟨w.heap.size, 6, none⟩ (.int .i64 0)).setCell ⟨w.heap.size, 7, none⟩ (.slice none 0 0)).setCell ⟨w.heap.size, 8, none⟩ (.slice none 0 0)).setCell ⟨w.heap.size, 9, none⟩ (.slice none 0 0)) = w9 at hF10 hB9 ⊢
              have fc0 : w9.cell? ⟨w.heap.size, 0, none⟩ = some (.int .i64 0) := hF10.cell 0
              have fc1 : w9.cell? ⟨w.heap.size, 1, none⟩ = some (.int .i64 0) := hF10.cell 1
              have fc2 : w9.cell? ⟨w.heap.size, 2, none⟩ = some (.int .i64 0) := hF10.cell 2
              have fc3 : w9.cell? ⟨w.heap.size, 3, none⟩ = some (.int .i64 0) := hF10.cell 3
              have fc4 : w9.cell? ⟨w.heap.size, 4, none⟩ = some (.int .i64 0) := hF10.cell 4
              have fc5 : w9.cell? ⟨w.heap.size, 5, none⟩ = some (.int .i64 0) := hF10.cell 5
              have fc6 : w9.cell? ⟨w.heap.size, 6, none⟩ = some (.int .i64 0) := hF10.cell 6
              have fc7 : w9.cell? ⟨w.heap.size, 7, none⟩ = some (.slice none 0 0) := hF10.cell 7
              have fc8 : w9.cell? ⟨w.heap.size, 8, none⟩ = some (.slice none 0 0) := hF10.cell 8
              have fc9 : w9.cell? ⟨w.heap.size, 9, none⟩ = some (.slice none 0 0) := hF10.cell 9
              exact bodyPost_ret (v := .tuple #[.agg #[.int .i64 0, .int .i64 0, .int .i64 0, .int .i64 0, .int .i64 0, .int .i64 0, .int .i64 0, .slice none 0 0, .slice none 0 0, .slice none 0 0], .bool false]) (by simp [results, Tryd.results19, go_sem, fc0, fc1, fc2, fc3, fc4, fc5, fc6, fc7, fc8, fc9]) rfl ⟨_, _, by rw [HU.out], by rw [HU.out]; exact zero_own _ _, hB9⟩
            · have hsp := not_empty hem
              clear hem
              go_wp2_with fail
              refine (HPK.out _ (.agg #[.int .i64 m0, .int .i64 m1, .int .i64 m2, .int .i64 m3, .int .i64 m4, .int .i64 m5, .int .i64 m6, .slice ba (readI s).blocks.length bc, .slice aa (readI s).acl.length ac, .slice da (readI s).dflt.length dc]) (HIH.out _ HB1.out)).mono ?_
              rintro e wj ⟨rfl, hb⟩
              replace HX := Lib.hid (HX.out.all hb)
              replace HR := Lib.hid (HR.out.all hb)
              replace HB := Lib.hid (HB.out.trans (hb.mono HB.out.size))
              clear x0 x1 x2 x3 x4 x5 x6 x7 x8 x9
              clear hb
              obtain ⟨z0, z1, z2, z3, z4, z5, z6, z7, z8, z9⟩ := Bk.c10 HR.out
              have ze0 := HR.out.free 0
              have ze1 := HR.out.free 1
              have ze2 := HR.out.free 2
              have ze3 := HR.out.free 3
              have ze4 := HR.out.free 4
              have ze5 := HR.out.free 5
              have ze6 := HR.out.free 6
              have ze7 := HR.out.free 7
              have ze8 := HR.out.free 8
              have ze9 := HR.out.free 9
              go_wp2_with fail
              have hF0 := HR.out
              have hF1 : Bk _ _ #[.int .i64 0, .int .i64 0, .int .i64 0, .int .i64 0, .int .i64 0, .int .i64 0, .int .i64 0, .slice none 0 0, .slice none 0 0, .slice none 0 0] _ := hF0.put 0 (.int .i64 0)
              clear hF0
              have hF2 : Bk _ _ #[.int .i64 0, .int .i64 0, .int .i64 0, .int .i64 0, .int .i64 0, .int .i64 0, .int .i64 0, .slice none 0 0, .slice none 0 0, .slice none 0 0] _ := hF1.put 1 (.int .i64 0)
              clear hF1
              have hF3 : Bk _ _ #[.int .i64 0, .int .i64 0, .int .i64 0, .int .i64 0, .int .i64 0, .int .i64 0, .int .i64 0, .slice none 0 0, .slice none 0 0, .slice none 0 0] _ := hF2.put 2 (.int .i64 0)
              clear hF2
              have hF4 : Bk _ _ #[.int .i64 0, .int .i64 0, .int .i64 0, .int .i64 0, .int .i64 0, .int .i64 0, .int .i64 0, .slice none 0 0, .slice none 0 0, .slice none 0 0] _ := hF3.put 3 (.int .i64 0)
              clear hF3
              have hF5 : Bk _ _ #[.int .i64 0, .int .i64 0, .int .i64 0, .int .i64 0, .int .i64 0, .int .i64 0, .int .i64 0, .slice none 0 0, .slice none 0 0, .slice none 0 0] _ := hF4.put 4 (.int .i64 0)
              clear hF4
              have hF6 : Bk _ _ #[.int .i64 0, .int .i64 0, .int .i64 0, .int .i64 0, .int .i64 0, .int .i64 0, .int .i64 0, .slice none 0 0, .slice none 0 0, .slice none 0 0] _ := hF5.put 5 (.int .i64 0)
              clear hF5
              have hF7 : Bk _ _ #[.int .i64 0, .int .i64 0, .int .i64 0, .int .i64 0, .int .i64 0, .int .i64 0, .int .i64 0, .slice none 0 0, .slice none 0 0, .slice none 0 0] _ := hF6.put 6 (.int .i64 0)
              clear hF6
              have hF8 : Bk _ _ #[.int .i64 0, .int .i64 0, .int .i64 0, .int .i64 0, .int .i64 0, .int .i64 0, .int .i64 0, .slice none 0 0, .slice none 0 0, .slice none 0 0] _ := hF7.put 7 (.slice none 0 0)
              clear hF7
              have hF9 : Bk _ _ #[.int .i64 0, .int .i64 0, .int .i64 0, .int .i64 0, .int .i64 0, .int .i64 0, .int .i64 0, .slice none 0 0, .slice none 0 0, .slice none 0 0] _ := hF8.put 8 (.slice none 0 0)
              clear hF8
              have hF10 : Bk _ _ #[.int .i64 0, .int .i64 0, .int .i64 0, .int .i64 0, .int .i64 0, .int .i64 0, .int .i64 0, .slice none 0 0, .slice none 0 0, .slice none 0 0] _ := hF9.put 9 (.slice none 0 0)
              clear hF9
              have hB9 := ((((((((((HB.out.setCell (p := ⟨w.heap.size, 0, none⟩) (Nat.le_refl _) (.int .i64 0)).setCell (p := ⟨w.heap.size, 1, none⟩) (Nat.le_refl _) (.int .i64 0)).setCell (p := ⟨w.heap.size, 2, none⟩) (Nat.le_refl _) (.int .i64 0)).setCell (p := ⟨w.heap.size, 3, none⟩) (Nat.le_refl _) (.int .i64 0)).setCell (p := ⟨w.heap.size, 4, none⟩) (Nat.le_refl _) (.int .i64 0)).setCell (p := ⟨w.heap.size, 5, none⟩) (Nat.le_refl _) (.int .i64 0)).setCell (p := ⟨w.heap.size, 6, none⟩) (Nat.le_refl _) (.int .i64 0)).setCell (p := ⟨w.heap.size, 7, none⟩) (Nat.le_refl _) (.slice none 0 0)).setCell (p := ⟨w.heap.size, 8, none⟩) (Nat.le_refl _) (.slice none 0 0)).setCell (p := ⟨w.heap.size, 9, none⟩) (Nat.le_refl _) (.slice none 0 0))
              generalize ((((((((((wj.setCell ⟨w.heap.size, 0, none⟩ (.int .i64 0)).setCell ⟨w.heap.size, 1, none⟩ (.int .i64 0)).setCell ⟨w.heap.size, 2, none⟩ (.int .i64 0)).setCell ⟨w.heap.size, 3, none⟩ (.int .i64 0)).setCell ⟨w.heap.size, 4, none⟩ (.int .i64 0)).setCell ⟨w.heap.size, 5, none⟩ (.int .i64 0)).setCell ⟨w.heap.size, 6, none⟩ (.int .i64 0)).setCell ⟨w.heap.size, 7, none⟩ (.slice none 0 0)).setCell ⟨w.heap.size, 8, none⟩ (.slice none 0 0)).setCell ⟨w.heap.size, 9, none⟩ (.slice none 0 0)) = w9 at hF10 hB9 ⊢
              have fc0 : w9.cell? ⟨w.heap.size, 0, none⟩ = some (.int .i64 0) := hF10.cell 0
              have fc1 : w9.cell? ⟨w.heap.size, 1, none⟩ = some (.int .i64 0) := hF10.cell 1
              have fc2 : w9.cell? ⟨w.heap.size, 2, none⟩ = some (.int .i64 0) := hF10.cell 2
              have fc3 : w9.cell? ⟨w.heap.size, 3, none⟩ = some (.int .i64 0) := hF10.cell 3
              have fc4 : w9.cell? ⟨w.heap.size, 4, none⟩ = some (.int .i64 0) := hF10.cell 4
              have fc5 : w9.cell? ⟨w.heap.size, 5, none⟩ = some (.int .i64 0) := hF10.cell 5
              have fc6 : w9.cell? ⟨w.heap.size, 6, none⟩ = some (.int .i64 0) := hF10.cell 6
              have fc7 : w9.cell? ⟨w.heap.size, 7, none⟩ = some (.slice none 0 0) := hF10.cell 7
              have fc8 : w9.cell? ⟨w.heap.size, 8, none⟩ = some (.slice none 0 0) := hF10.cell 8
              have fc9 : w9.cell? ⟨w.heap.size, 9, none⟩ = some (.slice none 0 0) := hF10.cell 9
              exact bodyPost_ret (v := .tuple #[.agg #[.int .i64 0, .int .i64 0, .int .i64 0, .int .i64 0, .int .i64 0, .int .i64 0, .int .i64 0, .slice none 0 0, .slice none 0 0, .slice none 0 0], .bool false]) (by simp [results, Tryd.results19, go_sem, fc0, fc1, fc2, fc3, fc4, fc5, fc6, fc7, fc8, fc9]) rfl ⟨_, _, by rw [HU.out], by rw [HU.out]; exact zero_own _ _, hB9⟩
        · have hd9 : decide ((k : Int) < nd) = false := decide_eq_false hnd8
          clear hNN hlt hk hnd
          go_wp2_with fail
          refine (HND.out _).mono ?_
          rintro e wq ⟨rfl, rfl⟩
          clear xc5
          go_wp2_with fail
          refine (HA1.out _).mono ?_
          rintro e we ⟨va, rfl, hown, hb⟩
          obtain ⟨aa, ac, rfl⟩ := Dk.slice_of hown
          have se := hb.size
          replace HX := Lib.hid (HX.out.all hb)
          replace HR := Lib.hid (HR.out.all hb)
          replace HOB := Lib.hid (NiF.own_below HOB.out hb)
          replace HB := Lib.hid (HB.out.trans (hb.mono HB.out.size))
          have HLA := Lib.hid (row_lies hown)
          have HOA := Lib.hid (show AeF.Own we (w.heap.size + 1 + 1) _ (readI s).acl (fpR (.slice aa (readI s).acl.length ac)) from AeF.own_mono (show AeF.Own we _ _ _ _ from ⟨hown, rfl⟩) (by omega))
          clear hown hb
          have xc8 : we.cell? ⟨w.heap.size + 1, 8, none⟩ = some (.slice none 0 0) := HX.out.cell 8
          have xf8 := HX.out.free 8
          have hX : Bk _ _ #[.int .i64 m0, .int .i64 m1, .int .i64 m2, .int .i64 m3, .int .i64 m4, .int .i64 m5, .int .i64 m6, (.slice ba (readI s).blocks.length bc), (.slice aa (readI s).acl.length ac), .slice none 0 0] _ := HX.out.put 8 (.slice aa (readI s).acl.length ac)
          have hR := HR.out.far (p := ⟨w.heap.size + 1, 8, none⟩) (by first | (simp; done) | (simp; omega)) (.slice aa (readI s).acl.length ac)
          have hB := HB.out.setCell (p := ⟨w.heap.size + 1, 8, none⟩) (by first | (simp; done) | (simp; omega)) (.slice aa (readI s).acl.length ac)
          have hO := NiF.own_set HOB.out (a := ⟨w.heap.size + 1, 8, none⟩) (by simp) (.slice aa (readI s).acl.length ac)
          have hA := AeF.own_set HOA.out (a := ⟨w.heap.size + 1, 8, none⟩) (by simp) (.slice aa (readI s).acl.length ac)
          replace HX := Lib.hid hX
          replace HR := Lib.hid hR
          replace HB := Lib.hid hB
          replace HOB := Lib.hid hO
          replace HOA := Lib.hid hA
          clear hX hR hB hO hA
          go_wp2_with fail
          clear xc8 xf8
          refine (HA2.out _).mono ?_
          rintro e wg ⟨vd, rfl, hown, hb⟩
          obtain ⟨da, dc, rfl⟩ := Dk.slice_of hown
          have sg := hb.size
          simp only [World.size_setCell] at sg
          replace HX := Lib.hid (HX.out.all hb)
          replace HR := Lib.hid (HR.out.all hb)
          replace HOB := Lib.hid (NiF.own_below HOB.out hb)
          replace HOA := Lib.hid (AeF.own_below HOA.out hb)
          replace HB := Lib.hid (HB.out.trans (hb.mono HB.out.size))
          have hld := row_lies hown
          simp only [World.size_setCell] at hown hld
          have HLD := Lib.hid hld
          have HOD := Lib.hid (show AeF.Own wg (w.heap.size + 1 + 1) _ (readI s).dflt (fpR (.slice da (readI s).dflt.length dc)) from AeF.own_mono (show AeF.Own wg _ _ _ _ from ⟨hown, rfl⟩) (by omega))
          clear hown hb hld
          have xc9 : wg.cell? ⟨w.heap.size + 1, 9, none⟩ = some (.slice none 0 0) := HX.out.cell 9
          have xf9 := HX.out.free 9
          have hX : Bk _ _ #[.int .i64 m0, .int .i64 m1, .int .i64 m2, .int .i64 m3, .int .i64 m4, .int .i64 m5, .int .i64 m6, (.slice ba (readI s).blocks.length bc), (.slice aa (readI s).acl.length ac), (.slice da (readI s).dflt.length dc)] _ := HX.out.put 9 (.slice da (readI s).dflt.length dc)
          have hR := HR.out.far (p := ⟨w.heap.size + 1, 9, none⟩) (by first | (simp; done) | (simp; omega)) (.slice da (readI s).dflt.length dc)
          have hB := HB.out.setCell (p := ⟨w.heap.size + 1, 9, none⟩) (by first | (simp; done) | (simp; omega)) (.slice da (readI s).dflt.length dc)
          have hO := NiF.own_set HOB.out (a := ⟨w.heap.size + 1, 9, none⟩) (by simp) (.slice da (readI s).dflt.length dc)
          have hA := AeF.own_set HOA.out (a := ⟨w.heap.size + 1, 9, none⟩) (by simp) (.slice da (readI s).dflt.length dc)
          have hD := AeF.own_set HOD.out (a := ⟨w.heap.size + 1, 9, none⟩) (by simp) (.slice da (readI s).dflt.length dc)
          replace HX := Lib.hid hX
          replace HR := Lib.hid hR
          replace HB := Lib.hid hB
          replace HOB := Lib.hid hO
          replace HOA := Lib.hid hA
          replace HOD := Lib.hid hD
          clear hX hR hB hO hA hD
          have sh : wg.heap.size ≤ (wg.setCell ⟨w.heap.size + 1, 9, none⟩ (.slice da (readI s).dflt.length dc)).heap.size := by simp
          obtain ⟨x0, x1, x2, x3, x4, x5, x6, x7, x8, x9⟩ := Bk.c10 HX.out
          have HIH := Lib.hid (fun (W : World) (hb : Below (wg.setCell ⟨w.heap.size + 1, 9, none⟩ (.slice da (readI s).dflt.length dc)).heap.size (wg.setCell ⟨w.heap.size + 1, 9, none⟩ (.slice da (readI s).dflt.length dc)) W) => in_holds HFLD.out (NiF.own_holds (NiF.own_below HOB.out hb)) (AeF.own_holds (AeF.own_below HOA.out hb)) (AeF.own_holds (AeF.own_below HOD.out hb)))
          have HOWN := Lib.hid (fun (W : World) (hb : Below (wg.setCell ⟨w.heap.size + 1, 9, none⟩ (.slice da (readI s).dflt.length dc)).heap.size (wg.setCell ⟨w.heap.size + 1, 9, none⟩ (.slice da (readI s).dflt.length dc)) W) => in_own HFLD.out (NiF.own_below HOB.out hb) (AeF.own_below HOA.out hb) (AeF.own_below HOD.out hb) (Lies.apart HLB.out HLA.out (by omega)) (Lies.apart HLB.out HLD.out (by omega)) (Lies.apart HLA.out HLD.out (by omega)))
          clear HOB HOA HOD
          go_wp2_with fail
          clear xc9 xf9
          generalize wg.setCell ⟨w.heap.size + 1, 9, none⟩ (.slice da (readI s).dflt.length dc) = wh at HIH HOWN HX HR HB sh x0 x1 x2 x3 x4 x5 x6 x7 x8 x9 ⊢
          refine (HPK.out _ (.agg #[.int .i64 m0, .int .i64 m1, .int .i64 m2, .int .i64 m3, .int .i64 m4, .int .i64 m5, .int .i64 m6, .slice ba (readI s).blocks.length bc, .slice aa (readI s).acl.length ac, .slice da (readI s).dflt.length dc]) (HIH.out _ (Below.refl _ _))).mono ?_
          rintro e wi ⟨rfl, hb⟩
          replace HX := Lib.hid (HX.out.all hb)
          replace HR := Lib.hid (HR.out.all hb)
          replace HB := Lib.hid (HB.out.trans (hb.mono HB.out.size))
          clear x0 x1 x2 x3 x4 x5 x6 x7 x8 x9
          have HB1 := Lib.hid hb
          clear hb
          obtain ⟨x0, x1, x2, x3, x4, x5, x6, x7, x8, x9⟩ := Bk.c10 HX.out
          by_cases he : packI (readI s) = s
          · have HU := Lib.hid (HYES.out he)
            have hsn := HSE.out
            rw [he] at HPK ⊢
            clear he
            go_wp2_with fail
            refine (HPK.out _ (.agg #[.int .i64 m0, .int .i64 m1, .int .i64 m2, .int .i64 m3, .int .i64 m4, .int .i64 m5, .int .i64 m6, .slice ba (readI s).blocks.length bc, .slice aa (readI s).acl.length ac, .slice da (readI s).dflt.length dc]) (HIH.out _ HB1.out)).mono ?_
            rintro e wj ⟨rfl, hb⟩
            replace HX := Lib.hid (HX.out.all hb)
            replace HR := Lib.hid (HR.out.all hb)
            replace HB := Lib.hid (HB.out.trans (hb.mono HB.out.size))
            clear x0 x1 x2 x3 x4 x5 x6 x7 x8 x9
            have HBB := Lib.hid (HB1.out.trans (hb.mono HB1.out.size))
            clear hb
            obtain ⟨z0, z1, z2, z3, z4, z5, z6, z7, z8, z9⟩ := Bk.c10 HR.out
            have ze0 := HR.out.free 0
            have ze1 := HR.out.free 1
            have ze2 := HR.out.free 2
            have ze3 := HR.out.free 3
            have ze4 := HR.out.free 4
            have ze5 := HR.out.free 5
            have ze6 := HR.out.free 6
            have ze7 := HR.out.free 7
            have ze8 := HR.out.free 8
            have ze9 := HR.out.free 9
            obtain ⟨x0, x1, x2, x3, x4, x5, x6, x7, x8, x9⟩ := Bk.c10 HX.out
            go_wp2_with fail
            have hO9 := HOWN.out wj HBB.out
            have hF0 := HR.out
            have hF1 : Bk _ _ #[.int .i64 m0, .int .i64 0, .int .i64 0, .int .i64 0, .int .i64 0, .int .i64 0, .int .i64 0, .slice none 0 0, .slice none 0 0, .slice none 0 0] _ := hF0.put 0 (.int .i64 m0)
            clear hF0
            have hF2 : Bk _ _ #[.int .i64 m0, .int .i64 m1, .int .i64 0, .int .i64 0, .int .i64 0, .int .i64 0, .int .i64 0, .slice none 0 0, .slice none 0 0, .slice none 0 0] _ := hF1.put 1 (.int .i64 m1)
            clear hF1
            have hF3 : Bk _ _ #[.int .i64 m0, .int .i64 m1, .int .i64 m2, .int .i64 0, .int .i64 0, .int .i64 0, .int .i64 0, .slice none 0 0, .slice none 0 0, .slice none 0 0] _ := hF2.put 2 (.int .i64 m2)
            clear hF2
            have hF4 : Bk _ _ #[.int .i64 m0, .int .i64 m1, .int .i64 m2, .int .i64 m3, .int .i64 0, .int .i64 0, .int .i64 0, .slice none 0 0, .slice none 0 0, .slice none 0 0] _ := hF3.put 3 (.int .i64 m3)
            clear hF3
            have hF5 : Bk _ _ #[.int .i64 m0, .int .i64 m1, .int .i64 m2, .int .i64 m3, .int .i64 m4, .int .i64 0, .int .i64 0, .slice none 0 0, .slice none 0 0, .slice none 0 0] _ := hF4.put 4 (.int .i64 m4)
            clear hF4
            have hF6 : Bk _ _ #[.int .i64 m0, .int .i64 m1, .int .i64 m2, .int .i64 m3, .int .i64 m4, .int .i64 m5, .int .i64 0, .slice none 0 0, .slice none 0 0, .slice none 0 0] _ := hF5.put 5 (.int .i64 m5)
            clear hF5
            have hF7 : Bk _ _ #[.int .i64 m0, .int .i64 m1, .int .i64 m2, .int .i64 m3, .int .i64 m4, .int .i64 m5, .int .i64 m6, .slice none 0 0, .slice none 0 0, .slice none 0 0] _ := hF6.put 6 (.int .i64 m6)
            clear hF6
            have hF8 : Bk _ _ #[.int .i64 m0, .int .i64 m1, .int .i64 m2, .int .i64 m3, .int .i64 m4, .int .i64 m5, .int .i64 m6, .slice ba (readI s).blocks.length bc, .slice none 0 0, .slice none 0 0] _ := hF7.put 7 (.slice ba (readI s).blocks.length bc)
            clear hF7
            have hF9 : Bk _ _ #[.int .i64 m0, .int .i64 m1, .int .i64 m2, .int .i64 m3, .int .i64 m4, .int .i64 m5, .int .i64 m6, .slice ba (readI s).blocks.length bc, .slice aa (readI s).acl.length ac, .slice none 0 0] _ := hF8.put 8 (.slice aa (readI s).acl.length ac)
            clear hF8
            have hF10 : Bk _ _ #[.int .i64 m0, .int .i64 m1, .int .i64 m2, .int .i64 m3, .int .i64 m4, .int .i64 m5, .int .i64 m6, .slice ba (readI s).blocks.length bc, .slice aa (readI s).acl.length ac, .slice da (readI s).dflt.length dc] _ := hF9.put 9 (.slice da (readI s).dflt.length dc)
            clear hF9
            have hB9 := ((((((((((HB.out.setCell (p := ⟨w.heap.size, 0, none⟩) (Nat.le_refl _) (.int .i64 m0)).setCell (p := ⟨w.heap.size, 1, none⟩) (Nat.le_refl _) (.int .i64 m1)).setCell (p := ⟨w.heap.size, 2, none⟩) (Nat.le_refl _) (.int .i64 m2)).setCell (p := ⟨w.heap.size, 3, none⟩) (Nat.le_refl _) (.int .i64 m3)).setCell (p := ⟨w.heap.size, 4, none⟩) (Nat.le_refl _) (.int .i64 m4)).setCell (p := ⟨w.heap.size, 5, none⟩) (Nat.le_refl _) (.int .i64 m5)).setCell (p := ⟨w.heap.size, 6, none⟩) (Nat.le_refl _) (.int .i64 m6)).setCell (p := ⟨w.heap.size, 7, none⟩) (Nat.le_refl _) (.slice ba (readI s).blocks.length bc)).setCell (p := ⟨w.heap.size, 8, none⟩) (Nat.le_refl _) (.slice aa (readI s).acl.length ac)).setCell (p := ⟨w.heap.size, 9, none⟩) (Nat.le_refl _) (.slice da (readI s).dflt.length dc))
            have hOF := (In.own_set (In.own_set (In.own_set (In.own_set (In.own_set (In.own_set (In.own_set (In.own_set (In.own_set (In.own_set hO9 (a := ⟨w.heap.size, 0, none⟩) (by simp; omega) (.int .i64 m0)) (a := ⟨w.heap.size, 1, none⟩) (by simp; omega) (.int .i64 m1)) (a := ⟨w.heap.size, 2, none⟩) (by simp; omega) (.int .i64 m2)) (a := ⟨w.heap.size, 3, none⟩) (by simp; omega) (.int .i64 m3)) (a := ⟨w.heap.size, 4, none⟩) (by simp; omega) (.int .i64 m4)) (a := ⟨w.heap.size, 5, none⟩) (by simp; omega) (.int .i64 m5)) (a := ⟨w.heap.size, 6, none⟩) (by simp; omega) (.int .i64 m6)) (a := ⟨w.heap.size, 7, none⟩) (by simp; omega) (.slice ba (readI s).blocks.length bc)) (a := ⟨w.heap.size, 8, none⟩) (by simp; omega) (.slice aa (readI s).acl.length ac)) (a := ⟨w.heap.size, 9, none⟩) (by simp; omega) (.slice da (readI s).dflt.length dc))
            generalize ((((((((((wj.setCell ⟨w.heap.size, 0, none⟩ (.int .i64 m0)).setCell ⟨w.heap.size, 1, none⟩ (.int .i64 m1)).setCell ⟨w.heap.size, 2, none⟩ (.int .i64 m2)).setCell ⟨w.heap.size, 3, none⟩ (.int .i64 m3)).setCell ⟨w.heap.size, 4, none⟩ (.int .i64 m4)).setCell ⟨w.heap.size, 5, none⟩ (.int .i64 m5)).setCell ⟨w.heap.size, 6, none⟩ (.int .i64 m6)).setCell ⟨w.heap.size, 7, none⟩ (.slice ba (readI s).blocks.length bc)).setCell ⟨w.heap.size, 8, none⟩ (.slice aa (readI s).acl.length ac)).setCell ⟨w.heap.size, 9, none⟩ (.slice da (readI s).dflt.length dc)) = w9 at hF10 hB9 hOF ⊢
            have fc0 : w9.cell? ⟨w.heap.size, 0, none⟩ = some (.int .i64 m0) := hF10.cell 0
            have fc1 : w9.cell? ⟨w.heap.size, 1, none⟩ = some (.int .i64 m1) := hF10.cell 1
            have fc2 : w9.cell? ⟨w.heap.size, 2, none⟩ = some (.int .i64 m2) := hF10.cell 2
            have fc3 : w9.cell? ⟨w.heap.size, 3, none⟩ = some (.int .i64 m3) := hF10.cell 3
            have fc4 : w9.cell? ⟨w.heap.size, 4, none⟩ = some (.int .i64 m4) := hF10.cell 4
            have fc5 : w9.cell? ⟨w.heap.size, 5, none⟩ = some (.int .i64 m5) := hF10.cell 5
            have fc6 : w9.cell? ⟨w.heap.size, 6, none⟩ = some (.int .i64 m6) := hF10.cell 6
            have fc7 : w9.cell? ⟨w.heap.size, 7, none⟩ = some (.slice ba (readI s).blocks.length bc) := hF10.cell 7
            have fc8 : w9.cell? ⟨w.heap.size, 8, none⟩ = some (.slice aa (readI s).acl.length ac) := hF10.cell 8
            have fc9 : w9.cell? ⟨w.heap.size, 9, none⟩ = some (.slice da (readI s).dflt.length dc) := hF10.cell 9
            exact bodyPost_ret (v := .tuple #[.agg #[.int .i64 m0, .int .i64 m1, .int .i64 m2, .int .i64 m3, .int .i64 m4, .int .i64 m5, .int .i64 m6, .slice ba (readI s).blocks.length bc, .slice aa (readI s).acl.length ac, .slice da (readI s).dflt.length dc], .bool true]) (by simp [results, Tryd.results19, go_sem, fc0, fc1, fc2, fc3, fc4, fc5, fc6, fc7, fc8, fc9]) rfl ⟨_, _, by rw [HU.out], by rw [HU.out]; exact In.own_mono hOF (by omega), hB9⟩
          · have HU := Lib.hid (HNO.out he)
            have hne := AclU.str_ne he
            clear he
            generalize packI (readI s) = P at hne HPK ⊢
            by_cases hem : P = ⟨#[]⟩
            · subst hem
              clear hne
              obtain ⟨z0, z1, z2, z3, z4, z5, z6, z7, z8, z9⟩ := Bk.c10 HR.out
              have ze0 := HR.out.free 0
              have ze1 := HR.out.free 1
              have ze2 := HR.out.free 2
              have ze3 := HR.out.free 3
              have ze4 := HR.out.free 4
              have ze5 := HR.out.free 5
              have ze6 := HR.out.free 6
              have ze7 := HR.out.free 7
              have ze8 := HR.out.free 8
              have ze9 := HR.out.free 9
              go_wp2_with fail
              have hF0 := HR.out
              have hF1 : Bk _ _ #[.int .i64 0, .int .i64 0, .int .i64 0, .int .i64 0, .int .i64 0, .int .i64 0, .int .i64 0, .slice none 0 0, .slice none 0 0, .slice none 0 0] _ := hF0.put 0 (.int .i64 0)
              clear hF0
              have hF2 : Bk _ _ #[.int .i64 0, .int .i64 0, .int .i64 0, .int .i64 0, .int .i64 0, .int .i64 0, .int .i64 0, .slice none 0 0, .slice none 0 0, .slice none 0 0] _ := hF1.put 1 (.int .i64 0)
              clear hF1
              have hF3 : Bk _ _ #[.int .i64 0, .int .i64 0, .int .i64 0, .int .i64 0, .int .i64 0, .int .i64 0, .int .i64 0, .slice none 0 0, .slice none 0 0, .slice none 0 0] _ := hF2.put 2 (.int .i64 0)
              clear hF2
              have hF4 : Bk _ _ #[.int .i64 0, .int .i64 0, .int .i64 0, .int .i64 0, .int .i64 0, .int .i64 0, .int .i64 0, .slice none 0 0, .slice none 0 0, .slice none 0 0] _ := hF3.put 3 (.int .i64 0)
              clear hF3
              have hF5 : Bk _ _ #[.int .i64 0, .int .i64 0, .int .i64 0, .int .i64 0, .int .i64 0, .int .i64 0, .int .i64 0, .slice none 0 0, .slice none 0 0, .slice none 0 0] _ := hF4.put 4 (.int .i64 0)
              clear hF4
              have hF6 : Bk _ _ #[.int .i64 0, .int .i64 0, .int .i64 0, .int .i64 0, .int .i64 0, .int .i64 0, .int .i64 0, .slice none 0 0, .slice none 0 0, .slice none 0 0] _ := hF5.put 5 (.int .i64 0)
              clear hF5
              have hF7 : Bk _ _ #[.int .i64 0, .int .i64 0, .int .i64 0, .int .i64 0, .int .i64 0, .int .i64 0, .int .i64 0, .slice none 0 0, .slice none 0 0, .slice none 0 0] _ := hF6.put 6 (.int .i64 0)
              clear hF6
              have hF8 : Bk _ _ #[.int .i64 0, .int .i64 0, .int .i64 0, .int .i64 0, .int .i64 0, .int .i64 0, .int .i64 0, .slice none 0 0, .slice none 0 0, .slice none 0 0] _ := hF7.put 7 (.slice none 0 0)
              clear hF7
              have hF9 : Bk _ _ #[.int .i64 0, .int .i64 0, .int .i64 0, .int .i64 0, .int .i64 0, .int .i64 0, .int .i64 0, .slice none 0 0, .slice none 0 0, .slice none 0 0] _ := hF8.put 8 (.slice none 0 0)
              clear hF8
              have hF10 : Bk _ _ #[.int .i64 0, .int .i64 0, .int .i64 0, .int .i64 0, .int .i64 0, .int .i64 0, .int .i64 0, .slice none 0 0, .slice none 0 0, .slice none 0 0] _ := hF9.put 9 (.slice none 0 0)
              clear hF9
              have hB9 := ((((((((((HB.out.setCell (p := ⟨w.heap.size, 0, none⟩) (Nat.le_refl _) (.int .i64 0)).setCell (p := ⟨w.heap.size, 1, none⟩) (Nat.le_refl _) (.int .i64 0)).setCell (p := ⟨w.heap.size, 2, none⟩) (Nat.le_refl _) (.int .i64 0)).setCell (p := ⟨w.heap.size, 3, none⟩) (Nat.le_refl _) (.int .i64 0)).setCell (p := ⟨w.heap.size, 4, none⟩) (Nat.le_refl _) (.int .i64 0)).setCell (p := ⟨w.heap.size, 5, none⟩) (Nat.le_refl _) (.int .i64 0)).setCell (p := ⟨w.heap.size, 6, none⟩) (Nat.le_refl _) (.int .i64 0)).setCell (p := ⟨w.heap.size, 7, none⟩) (Nat.le_refl _) (.slice none 0 0)).setCell (p := ⟨w.heap.size, 8, none⟩) (Nat.le_refl _) (.slice none 0 0)).setCell (p := ⟨w.heap.size, 9, none⟩) (Nat.le_refl _) (.slice none 0 0))
              generalize ((((((((((wi.setCell ⟨w.heap.size, 0, none⟩ (.int .i64 0)).setCell ⟨w.heap.size, 1, none⟩ (.int .i64 0)).setCell ⟨w.heap.size, 2, none⟩ (.int .i64 0)).setCell ⟨w.heap.size, 3, none⟩ (.int .i64 0)).setCell ⟨w.heap.size, 4, none⟩ (.int .i64 0)).setCell ⟨w.heap.size, 5, none⟩ (.int .i64 0)).setCell ⟨w.heap.size, 6, none⟩ (.int .i64 0)).setCell ⟨w.heap.size, 7, none⟩ (.slice none 0 0)).setCell ⟨w.heap.size, 8, none⟩ (.slice none 0 0)).setCell ⟨w.heap.size, 9, none⟩ (.slice none 0 0)) = w9 at hF10 hB9 ⊢
              have fc0 : w9.cell? ⟨w.heap.size, 0, none⟩ = some (.int .i64 0) := hF10.cell 0
              have fc1 : w9.cell? ⟨w.heap.size, 1, none⟩ = some (.int .i64 0) := hF10.cell 1
              have fc2 : w9.cell? ⟨w.heap.size, 2, none⟩ = some (.int .i64 0) := hF10.cell 2
              have fc3 : w9.cell? ⟨w.heap.size, 3, none⟩ = some (.int .i64 0) := hF10.cell 3
              have fc4 : w9.cell? ⟨w.heap.size, 4, none⟩ = some (.int .i64 0) := hF10.cell 4
              have fc5 : w9.cell? ⟨w.heap.size, 5, none⟩ = some (.int .i64 0) := hF10.cell 5
              have fc6 : w9.cell? ⟨w.heap.size, 6, none⟩ = some (.int .i64 0) := hF10.cell 6
              have fc7 : w9.cell? ⟨w.heap.size, 7, none⟩ = some (.slice none 0 0) := hF10.cell 7
              have fc8 : w9.cell? ⟨w.heap.size, 8, none⟩ = some (.slice none 0 0) := hF10.cell 8
              have fc9 : w9.cell? ⟨w.heap.size, 9, none⟩ = some (.slice none 0 0) := hF10.cell 9
              exact bodyPost_ret (v := .tuple #[.agg #[.int .i64 0, .int .i64 0, .int .i64 0, .int .i64 0, .int .i64 0, .int .i64 0, .int .i64 0, .slice none 0 0, .slice none 0 0, .slice none 0 0], .bool false]) (by simp [results, Tryd.results19, go_sem, fc0, fc1, fc2, fc3, fc4, fc5, fc6, fc7, fc8, fc9]) rfl ⟨_, _, by rw [HU.out], by rw [HU.out]; exact zero_own _ _, hB9⟩
            · have hsp := not_empty hem
              clear hem
              go_wp2_with fail
              refine (HPK.out _ (.agg #[.int .i64 m0, .int .i64 m1, .int .i64 m2, .int .i64 m3, .int .i64 m4, .int .i64 m5, .int .i64 m6, .slice ba (readI s).blocks.length bc, .slice aa (readI s).acl.length ac, .slice da (readI s).dflt.length dc]) (HIH.out _ HB1.out)).mono ?_
              rintro e wj ⟨rfl, hb⟩
              replace HX := Lib.hid (HX.out.all hb)
              replace HR := Lib.hid (HR.out.all hb)
              replace HB := Lib.hid (HB.out.trans (hb.mono HB.out.size))
              clear x0 x1 x2 x3 x4 x5 x6 x7 x8 x9
              clear hb
              obtain ⟨z0, z1, z2, z3, z4, z5, z6, z7, z8, z9⟩ := Bk.c10 HR.out
              have ze0 := HR.out.free 0
              have ze1 := HR.out.free 1
              have ze2 := HR.out.free 2
              have ze3 := HR.out.free 3
              have ze4 := HR.out.free 4
              have ze5 := HR.out.free 5
              have ze6 := HR.out.free 6
              have ze7 := HR.out.free 7
              have ze8 := HR.out.free 8
              have ze9 := HR.out.free 9
              go_wp2_with fail
              have hF0 := HR.out
              have hF1 : Bk _ _ #[.int .i64 0, .int .i64 0, .int .i64 0, .int .i64 0, .int .i64 0, .int .i64 0, .int .i64 0, .slice none 0 0, .slice none 0 0, .slice none 0 0] _ := hF0.put 0 (.int .i64 0)
              clear hF0
              have hF2 : Bk _ _ #[.int .i64 0, .int .i64 0, .int .i64 0, .int .i64 0, .int .i64 0, .int .i64 0, .int .i64 0, .slice none 0 0, .slice none 0 0, .slice none 0 0] _ := hF1.put 1 (.int .i64 0)
              clear hF1
              have hF3 : Bk _ _ #[.int .i64 0, .int .i64 0, .int .i64 0, .int .i64 0, .int .i64 0, .int .i64 0, .int .i64 0, .slice none 0 0, .slice none 0 0, .slice none 0 0] _ := hF2.put 2 (.int .i64 0)
              clear hF2
              have hF4 : Bk _ _ #[.int .i64 0, .int .i64 0, .int .i64 0, .int .i64 0, .int .i64 0, .int .i64 0, .int .i64 0, .slice none 0 0, .slice none 0 0, .slice none 0 0] _ := hF3.put 3 (.int .i64 0)
              clear hF3
              have hF5 : Bk _ _ #[.int .i64 0, .int .i64 0, .int .i64 0, .int .i64 0, .int .i64 0, .int .i64 0, .int .i64 0, .slice none 0 0, .slice none 0 0, .slice none 0 0] _ := hF4.put 4 (.int .i64 0)
              clear hF4
              have hF6 : Bk _ _ #[.int .i64 0, .int .i64 0, .int .i64 0, .int .i64 0, .int .i64 0, .int .i64 0, .int .i64 0, .slice none 0 0, .slice none 0 0, .slice none 0 0] _ := hF5.put 5 (.int .i64 0)
              clear hF5
              have hF7 : Bk _ _ #[.int .i64 0, .int .i64 0, .int .i64 0, .int .i64 0, .int .i64 0, .int .i64 0, .int .i64 0, .slice none 0 0, .slice none 0 0, .slice none 0 0] _ := hF6.put 6 (.int .i64 0)
              clear hF6
              have hF8 : Bk _ _ #[.int .i64 0, .int .i64 0, .int .i64 0, .int .i64 0, .int .i64 0, .int .i64 0, .int .i64 0, .slice none 0 0, .slice none 0 0, .slice none 0 0] _ := hF7.put 7 (.slice none 0 0)
              clear hF7
              have hF9 : Bk _ _ #[.int .i64 0, .int .i64 0, .int .i64 0, .int .i64 0, .int .i64 0, .int .i64 0, .int .i64 0, .slice none 0 0, .slice none 0 0, .slice none 0 0] _ := hF8.put 8 (.slice none 0 0)
              clear hF8
              have hF10 : Bk _ _ #[.int .i64 0, .int .i64 0, .int .i64 0, .int .i64 0, .int .i64 0, .int .i64 0, .int .i64 0, .slice none 0 0, .slice none 0 0, .slice none 0 0] _ := hF9.put 9 (.slice none 0 0)
              clear hF9
              have hB9 := ((((((((((HB.out.setCell (p := ⟨w.heap.size, 0, none⟩) (Nat.le_refl _) (.int .i64 0)).setCell (p := ⟨w.heap.size, 1, none⟩) (Nat.le_refl _) (.int .i64 0)).setCell (p := ⟨w.heap.size, 2, none⟩) (Nat.le_refl _) (.int .i64 0)).setCell (p := ⟨w.heap.size, 3, none⟩) (Nat.le_refl _) (.int .i64 0)).setCell (p := ⟨w.heap.size, 4, none⟩) (Nat.le_refl _) (.int .i64 0)).setCell (p := ⟨w.heap.size, 5, none⟩) (Nat.le_refl _) (.int .i64 0)).setCell (p := ⟨w.heap.size, 6, none⟩) (Nat.le_refl _) (.int .i64 0)).setCell (p := ⟨w.heap.size, 7, none⟩) (Nat.le_refl _) (.slice none 0 0)).setCell (p := ⟨w.heap.size, 8, none⟩) (Nat.le_refl _) (.slice none 0 0)).setCell (p := ⟨w.heap.size, 9, none⟩) (Nat.le_refl _) (.slice none 0 0))
              generalize ((((((((((wj.setCell ⟨w.heap.size, 0, none⟩ (.int .i64 0)).setCell ⟨w.heap.size, 1, none⟩ (.int .i64 0)).setCell ⟨w.heap.size, 2, none⟩ (.int .i64 0)).setCell ⟨w.heap.size, 3, none⟩ (.int .i64 0)).setCell ⟨w.heap.size, 4, none⟩ (.int .i64 0)).setCell ⟨w.heap.size, 5, none⟩ (.int .i64 0)).setCell ⟨w.heap.size, 6, none⟩ (.int .i64 0)).setCell ⟨w.heap.size, 7, none⟩ (.slice none 0 0)).setCell ⟨w.heap.size, 8, none⟩ (.slice none 0 0)).setCell ⟨w.heap.size, 9, none⟩ (.slice none 0 0)) = w9 at hF10 hB9 ⊢
              have fc0 : w9.cell? ⟨w.heap.size, 0, none⟩ = some (.int .i64 0) := hF10.cell 0
              have fc1 : w9.cell? ⟨w.heap.size, 1, none⟩ = some (.int .i64 0) := hF10.cell 1
              have fc2 : w9.cell? ⟨w.heap.size, 2, none⟩ = some (.int .i64 0) := hF10.cell 2
              have fc3 : w9.cell? ⟨w.heap.size, 3, none⟩ = some (.int .i64 0) := hF10.cell 3
              have fc4 : w9.cell? ⟨w.heap.size, 4, none⟩ = some (.int .i64 0) := hF10.cell 4
              have fc5 : w9.cell? ⟨w.heap.size, 5, none⟩ = some (.int .i64 0) := hF10.cell 5
              have fc6 : w9.cell? ⟨w.heap.size, 6, none⟩ = some (.int .i64 0) := hF10.cell 6
              have fc7 : w9.cell? ⟨w.heap.size, 7, none⟩ = some (.slice none 0 0) := hF10.cell 7
              have fc8 : w9.cell? ⟨w.heap.size, 8, none⟩ = some (.slice none 0 0) := hF10.cell 8
              have fc9 : w9.cell? ⟨w.heap.size, 9, none⟩ = some (.slice none 0 0) := hF10.cell 9
              exact bodyPost_ret (v := .tuple #[.agg #[.int .i64 0, .int .i64 0, .int .i64 0, .int .i64 0, .int .i64 0, .int .i64 0, .int .i64 0, .slice none 0 0, .slice none 0 0, .slice none 0 0], .bool false]) (by simp [results, Tryd.results19, go_sem, fc0, fc1, fc2, fc3, fc4, fc5, fc6, fc7, fc8, fc9]) rfl ⟨_, _, by rw [HU.out], by rw [HU.out]; exact zero_own _ _, hB9⟩
  · have HU := Lib.hid (InoV.unpackI_short h96)
    have hz96 : ((s.size : Int) != 96) = true := by simp; exact fun e => h96 (by omega)
    have hz97 : ((s.size : Int) == 96) = false := by simp; exact fun e => h96 (by omega)
    clear h96
    obtain ⟨z0, z1, z2, z3, z4, z5, z6, z7, z8, z9⟩ := Bk.c10 HR.out
    have ze0 := HR.out.free 0
    have ze1 := HR.out.free 1
    have ze2 := HR.out.free 2
    have ze3 := HR.out.free 3
    have ze4 := HR.out.free 4
    have ze5 := HR.out.free 5
    have ze6 := HR.out.free 6
    have ze7 := HR.out.free 7
    have ze8 := HR.out.free 8
    have ze9 := HR.out.free 9
    go_enter Tryd.func19, Tryd.ntmps19
    go_wp2_with fail
    exact bodyPost_ret (v := .tuple #[.agg #[.int .i64 0, .int .i64 0, .int .i64 0, .int .i64 0, .int .i64 0, .int .i64 0, .int .i64 0, .slice none 0 0, .slice none 0 0, .slice none 0 0], .bool false]) (by simp [results, Tryd.results19, go_sem, z0, z1, z2, z3, z4, z5, z6, z7, z8, z9]) rfl ⟨_, _, by rw [HU.out], by rw [HU.out]; exact zero_own _ _, (HB.out.alloc HB.out.size _)⟩
end Go.Proofs.YthobdeidjagnhaaDoor.InUs
