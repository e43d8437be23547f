/- Contract: the model's SameInode, for every two inodes. Conditions: as the theorem types them. -/
import Derived.Test.YtafmpllkehbmeaaGreatDoorInSm
namespace Go.Proofs.YtafmpllkehbmeaaGreatDoor.InSp
open Go.ChangeShapes Go.WideShapes Go.ChangeAt Go.RowKit
open Foot Bx
open InoV (I sameB)
open Dk (ret_bool)
set_option linter.unusedVariables false

theorem no_of {n m : I} (h : n ≠ m) : sameB n m = false := by
  cases hs : sameB n m
  · rfl
  · exact absurd ((InoV.same_iff n m).1 hs) h
theorem rest_of {n m : I} (h0 : n.kind = m.kind) (h1 : n.mode = m.mode) (h2 : n.uid = m.uid) (h3 : n.gid = m.gid) (h4 : n.links = m.links) (h5 : n.size = m.size) (h6 : n.tick = m.tick) : sameB n m = (decide (n.blocks = m.blocks) && decide (n.acl = m.acl) && decide (n.dflt = m.dflt)) := by
  simp [sameB, h0, h1, h2, h3, h4, h5, h6]
set_option maxRecDepth 100000 in
set_option maxHeartbeats 3200000 in
theorem same_spec (w : World) (va vb : Value) (n m : I) (hn : In.cost n ≤ 1073741824) (hm : In.cost m ≤ 1073741824) (h : In.Holds w va n) (h' : In.Holds w vb m) :
    Calls Tryz.prog 207 #[va, vb] w fun e w' => e = .returned (.bool (sameB n m)) ∧ Below w.heap.size w w' := by
  have hn1 : n.blocks.length ≤ 1073741824 := Nat.le_trans (In.le_blocks n) hn
  have hn2 : n.acl.length ≤ 1073741824 := Nat.le_trans (In.le_acl n) hn
  have hn3 : n.dflt.length ≤ 1073741824 := Nat.le_trans (In.le_dflt n) hn
  have hm1 : m.blocks.length ≤ 1073741824 := Nat.le_trans (In.le_blocks m) hm
  have hm2 : m.acl.length ≤ 1073741824 := Nat.le_trans (In.le_acl m) hm
  have hm3 : m.dflt.length ≤ 1073741824 := Nat.le_trans (In.le_dflt m) hm
  clear hn hm
  obtain ⟨r0, r1, r2, rfl, g0, g1, g2⟩ := h
  obtain ⟨s0, s1, s2, rfl, k0, k1, k2⟩ := h'
  have H0 := Lib.hid g0
  have H1 := Lib.hid g1
  have H2 := Lib.hid g2
  have K0 := Lib.hid k0
  have K1 := Lib.hid k1
  have K2 := Lib.hid k2
  clear g0 g1 g2 k0 k1 k2
  have HB := Lib.hid (((Below.refl w.heap.size w).alloc (Nat.le_refl _) (.cells #[.int .i64 n.kind, .int .i64 n.mode, .int .i64 n.uid, .int .i64 n.gid, .int .i64 n.links, .int .i64 n.size, .int .i64 n.tick, r0, r1, r2] 34)).alloc (by simp) (.cells #[.int .i64 m.kind, .int .i64 m.mode, .int .i64 m.uid, .int .i64 m.gid, .int .i64 m.links, .int .i64 m.size, .int .i64 m.tick, s0, s1, s2] 34))
  have HX := Lib.hid ((new w #[.int .i64 n.kind, .int .i64 n.mode, .int .i64 n.uid, .int .i64 n.gid, .int .i64 n.links, .int .i64 n.size, .int .i64 n.tick, r0, r1, r2] 34).alloc (.cells #[.int .i64 m.kind, .int .i64 m.mode, .int .i64 m.uid, .int .i64 m.gid, .int .i64 m.links, .int .i64 m.size, .int .i64 m.tick, s0, s1, s2] 34))
  have HY := Lib.hid (new_at (w.alloc (.cells #[.int .i64 n.kind, .int .i64 n.mode, .int .i64 n.uid, .int .i64 n.gid, .int .i64 n.links, .int .i64 n.size, .int .i64 n.tick, r0, r1, r2] 34)) #[.int .i64 m.kind, .int .i64 m.mode, .int .i64 m.uid, .int .i64 m.gid, .int .i64 m.links, .int .i64 m.size, .int .i64 m.tick, s0, s1, s2] 34 (w.heap.size + 1) (by simp))
  by_cases h0 : n.kind = m.kind
  · have ha0 : (n.kind == m.kind) = true := by simpa using h0
    have hb0 : (n.kind != m.kind) = false := by simpa using h0
    by_cases h1 : n.mode = m.mode
    · have ha1 : (n.mode == m.mode) = true := by simpa using h1
      have hb1 : (n.mode != m.mode) = false := by simpa using h1
      by_cases h2 : n.uid = m.uid
      · have ha2 : (n.uid == m.uid) = true := by simpa using h2
        have hb2 : (n.uid != m.uid) = false := by simpa using h2
        by_cases h3 : n.gid = m.gid
        · have ha3 : (n.gid == m.gid) = true := by simpa using h3
          have hb3 : (n.gid != m.gid) = false := by simpa using h3
          by_cases h4 : n.links = m.links
          · have ha4 : (n.links == m.links) = true := by simpa using h4
            have hb4 : (n.links != m.links) = false := by simpa using h4
            by_cases h5 : n.size = m.size
            · have ha5 : (n.size == m.size) = true := by simpa using h5
              have hb5 : (n.size != m.size) = false := by simpa using h5
              by_cases h6 : n.tick = m.tick
              · have ha6 : (n.tick == m.tick) = true := by simpa using h6
                have hb6 : (n.tick != m.tick) = false := by simpa using h6
                have HS := Lib.hid (rest_of h0 h1 h2 h3 h4 h5 h6)
                clear h0 h1 h2 h3 h4 h5 h6
                by_cases hbl : n.blocks = m.blocks
                · have HBL := Lib.hid (show decide (n.blocks = m.blocks) = true from decide_eq_true hbl)
                  clear hbl
                  by_cases ha : n.acl = m.acl
                  · have HA := Lib.hid (show decide (n.acl = m.acl) = true from decide_eq_true ha)
                    clear ha
                    go_enter Tryz.func207, Tryz.ntmps207
                    go_wp2_with fail
                    refine (InEq.same_ints _ r0 s0 n.blocks m.blocks hn1 hm1 (Ni.holds_below H0.out.old HB.out) (Ni.holds_below K0.out.old HB.out)).mono ?_
                    rintro e w1 ⟨rfl, hb⟩
                    rw [HBL.out]
                    replace HX := Lib.hid (HX.out.all hb)
                    replace HY := Lib.hid (HY.out.all hb)
                    replace HB := Lib.hid (HB.out.trans (hb.mono HB.out.size))
                    clear hb
                    obtain ⟨x00, x01, x02, x03, x04, x05, x06, x07, x08, x09⟩ := Bk.c10 HX.out
                    obtain ⟨y00, y01, y02, y03, y04, y05, y06, y07, y08, y09⟩ := Bk.c10 HY.out
                    go_wp2_with fail
                    refine (InEq.same_ents _ r1 s1 n.acl m.acl hn2 hm2 (Ae.holds_below H1.out HB.out) (Ae.holds_below K1.out HB.out)).mono ?_
                    rintro e w2 ⟨rfl, hb⟩
                    rw [HA.out]
                    replace HX := Lib.hid (HX.out.all hb)
                    replace HY := Lib.hid (HY.out.all hb)
                    replace HB := Lib.hid (HB.out.trans (hb.mono HB.out.size))
                    clear hb
                    obtain ⟨x10, x11, x12, x13, x14, x15, x16, x17, x18, x19⟩ := Bk.c10 HX.out
                    obtain ⟨y10, y11, y12, y13, y14, y15, y16, y17, y18, y19⟩ := Bk.c10 HY.out
                    go_wp2_with fail
                    refine (InEq.same_ents _ r2 s2 n.dflt m.dflt hn3 hm3 (Ae.holds_below H2.out HB.out) (Ae.holds_below K2.out HB.out)).mono ?_
                    rintro e w3 ⟨rfl, hb⟩
                    have HV := Lib.hid (show sameB n m = decide (n.dflt = m.dflt) by rw [HS.out, HBL.out, HA.out]; simp)
                    generalize decide (n.dflt = m.dflt) = D at HV ⊢
                    replace HX := Lib.hid (HX.out.all hb)
                    replace HY := Lib.hid (HY.out.all hb)
                    replace HB := Lib.hid (HB.out.trans (hb.mono HB.out.size))
                    clear hb
                    obtain ⟨x20, x21, x22, x23, x24, x25, x26, x27, x28, x29⟩ := Bk.c10 HX.out
                    obtain ⟨y20, y21, y22, y23, y24, y25, y26, y27, y28, y29⟩ := Bk.c10 HY.out
                    go_wp2
                    go_ret
                    exact ⟨ret_bool HV.out.symm, HB.out⟩
                  · have HA := Lib.hid (show decide (n.acl = m.acl) = false from decide_eq_false ha)
                    clear ha
                    go_enter Tryz.func207, Tryz.ntmps207
                    go_wp2_with fail
                    refine (InEq.same_ints _ r0 s0 n.blocks m.blocks hn1 hm1 (Ni.holds_below H0.out.old HB.out) (Ni.holds_below K0.out.old HB.out)).mono ?_
                    rintro e w1 ⟨rfl, hb⟩
                    rw [HBL.out]
                    replace HX := Lib.hid (HX.out.all hb)
                    replace HY := Lib.hid (HY.out.all hb)
                    replace HB := Lib.hid (HB.out.trans (hb.mono HB.out.size))
                    clear hb
                    obtain ⟨x00, x01, x02, x03, x04, x05, x06, x07, x08, x09⟩ := Bk.c10 HX.out
                    obtain ⟨y00, y01, y02, y03, y04, y05, y06, y07, y08, y09⟩ := Bk.c10 HY.out
                    go_wp2_with fail
                    refine (InEq.same_ents _ r1 s1 n.acl m.acl hn2 hm2 (Ae.holds_below H1.out HB.out) (Ae.holds_below K1.out HB.out)).mono ?_
                    rintro e w2 ⟨rfl, hb⟩
                    rw [HA.out]
                    replace HX := Lib.hid (HX.out.all hb)
                    replace HY := Lib.hid (HY.out.all hb)
                    replace HB := Lib.hid (HB.out.trans (hb.mono HB.out.size))
                    clear hb
                    obtain ⟨x10, x11, x12, x13, x14, x15, x16, x17, x18, x19⟩ := Bk.c10 HX.out
                    obtain ⟨y10, y11, y12, y13, y14, y15, y16, y17, y18, y19⟩ := Bk.c10 HY.out
                    have HV := Lib.hid (show sameB n m = false by rw [HS.out, HBL.out, HA.out]; simp)
                    go_wp2
                    go_ret
                    exact ⟨ret_bool HV.out.symm, HB.out⟩
                · have HBL := Lib.hid (show decide (n.blocks = m.blocks) = false from decide_eq_false hbl)
                  have HV := Lib.hid (show sameB n m = false by rw [HS.out, HBL.out]; simp)
                  clear hbl
                  go_enter Tryz.func207, Tryz.ntmps207
                  go_wp2_with fail
                  refine (InEq.same_ints _ r0 s0 n.blocks m.blocks hn1 hm1 (Ni.holds_below H0.out.old HB.out) (Ni.holds_below K0.out.old HB.out)).mono ?_
                  rintro e w1 ⟨rfl, hb⟩
                  rw [HBL.out]
                  replace HX := Lib.hid (HX.out.all hb)
                  replace HY := Lib.hid (HY.out.all hb)
                  replace HB := Lib.hid (HB.out.trans (hb.mono HB.out.size))
                  clear hb
                  obtain ⟨x00, x01, x02, x03, x04, x05, x06, x07, x08, x09⟩ := Bk.c10 HX.out
                  obtain ⟨y00, y01, y02, y03, y04, y05, y06, y07, y08, y09⟩ := Bk.c10 HY.out
                  go_wp2
                  go_ret
                  exact ⟨ret_bool HV.out.symm, HB.out⟩
              · have HV := Lib.hid (show sameB n m = false from no_of (fun e => h6 (by rw [e])))
                have ha6 : (n.tick == m.tick) = false := by simpa using h6
                have hb6 : (n.tick != m.tick) = true := by simpa using h6
                clear h0 h1 h2 h3 h4 h5 h6
                go_enter Tryz.func207, Tryz.ntmps207
                go_wp2
                go_ret
                exact ⟨ret_bool HV.out.symm, HB.out⟩
            · have HV := Lib.hid (show sameB n m = false from no_of (fun e => h5 (by rw [e])))
              have ha5 : (n.size == m.size) = false := by simpa using h5
              have hb5 : (n.size != m.size) = true := by simpa using h5
              clear h0 h1 h2 h3 h4 h5
              go_enter Tryz.func207, Tryz.ntmps207
              go_wp2
              go_ret
              exact ⟨ret_bool HV.out.symm, HB.out⟩
          · have HV := Lib.hid (show sameB n m = false from no_of (fun e => h4 (by rw [e])))
            have ha4 : (n.links == m.links) = false := by simpa using h4
            have hb4 : (n.links != m.links) = true := by simpa using h4
            clear h0 h1 h2 h3 h4
            go_enter Tryz.func207, Tryz.ntmps207
            go_wp2
            go_ret
            exact ⟨ret_bool HV.out.symm, HB.out⟩
        · have HV := Lib.hid (show sameB n m = false from no_of (fun e => h3 (by rw [e])))
          have ha3 : (n.gid == m.gid) = false := by simpa using h3
          have hb3 : (n.gid != m.gid) = true := by simpa using h3
          clear h0 h1 h2 h3
          go_enter Tryz.func207, Tryz.ntmps207
          go_wp2
          go_ret
          exact ⟨ret_bool HV.out.symm, HB.out⟩
      · have HV := Lib.hid (show sameB n m = false from no_of (fun e => h2 (by rw [e])))
        have ha2 : (n.uid == m.uid) = false := by simpa using h2
        have hb2 : (n.uid != m.uid) = true := by simpa using h2
        clear h0 h1 h2
        go_enter Tryz.func207, Tryz.ntmps207
        go_wp2
        go_ret
        exact ⟨ret_bool HV.out.symm, HB.out⟩
    · have HV := Lib.hid (show sameB n m = false from no_of (fun e => h1 (by rw [e])))
      have ha1 : (n.mode == m.mode) = false := by simpa using h1
      have hb1 : (n.mode != m.mode) = true := by simpa using h1
      clear h0 h1
      go_enter Tryz.func207, Tryz.ntmps207
      go_wp2
      go_ret
      exact ⟨ret_bool HV.out.symm, HB.out⟩
  · have HV := Lib.hid (show sameB n m = false from no_of (fun e => h0 (by rw [e])))
    have ha0 : (n.kind == m.kind) = false := by simpa using h0
    have hb0 : (n.kind != m.kind) = true := by simpa using h0
    clear h0
    go_enter Tryz.func207, Tryz.ntmps207
    go_wp2
    go_ret
    exact ⟨ret_bool HV.out.symm, HB.out⟩
end Go.Proofs.YtafmpllkehbmeaaGreatDoor.InSp
