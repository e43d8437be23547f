/- Contract: the model's copy of a file system. Conditions: its cost. -/
import Derived.Test.YtafmpllkehbmeaaGreatDoorCoL
import Derived.Deep.RegionLaw
namespace Go.Proofs.YtafmpllkehbmeaaGreatDoor.CoS
open Go.ChangeShapes Go.WideShapes Go.ChangeAt Go.RowKit
open Foot Bx
open InoV (I)
open FsV (F)
open FoB ClS CoL
open App (SrcRow)
set_option linter.unusedVariables false

theorem pre_new {w0 W : World} {TK : Int} {Q D : Nat} {q d : Value} {f : F} (hlo : w0.heap.size ≤ W.heap.size) (hq : W.ownsRow w0.heap.size 93 2 q Q (Qt.cells f.quotas)) (hd : W.ownsRow w0.heap.size 9 1 d D (f.data.map Value.string)) (hB : Below w0.heap.size w0 W) :
    Pre0 w0 (W.alloc (.cells #[.int .i64 TK, q, .slice none 0 0, d] 27)) W.heap.size TK Q D q d f :=
  ⟨new _ _ _, hlo, World.ownsRow.alloc hq _, World.ownsRow.alloc hd _, hB.alloc hlo _⟩
theorem step_append_own {P : Program} {ops : Array Oper} {o : Oper} {a : Act} {w : World} {K : Act → World → Prop} {Q : Exit → Act → World → Prop} {E : Prop} (hgd : o.guard = none) (s x : Operand) (t : TypeId)
    (ho : o.op = .call { callee := .builtin .append, args := #[s, x], argTypes := #[t, t] })
    (base : Nat) (e : TypeId) (i : TypeInfo) (z : Value) (size bytes : Nat) (ht : P.underlying t = some (.slice e)) (hi : P.info? e = some i) (hz : i.zero = some z)
    (hsize : i.size = size) (hby : i.bytes = bytes) (hzs : z.cells.size = size) (hsz : 0 < size)
    (v : Value) (n : Nat) (xs : List Value) (hs : a.eval s = v) (hown : w.ownsRow base e size v n xs)
    (ad : Addr) (m c : Nat) (news : List Value) (hx : a.eval x = .slice (some ad) m c) (hl : news.length = m * size) (hnews : ∀ j u, news[j]? = some u → w.cell? (ad.add j) = some u) (h1 : ∀ u ∈ news, u.oneCell' = true)
    (h63 : n + m ≤ maxLen) (hbytes : (n + m) * bytes ≤ 140737488355328) (hbase : base ≤ w.heap.size)
    (h : ∀ v' w', w'.ownsRow base e size v' (n + m) (xs ++ news) → w.grownBy w' v.ownBlock → (v' = .slice none 0 0 ↔ v = .slice none 0 0 ∧ m = 0) → K (a.put o.dst v') w') :
    if Region.wanted o (yielded ops a.tmps) = true then Oper.wp P o a w K Q else E := by
  have hw : Region.wanted o (yielded ops a.tmps) = true := by simp [Region.wanted, hgd]
  rw [if_pos hw]
  exact wp_append_own w s x t ho base e i z size bytes ht hi hz hsize hby hzs hsz v n xs hs hown ad m c news hx hl hnews h1 h63 hbytes hbase h
theorem cells10_at (w : World) (b : Nat) (l : List Value) {t : TypeId} (h : Bk w b l.toArray t) : ∀ j u, l[j]? = some u → w.cell? ((⟨b, 0, none⟩ : Addr).add j) = some u := by
  intro j u hu
  have h1 := h.cell j
  have h2 : w.cell? ⟨b, j, none⟩ = some u := by rw [h1]; simpa using hu
  simp only [Addr.add, Nat.zero_add]
  split
  · rename_i h0; subst h0; exact h2
  · exact h2
set_option maxRecDepth 100000 in
set_option maxHeartbeats 12800000 in
theorem copy_spec (w : World) (v : Value) (f : F) (hc : FsF.cost f ≤ 1073741824) (h : FsF.Holds w v f) :
    Calls Tryz.prog 91 #[v] w fun e w' => ∃ v' S, e = .returned v' ∧ FsF.Own w' w.heap.size v' f S ∧ Below w.heap.size w w' := by
  obtain ⟨i0, hi, hz0, hz1, hz2⟩ := info_parts Strs.strInfo
  obtain ⟨j0, hj, hy0, hy1, hy2⟩ := info_parts Qt.info
  obtain ⟨k0, hk, hx0, hx1, hx2⟩ := info_parts IF.info
  obtain ⟨r0, r1, r2, rfl, g0, g1, g2⟩ := h
  have hb0 : f.quotas.length ≤ 1073741824 := Nat.le_trans (FsF.le_quotas f) hc
  have hb1 : f.inodes.length ≤ 1073741824 := Nat.le_trans (Nat.le_trans (Nat.le_add_right _ _) (FsF.le_inodes f)) hc
  have hb2 : f.data.length ≤ 1073741824 := Nat.le_trans (Nat.le_trans (Nat.le_add_right _ _) (FsF.le_data f)) hc
  have HCI := Lib.hid (show ∀ x ∈ f.inodes, In.cost x ≤ 1073741824 from fun x hx => Nat.le_trans (IF.cost_mem hx) (Nat.le_trans (Nat.le_trans (Nat.le_add_left _ _) (FsF.le_inodes f)) hc))
  have HQ := Lib.hid (FsM.src_qs g0)
  have HS := Lib.hid (App.src_strs g2)
  have HI := Lib.hid g1
  obtain ⟨qa, qc, rfl⟩ := QF.form g0
  obtain ⟨ia, ic, rfl⟩ := IF.form g1
  obtain ⟨da, dc, rfl⟩ := SF.form g2
  clear g0 g1 g2 hc
  obtain ⟨TK, hT⟩ : ∃ T, T = f.tick := ⟨_, rfl⟩
  obtain ⟨Q, hQ⟩ : ∃ Q, Q = f.quotas.length := ⟨_, rfl⟩
  obtain ⟨M, hM⟩ : ∃ M, M = f.inodes.length := ⟨_, rfl⟩
  obtain ⟨D, hD⟩ : ∃ D, D = f.data.length := ⟨_, rfl⟩
  rw [← hQ] at HQ hb0
  rw [← hM] at HI hb1
  rw [← hD] at HS hb2
  rw [← hT, ← hQ, ← hM, ← hD]
  have HT := Lib.hid hT
  have HLQ := Lib.hid hQ
  have HLM := Lib.hid hM
  have HLD := Lib.hid hD
  clear hT hQ hM hD
  have HB0 := Lib.hid (((Below.refl w.heap.size w).alloc (Nat.le_refl _) (.cells #[.int .i64 TK, .slice qa Q qc, .slice ia M ic, .slice da D dc] 27)).alloc (by simp) (.cells #[.int .i64 0, .slice none 0 0, .slice none 0 0, .slice none 0 0] 27))
  have BX := Lib.hid ((new w #[.int .i64 TK, .slice qa Q qc, .slice ia M ic, .slice da D dc] 27).alloc (.cells #[.int .i64 0, .slice none 0 0, .slice none 0 0, .slice none 0 0] 27))
  have BR := Lib.hid (new_at (w.alloc (.cells #[.int .i64 TK, .slice qa Q qc, .slice ia M ic, .slice da D dc] 27)) #[.int .i64 0, .slice none 0 0, .slice none 0 0, .slice none 0 0] 27 (w.heap.size + 1) (by simp))
  have HS0 := Lib.hid (show ((w.alloc (.cells #[.int .i64 TK, .slice qa Q qc, .slice ia M ic, .slice da D dc] 27)).alloc (.cells #[.int .i64 0, .slice none 0 0, .slice none 0 0, .slice none 0 0] 27)).heap.size = w.heap.size + 1 + 1 from by simp)
  go_enter Tryz.func91, Tryz.ntmps91
  go_wp2
  generalize (w.alloc (.cells #[.int .i64 TK, .slice qa Q qc, .slice ia M ic, .slice da D dc] 27)).alloc (.cells #[.int .i64 0, .slice none 0 0, .slice none 0 0, .slice none 0 0] 27) = w0 at *
  have hsz := HS0.out
  have HC := Lib.hid (Below.refl w0.heap.size w0)
  have l0 : ¬ w.heap.size = w0.heap.size := by omega
  have l0r : ¬ w0.heap.size = w.heap.size := by omega
  have l1 : ¬ w.heap.size = w0.heap.size + 1 := by omega
  have l1r : ¬ w0.heap.size + 1 = w.heap.size := by omega
  have l2 : ¬ w.heap.size = w0.heap.size + 1 + 1 := by omega
  have l2r : ¬ w0.heap.size + 1 + 1 = w.heap.size := by omega
  have l3 : ¬ w.heap.size = w.heap.size + 1 + 1 := by omega
  have l3r : ¬ w.heap.size + 1 + 1 = w.heap.size := by omega
  have l4 : ¬ w.heap.size = w.heap.size + 1 + 1 + 1 := by omega
  have l4r : ¬ w.heap.size + 1 + 1 + 1 = w.heap.size := by omega
  have l5 : ¬ w.heap.size = w.heap.size + 1 + 1 + 1 + 1 := by omega
  have l5r : ¬ w.heap.size + 1 + 1 + 1 + 1 = w.heap.size := by omega
  obtain ⟨x0, x1, x2, x3⟩ := Bk.c4 BX.out
  refine Code.wp_mono (Q := NoPanic fun e a W => e = .normal ∧ ∃ (x4 x5 x6 x7 x8 x9 x10 x11 x12 x13 x14 x15 x16 q d : Value) (b : Nat), a = { tmps := #[.agg #[.int .i64 TK, .slice qa Q qc, .slice ia M ic, .slice da D dc], .pointer (some ⟨w.heap.size, 0, none⟩), .pointer (some ⟨w.heap.size + 1, 0, none⟩), .pointer (some ⟨b, 0, none⟩), x4, x5, x6, x7, x8, x9, x10, x11, x12, x13, x14, x15, x16, undef, undef, undef, undef, undef, undef, undef, undef, undef, undef, undef, undef, undef, undef, undef, undef], defers := [] } ∧ Pre0 w0 W b TK Q D q d f) ?mid ?reg
  case mid =>
    rintro e a W hq
    obtain ⟨rfl, x4, x5, x6, x7, x8, x9, x10, x11, x12, x13, x14, x15, x16, q, d, b, rfl, hpre⟩ := NoPanic.imp _ _ _ hq
    clear hq
    have HX1 := Lib.hid (BX.out.all hpre.2.2.2.2)
    have HR1 := Lib.hid (BR.out.all hpre.2.2.2.2)
    have HSQ := Lib.hid (Dk.slice_of hpre.2.2.1)
    have HSD := Lib.hid (Dk.slice_of hpre.2.2.2.1)
    have HL0 := Lib.hid (lp_zero hpre)
    have HLO := Lib.hid hpre.2.1
    obtain ⟨m0, m1, m2, m3⟩ := Bk.c4 HX1.out
    clear hpre m0 m1 m3 x0 x1 x2 x3
    go_wp2
    clear m2
    go_loopw [20] (fun iv wr => ∃ (i : Nat) (r : Value) (es : List IF.El), i ≤ M ∧ iv = .int .i64 i ∧ LP w0 b TK Q D q d f i r es wr) (fun iv _ => M - (intOf iv).toNat)
    case atStart => exact ⟨0, _, _, Nat.zero_le _, rfl, HL0.out⟩
    case round =>
      obtain ⟨i, r, es, hi, rfl, hrel⟩ := hrel
      have HRR := Lib.hid hrel
      have HBR := Lib.hid hrel.2.2.2.2.2.2.2.2
      have hszr : w0.heap.size ≤ wr.heap.size := HBR.out.size
      clear hrel
      by_cases hlt : i < M
      · have HLX := Lib.hid (show i < f.inodes.length by rw [← HLM.out]; exact hlt)
        obtain ⟨a', cap', e', _, hat⟩ := HI.out
        obtain ⟨bI, oI, ea, hbI, rr0, rr1, rr2, hC, hP⟩ := hat i HLX.out
        simp only [Value.slice.injEq] at e'
        obtain ⟨e1', e2', e3'⟩ := e'
        clear e2' e3'
        subst e1'
        subst ea
        clear hat
        obtain ⟨n, hn⟩ : ∃ n, n = f.inodes.getD i IF.z0 := ⟨_, rfl⟩
        rw [← hn] at hC hP
        have HCX := Lib.hid (show In.cost n ≤ 1073741824 by rw [hn]; exact HCI.out _ (IF.mem_getD HLX.out))
        have HN := Lib.hid hn
        have hww : Below w.heap.size w wr := HB0.out.trans (HBR.out.mono HB0.out.size)
        have hPW := IF.parts_below hP hww
        obtain ⟨d0, d1, d2, d3, d4, d5, d6, d7, d8, d9⟩ := hC.below hbI hww
        obtain ⟨p0, p1, p2⟩ := id hPW
        obtain ⟨b0, e0, rfl⟩ := NiF.form p0
        obtain ⟨b1, e1, rfl⟩ := AeF.form p1
        obtain ⟨b2, e2, rfl⟩ := AeF.form p2
        have HHX := Lib.hid (IF.parts_holds hPW)
        clear p0 p1 p2 hP hPW hC hn hww hbI
        have HLA := Lib.hid (lp_below HRR.out ((Below.refl wr.heap.size wr).alloc (Nat.le_refl _) (.cells #[.int .i64 n.kind, .int .i64 n.mode, .int .i64 n.uid, .int .i64 n.gid, .int .i64 n.links, .int .i64 n.size, .int .i64 n.tick, .slice b0 n.blocks.length e0, .slice b1 n.acl.length e1, .slice b2 n.dflt.length e2] 34)))
        have HBA := Lib.hid ((Below.refl wr.heap.size wr).alloc (Nat.le_refl _) (.cells #[.int .i64 n.kind, .int .i64 n.mode, .int .i64 n.uid, .int .i64 n.gid, .int .i64 n.links, .int .i64 n.size, .int .i64 n.tick, .slice b0 n.blocks.length e0, .slice b1 n.acl.length e1, .slice b2 n.dflt.length e2] 34))
        have HNB := Lib.hid (new wr #[.int .i64 n.kind, .int .i64 n.mode, .int .i64 n.uid, .int .i64 n.gid, .int .i64 n.links, .int .i64 n.size, .int .i64 n.tick, .slice b0 n.blocks.length e0, .slice b1 n.acl.length e1, .slice b2 n.dflt.length e2] 34)
        have HHA := Lib.hid (In.holds_below HHX.out ((Below.refl wr.heap.size wr).alloc (Nat.le_refl _) (.cells #[.int .i64 n.kind, .int .i64 n.mode, .int .i64 n.uid, .int .i64 n.gid, .int .i64 n.links, .int .i64 n.size, .int .i64 n.tick, .slice b0 n.blocks.length e0, .slice b1 n.acl.length e1, .slice b2 n.dflt.length e2] 34)))
        go_wp2
        clear d0 d1 d2 d3 d4 d5 d6 d7 d8 d9
        generalize wr.alloc (.cells #[.int .i64 n.kind, .int .i64 n.mode, .int .i64 n.uid, .int .i64 n.gid, .int .i64 n.links, .int .i64 n.size, .int .i64 n.tick, .slice b0 n.blocks.length e0, .slice b1 n.acl.length e1, .slice b2 n.dflt.length e2] 34) = wa at *
        have c2 : wa.cell? ⟨b, 2, none⟩ = some r := HLA.out.1.cell 2
        obtain ⟨m0, m1, m2, m3, m4, m5, m6, m7, m8, m9⟩ := Bk.c10 HNB.out
        go_region_law (first
            | (go_simp; go_at_call 157; ((with_reducible refine (inode_spec _ _ n HCX.out ?_).mono ?_)); (first | exact HHA.out | exact In.holds_below HHA.out (Below.drew (Below.refl _ _))); rintro e w2 ⟨y', T, rfl, hown, hb2⟩; obtain ⟨t0, t1, t2, T0, T1, T2, rfl, hTT, hTn, ho0, ho1, ho2⟩ := id hown; obtain ⟨ya0, yc0, rfl⟩ := NiF.own_form ho0; obtain ⟨ya1, yc1, rfl⟩ := AeF.own_form ho1; obtain ⟨ya2, yc2, rfl⟩ := AeF.own_form ho2; have HOW := Lib.hid hown; have HB2 := Lib.hid hb2.size; have HL2 := Lib.hid (lp_below HLA.out (show Below wa.heap.size wa w2 from by first | exact hb2 | exact (Below.drew (Below.refl _ _)).trans hb2)); clear hown hb2 hTT hTn ho0 ho1 ho2; have c2 : w2.cell? ⟨b, 2, none⟩ = some r := HL2.out.1.cell 2; have n1 : ¬ b = w2.heap.size := (by have := HL2.out.1.lt; omega); have n2 : ¬ w2.heap.size = b := (by have := HL2.out.1.lt; omega); have c3 : (w2.alloc (.cells [.int .i64 n.kind, .int .i64 n.mode, .int .i64 n.uid, .int .i64 n.gid, .int .i64 n.links, .int .i64 n.size, .int .i64 n.tick, .slice ya0 n.blocks.length yc0, .slice ya1 n.acl.length yc1, .slice ya2 n.dflt.length yc2].toArray 34)).cell? ⟨b, 2, none⟩ = some r := (HL2.out.1.alloc _).cell 2)
            | (refine step_append_own rfl _ _ 24 rfl w0.heap.size 34 k0 (.agg #[.int .i64 0, .int .i64 0, .int .i64 0, .int .i64 0, .int .i64 0, .int .i64 0, .int .i64 0, .slice none 0 0, .slice none 0 0, .slice none 0 0]) 10 128 Tryz.underlying24 hk hx0 hx1 hx2 rfl (by decide) r i (IF.cells es) rfl ?_ ⟨w2.heap.size, 0, none⟩ 1 1 [.int .i64 n.kind, .int .i64 n.mode, .int .i64 n.uid, .int .i64 n.gid, .int .i64 n.links, .int .i64 n.size, .int .i64 n.tick, .slice ya0 n.blocks.length yc0, .slice ya1 n.acl.length yc1, .slice ya2 n.dflt.length yc2] rfl rfl ?_ ?_ ?_ ?_ ?_ ?_; (exact (by repeat (first | exact HL2.out.2.2.2.1 | (refine World.ownsRow.drew ?_) | (refine World.ownsRow.alloc ?_ _)))); (exact cells10_at _ _ _ (by first | exact new w2 _ _ | exact (Bk.drew (new w2 _ _)))); (first | (simp [Value.oneCell']; done) | (intro u hu; simp at hu; rcases hu with rfl | rfl | rfl | rfl | rfl | rfl | rfl | rfl | rfl | rfl <;> rfl)); ((unfold maxLen; omega)); (omega); ((have h1 := HB2.out; have h2 := HL2.out.2.2.2.2.2.2.2.2.size; first | omega | (simp; done) | (simp; omega))); intro v' w3 hown3 hg3 _; obtain ⟨va', vc', rfl⟩ := Dk.slice_of hown3; have HO3 := Lib.hid hown3; have HG3 := Lib.hid hg3; clear hown3 hg3; have hb3 := FoB.Bk.chg (HL2.out.1.alloc (.cells [.int .i64 n.kind, .int .i64 n.mode, .int .i64 n.uid, .int .i64 n.gid, .int .i64 n.links, .int .i64 n.size, .int .i64 n.tick, .slice ya0 n.blocks.length yc0, .slice ya1 n.acl.length yc1, .slice ya2 n.dflt.length yc2].toArray 34)) (Chg.of_grown (show (w2.alloc (.cells [.int .i64 n.kind, .int .i64 n.mode, .int .i64 n.uid, .int .i64 n.gid, .int .i64 n.links, .int .i64 n.size, .int .i64 n.tick, .slice ya0 n.blocks.length yc0, .slice ya1 n.acl.length yc1, .slice ya2 n.dflt.length yc2].toArray 34)).grownBy w3 r.ownBlock from HG3.out)) (row_nin HL2.out.2.2.2.1 HL2.out.1 (by decide)); have c2 : w3.cell? ⟨b, 2, none⟩ = some r := hb3.cell 2; have f2 := hb3.free 2; have HB3 := Lib.hid hb3; clear hb3))
        all_goals
          have hs1 : w0.heap.size ≤ wa.heap.size := Nat.le_trans hszr HBA.out.size
          have hbw : Below w2.heap.size w2 (w2.alloc (.cells [.int .i64 n.kind, .int .i64 n.mode, .int .i64 n.uid, .int .i64 n.gid, .int .i64 n.links, .int .i64 n.size, .int .i64 n.tick, .slice ya0 n.blocks.length yc0, .slice ya1 n.acl.length yc1, .slice ya2 n.dflt.length yc2].toArray 34)) := (Below.refl w2.heap.size w2).alloc (Nat.le_refl _) _
          have how : In.Own (w2.alloc (.cells [.int .i64 n.kind, .int .i64 n.mode, .int .i64 n.uid, .int .i64 n.gid, .int .i64 n.links, .int .i64 n.size, .int .i64 n.tick, .slice ya0 n.blocks.length yc0, .slice ya1 n.acl.length yc1, .slice ya2 n.dflt.length yc2].toArray 34)) w0.heap.size (.agg #[.int .i64 n.kind, .int .i64 n.mode, .int .i64 n.uid, .int .i64 n.gid, .int .i64 n.links, .int .i64 n.size, .int .i64 n.tick, .slice ya0 n.blocks.length yc0, .slice ya1 n.acl.length yc1, .slice ya2 n.dflt.length yc2]) (f.inodes.getD i IF.z0) T := by rw [← HN.out]; exact In.own_below (In.own_mono HOW.out (show w0.heap.size ≤ wa.heap.size from hs1)) hbw
          have hap : Apart (IF.fps es) T := fun k hk hh => by
            obtain ⟨e, he, hke⟩ := List.mem_flatMap.1 hk
            have h1 := (In.own_lies (HRR.out.2.2.2.2.1 e he) k hke).2
            have h2 : wa.heap.size ≤ k := (In.own_lies HOW.out k hh).1
            have h3 := HBA.out.size
            omega
          have hstep := lp_next (lp_below HL2.out hbw) HLX.out how hap (show (w2.alloc (.cells [.int .i64 n.kind, .int .i64 n.mode, .int .i64 n.uid, .int .i64 n.gid, .int .i64 n.links, .int .i64 n.size, .int .i64 n.tick, .slice ya0 n.blocks.length yc0, .slice ya1 n.acl.length yc1, .slice ya2 n.dflt.length yc2].toArray 34)).grownBy w3 r.ownBlock from HG3.out) HO3.out
          generalize w3.setCell ⟨b, 2, none⟩ (.slice va' (i + 1) vc') = w9 at hstep ⊢
          have HST := Lib.hid hstep
          clear hstep how hap hbw m0 m1 m2 m3 m4 m5 m6 m7 m8 m9 c2
          go_wp2
          go_roundw
          case rel => exact ⟨i + 1, _, _, by omega, by go_num, HST.out⟩
          case measure => simp [intOf]; omega
      · obtain rfl : i = M := by omega
        have hE := lp_end HRR.out HT.out HLQ.out HLM.out HLD.out
        have HE := Lib.hid hE
        have HR := Lib.hid (BR.out.all HBR.out)
        obtain ⟨va1, vc1, rfl⟩ := Dk.slice_of HRR.out.2.2.2.1
        obtain ⟨va0, vc0, rfl⟩ := HSQ.out
        obtain ⟨va2, vc2, rfl⟩ := HSD.out
        obtain ⟨x0, x1, x2, x3⟩ := Bk.c4 HRR.out.1
        obtain ⟨r0, r1, r2, r3⟩ := Bk.c4 HR.out
        have f0 := HR.out.free 0
        have f1 := HR.out.free 1
        have f2 := HR.out.free 2
        have f3 := HR.out.free 3
        clear hE
        go_wp2
        have hF := FoB.box4_bk HR.out (.int .i64 TK) (.slice va0 Q vc0) (.slice va1 i vc1) (.slice va2 D vc2)
        have hC := FoB.box4_chg wr (w.heap.size + 1) (.int .i64 TK) (.slice va0 Q vc0) (.slice va1 i vc1) (.slice va2 D vc2)
        unfold FoB.box4 at hF hC
        generalize ((((wr.setCell ⟨w.heap.size + 1, 0, none⟩ (.int .i64 TK)).setCell ⟨w.heap.size + 1, 1, none⟩ (.slice va0 Q vc0)).setCell ⟨w.heap.size + 1, 2, none⟩ (.slice va1 i vc1)).setCell ⟨w.heap.size + 1, 3, none⟩ (.slice va2 D vc2)) = w9 at hF hC ⊢
        obtain ⟨e0, e1, e2, e3⟩ := Bk.c4 hF
        have h0 := HS0.out
        have hS9 := FsF.own_mono (FsF.own_chg HE.out hC (fun k hk hh => by have := (FsF.own_lies HE.out k hk).1; rw [List.mem_singleton] at hh; omega)) (show w.heap.size ≤ w0.heap.size by omega)
        have hb9 := (HB0.out.trans (HBR.out.mono HB0.out.size)).trans (FoB.Chg.from hC (Nat.le_trans HB0.out.size hszr) (Nat.le_succ _))
        exact bodyPost_ret (v := .agg #[.int .i64 TK, .slice va0 Q vc0, .slice va1 i vc1, .slice va2 D vc2]) (by simp [results, Tryz.results91, go_sem, e0, e1, e2, e3]) rfl ⟨_, _, rfl, hS9, hb9⟩
  case reg =>
    go_region_held3 (fun w' => w'.cell? ⟨w.heap.size, 0, none⟩ = some (.int .i64 TK) ∧ w'.cell? ⟨w.heap.size, 1, none⟩ = some (.slice qa Q qc) ∧ w'.cell? ⟨w.heap.size, 3, none⟩ = some (.slice da D dc)) (first | exact ⟨(Bk.c4 (Bk.all BX.out (show Below w0.heap.size w0 _ from (by repeat (first | exact HC.out | (refine Below.drew ?_) | (refine bel_set ?_ (by have h7 := HW1.out; have h9 := HC.out.size; first | omega | (dsimp only; omega) | (simp; omega)) _) | (refine Below.alloc ?_ (by have := HC.out.size; first | omega | (simp; done) | (simp; omega)) _)))))).1, (Bk.c4 (Bk.all BX.out (show Below w0.heap.size w0 _ from (by repeat (first | exact HC.out | (refine Below.drew ?_) | (refine bel_set ?_ (by have h7 := HW1.out; have h9 := HC.out.size; first | omega | (dsimp only; omega) | (simp; omega)) _) | (refine Below.alloc ?_ (by have := HC.out.size; first | omega | (simp; done) | (simp; omega)) _)))))).2.1, (Bk.c4 (Bk.all BX.out (show Below w0.heap.size w0 _ from (by repeat (first | exact HC.out | (refine Below.drew ?_) | (refine bel_set ?_ (by have h7 := HW1.out; have h9 := HC.out.size; first | omega | (dsimp only; omega) | (simp; omega)) _) | (refine Below.alloc ?_ (by have := HC.out.size; first | omega | (simp; done) | (simp; omega)) _)))))).2.2.2⟩ | go_keep)
      (first | (refine step_append_fresh rfl _ _ 23 rfl w0.heap.size 93 j0 (.agg #[.int .i64 0, .int .i64 0]) 2 16 Tryz.underlying23 hj hy0 hy1 hy2 rfl (by decide) _ rfl ?c1 ?c0 Q (Qt.cells f.quotas) _ rfl ?c2 ?c3 ?c4 ?c5 ?_; (case c1 => exact (by (try simp only [heap_drew]); repeat (first | exact blk_at (by first | rfl | omega | (simp; done) | (simp; omega)) | (refine Dk.blk_alloc ?_ _)))); (case c0 => (have := HC.out.size; first | omega | (simp; done) | (simp; omega))); (case c2 => exact ClN.src_below HQ.out (show Below w.heap.size w _ from (HB0.out.trans (Below.mono (show Below w0.heap.size w0 _ from (by repeat (first | exact HC.out | (refine Below.drew ?_) | (refine bel_set ?_ (by have h7 := HW1.out; have h9 := HC.out.size; first | omega | (dsimp only; omega) | (simp; omega)) _) | (refine Below.alloc ?_ (by have := HC.out.size; first | omega | (simp; done) | (simp; omega)) _)))) (by omega))))); (case c3 => (unfold maxLen; omega)); (case c4 => omega); (case c5 => (have := HC.out.size; first | omega | (simp; done) | (simp; omega))); intro ua uc w1 hown1 hg1 hem1; have HO1 := Lib.hid hown1; have HG := Lib.hid hg1; replace HC := Lib.hid (Below.grown (show Below w0.heap.size w0 _ from (by repeat (first | exact HC.out | (refine Below.drew ?_) | (refine bel_set ?_ (by have h7 := HW1.out; have h9 := HC.out.size; first | omega | (dsimp only; omega) | (simp; omega)) _) | (refine Below.alloc ?_ (by have := HC.out.size; first | omega | (simp; done) | (simp; omega)) _)))) hg1 (by (have := HC.out.size; first | omega | (simp; done) | (simp; omega))) (fun k hk => by cases hk; (have := HC.out.size; first | omega | (simp; done) | (simp; omega)))); clear hown1 hg1 hem1; have HW1 := Lib.hid HC.out.size; obtain ⟨y0, y1, y2, y3⟩ := Bk.c4 (Bk.all BX.out HC.out); have u0 : ¬ w.heap.size = w1.heap.size := (by have h9 := HC.out.size; omega); have u0r : ¬ w1.heap.size = w.heap.size := (by have h9 := HC.out.size; omega); have u1 : ¬ w.heap.size = w1.heap.size + 1 := (by have h9 := HC.out.size; omega); have u1r : ¬ w1.heap.size + 1 = w.heap.size := (by have h9 := HC.out.size; omega); have u2 : ¬ w.heap.size = w1.heap.size + 1 + 1 := (by have h9 := HC.out.size; omega); have u2r : ¬ w1.heap.size + 1 + 1 = w.heap.size := (by have h9 := HC.out.size; omega))
              | (refine step_append_fresh rfl _ _ 25 rfl w0.heap.size 9 i0 (.string ⟨#[]⟩) 1 16 Tryz.underlying25 hi hz0 hz1 hz2 rfl (by decide) _ rfl ?c1 ?c0 D (f.data.map Value.string) _ rfl ?c2 ?c3 ?c4 ?c5 ?_; (case c1 => exact (by (try simp only [heap_drew]); repeat (first | exact blk_at (by first | rfl | omega | (simp; done) | (simp; omega)) | (refine blk_gd ?_ HG.out (by first | (simp; done) | (simp; omega) | (have h8 := HG.out.size; have h9 := HC.out.size; simp at h8 h9 ⊢; omega))) | (refine Dk.blk_alloc ?_ _)))); (case c0 => (have := HC.out.size; first | omega | (simp; done) | (simp; omega))); (case c2 => exact ClN.src_below HS.out (show Below w.heap.size w _ from (HB0.out.trans (Below.mono (show Below w0.heap.size w0 _ from (by repeat (first | exact HC.out | (refine Below.drew ?_) | (refine bel_set ?_ (by have h7 := HW1.out; have h9 := HC.out.size; first | omega | (dsimp only; omega) | (simp; omega)) _) | (refine Below.alloc ?_ (by have := HC.out.size; first | omega | (simp; done) | (simp; omega)) _)))) (by omega))))); (case c3 => (unfold maxLen; omega)); (case c4 => omega); (case c5 => (have := HC.out.size; first | omega | (simp; done) | (simp; omega))); intro va vc w2 hown2 hg2 hem2; have HO2 := Lib.hid hown2; replace HO1 := Lib.hid (kept2 hg2 hem2 (by decide) (show World.ownsRow _ w0.heap.size 93 2 (.slice ua Q uc) Q (Qt.cells f.quotas) from by repeat (first | exact HO1.out | (refine World.ownsRow.drew ?_) | (refine World.ownsRow.alloc ?_ _)))); have HG2 := Lib.hid hg2; replace HC := Lib.hid (Below.grown (show Below w0.heap.size w0 _ from (by repeat (first | exact HC.out | (refine Below.drew ?_) | (refine bel_set ?_ (by have h7 := HW1.out; have h9 := HC.out.size; first | omega | (dsimp only; omega) | (simp; omega)) _) | (refine Below.alloc ?_ (by have := HC.out.size; first | omega | (simp; done) | (simp; omega)) _)))) hg2 (by (have := HC.out.size; first | omega | (simp; done) | (simp; omega))) (fun k hk => by cases hk; (have := HC.out.size; first | omega | (simp; done) | (simp; omega)))); clear hown2 hg2 hem2; obtain ⟨p0, p1, p2, p3⟩ := Bk.c4 (Bk.all BX.out HC.out); have m1 : ¬ w.heap.size = w2.heap.size := (by have h9 := HC.out.size; omega); have m2 : ¬ w2.heap.size = w.heap.size := (by have h9 := HC.out.size; omega); (try (have BB : Bk w2 (w.heap.size + 1 + 1) #[.int .i64 0, .slice none 0 0, .slice none 0 0, .slice none 0 0] 27 := (by (show w2.heap[w.heap.size + 1 + 1]? = some _); (repeat (first | exact blk_at (by first | rfl | omega | (simp; done) | (simp; omega)) | (refine blk_gd ?_ HG2.out (by first | (simp; done) | (simp; omega) | (have h8 := HG.out.size; have h9 := HC.out.size; simp at h8 h9 ⊢; omega))) | (refine blk_gd ?_ HG.out (by first | (simp; done) | (simp; omega) | (have h8 := HG.out.size; have h9 := HC.out.size; simp at h8 h9 ⊢; omega))) | (refine Dk.blk_grown ?_ HG2.out (by first | (simp; done) | (simp; omega) | (have h8 := HG.out.size; have h9 := HC.out.size; simp at h8 h9 ⊢; omega))) | (refine Dk.blk_grown ?_ HG.out (by first | (simp; done) | (simp; omega) | (have h8 := HG.out.size; have h9 := HC.out.size; simp at h8 h9 ⊢; omega))) | (refine Dk.blk_alloc ?_ _) | (simp only [heap_drew]))); (first | done | fail)); have HBB := Lib.hid BB; have n1 : ¬ w.heap.size = w.heap.size + 1 + 1 := (by first | omega | (have h8 := HG.out.size; simp at h8; omega)); have n2 : ¬ w.heap.size + 1 + 1 = w.heap.size := (by first | omega | (have h8 := HG.out.size; simp at h8; omega)); obtain ⟨q0, q1, q2, q3⟩ := Bk.c4 BB; have f0 := BB.free 0; have f1 := BB.free 1; have f2 := BB.free 2; have f3 := BB.free 3; clear BB)); (try (have BB : Bk w2 (w.heap.size + 1 + 1 + 1) #[.int .i64 0, .slice none 0 0, .slice none 0 0, .slice none 0 0] 27 := (by (show w2.heap[w.heap.size + 1 + 1 + 1]? = some _); (repeat (first | exact blk_at (by first | rfl | omega | (simp; done) | (simp; omega)) | (refine blk_gd ?_ HG2.out (by first | (simp; done) | (simp; omega) | (have h8 := HG.out.size; have h9 := HC.out.size; simp at h8 h9 ⊢; omega))) | (refine blk_gd ?_ HG.out (by first | (simp; done) | (simp; omega) | (have h8 := HG.out.size; have h9 := HC.out.size; simp at h8 h9 ⊢; omega))) | (refine Dk.blk_grown ?_ HG2.out (by first | (simp; done) | (simp; omega) | (have h8 := HG.out.size; have h9 := HC.out.size; simp at h8 h9 ⊢; omega))) | (refine Dk.blk_grown ?_ HG.out (by first | (simp; done) | (simp; omega) | (have h8 := HG.out.size; have h9 := HC.out.size; simp at h8 h9 ⊢; omega))) | (refine Dk.blk_alloc ?_ _) | (simp only [heap_drew]))); (first | done | fail)); have HBB := Lib.hid BB; have n1 : ¬ w.heap.size = w.heap.size + 1 + 1 + 1 := (by first | omega | (have h8 := HG.out.size; simp at h8; omega)); have n2 : ¬ w.heap.size + 1 + 1 + 1 = w.heap.size := (by first | omega | (have h8 := HG.out.size; simp at h8; omega)); obtain ⟨q0, q1, q2, q3⟩ := Bk.c4 BB; have f0 := BB.free 0; have f1 := BB.free 1; have f2 := BB.free 2; have f3 := BB.free 3; clear BB)); (try (have BB : Bk w2 (w.heap.size + 1 + 1 + 1 + 1) #[.int .i64 0, .slice none 0 0, .slice none 0 0, .slice none 0 0] 27 := (by (show w2.heap[w.heap.size + 1 + 1 + 1 + 1]? = some _); (repeat (first | exact blk_at (by first | rfl | omega | (simp; done) | (simp; omega)) | (refine blk_gd ?_ HG2.out (by first | (simp; done) | (simp; omega) | (have h8 := HG.out.size; have h9 := HC.out.size; simp at h8 h9 ⊢; omega))) | (refine blk_gd ?_ HG.out (by first | (simp; done) | (simp; omega) | (have h8 := HG.out.size; have h9 := HC.out.size; simp at h8 h9 ⊢; omega))) | (refine Dk.blk_grown ?_ HG2.out (by first | (simp; done) | (simp; omega) | (have h8 := HG.out.size; have h9 := HC.out.size; simp at h8 h9 ⊢; omega))) | (refine Dk.blk_grown ?_ HG.out (by first | (simp; done) | (simp; omega) | (have h8 := HG.out.size; have h9 := HC.out.size; simp at h8 h9 ⊢; omega))) | (refine Dk.blk_alloc ?_ _) | (simp only [heap_drew]))); (first | done | fail)); have HBB := Lib.hid BB; have n1 : ¬ w.heap.size = w.heap.size + 1 + 1 + 1 + 1 := (by first | omega | (have h8 := HG.out.size; simp at h8; omega)); have n2 : ¬ w.heap.size + 1 + 1 + 1 + 1 = w.heap.size := (by first | omega | (have h8 := HG.out.size; simp at h8; omega)); obtain ⟨q0, q1, q2, q3⟩ := Bk.c4 BB; have f0 := BB.free 0; have f1 := BB.free 1; have f2 := BB.free 2; have f3 := BB.free 3; clear BB)); (try (have BB : Bk w2 (w1.heap.size) #[.int .i64 0, .slice none 0 0, .slice none 0 0, .slice none 0 0] 27 := (by (show w2.heap[w1.heap.size]? = some _); (repeat (first | exact blk_at (by first | rfl | omega | (simp; done) | (simp; omega)) | (refine blk_gd ?_ HG2.out (by first | (simp; done) | (simp; omega) | (have h8 := HG.out.size; have h9 := HC.out.size; simp at h8 h9 ⊢; omega))) | (refine blk_gd ?_ HG.out (by first | (simp; done) | (simp; omega) | (have h8 := HG.out.size; have h9 := HC.out.size; simp at h8 h9 ⊢; omega))) | (refine Dk.blk_grown ?_ HG2.out (by first | (simp; done) | (simp; omega) | (have h8 := HG.out.size; have h9 := HC.out.size; simp at h8 h9 ⊢; omega))) | (refine Dk.blk_grown ?_ HG.out (by first | (simp; done) | (simp; omega) | (have h8 := HG.out.size; have h9 := HC.out.size; simp at h8 h9 ⊢; omega))) | (refine Dk.blk_alloc ?_ _) | (simp only [heap_drew]))); (first | done | fail)); have HBB := Lib.hid BB; have n1 : ¬ w.heap.size = w1.heap.size := (by first | omega | (have h8 := HG.out.size; simp at h8; omega)); have n2 : ¬ w1.heap.size = w.heap.size := (by first | omega | (have h8 := HG.out.size; simp at h8; omega)); obtain ⟨q0, q1, q2, q3⟩ := Bk.c4 BB; have f0 := BB.free 0; have f1 := BB.free 1; have f2 := BB.free 2; have f3 := BB.free 3; clear BB)); (try (have BB : Bk w2 (w1.heap.size + 1) #[.int .i64 0, .slice none 0 0, .slice none 0 0, .slice none 0 0] 27 := (by (show w2.heap[w1.heap.size + 1]? = some _); (repeat (first | exact blk_at (by first | rfl | omega | (simp; done) | (simp; omega)) | (refine blk_gd ?_ HG2.out (by first | (simp; done) | (simp; omega) | (have h8 := HG.out.size; have h9 := HC.out.size; simp at h8 h9 ⊢; omega))) | (refine blk_gd ?_ HG.out (by first | (simp; done) | (simp; omega) | (have h8 := HG.out.size; have h9 := HC.out.size; simp at h8 h9 ⊢; omega))) | (refine Dk.blk_grown ?_ HG2.out (by first | (simp; done) | (simp; omega) | (have h8 := HG.out.size; have h9 := HC.out.size; simp at h8 h9 ⊢; omega))) | (refine Dk.blk_grown ?_ HG.out (by first | (simp; done) | (simp; omega) | (have h8 := HG.out.size; have h9 := HC.out.size; simp at h8 h9 ⊢; omega))) | (refine Dk.blk_alloc ?_ _) | (simp only [heap_drew]))); (first | done | fail)); have HBB := Lib.hid BB; have n1 : ¬ w.heap.size = w1.heap.size + 1 := (by first | omega | (have h8 := HG.out.size; simp at h8; omega)); have n2 : ¬ w1.heap.size + 1 = w.heap.size := (by first | omega | (have h8 := HG.out.size; simp at h8; omega)); obtain ⟨q0, q1, q2, q3⟩ := Bk.c4 BB; have f0 := BB.free 0; have f1 := BB.free 1; have f2 := BB.free 2; have f3 := BB.free 3; clear BB))))
    all_goals
      refine NoPanic.normal ⟨rfl, _, _, _, _, _, _, _, _, _, _, _, _, _, .slice ua Q uc, .slice va D vc, _, rfl, ?_⟩
      first
        | exact pre_mk HBB.out (by (have h7 := HW1.out; have h9 := HC.out.size; first | omega | (simp; omega))) (by repeat (first | exact HO1.out | (refine World.ownsRow.drew ?_) | (refine World.ownsRow.alloc ?_ _))) (by repeat (first | exact HO2.out | (refine World.ownsRow.drew ?_) | (refine World.ownsRow.alloc ?_ _))) (by repeat (first | exact HC.out | (refine Below.drew ?_) | (refine bel_set ?_ (by have h7 := HW1.out; have h9 := HC.out.size; first | omega | (dsimp only; omega) | (simp; omega)) _) | (refine Below.alloc ?_ (by have := HC.out.size; first | omega | (simp; done) | (simp; omega)) _)))
        | exact pre_new (by (have h7 := HW1.out; have h9 := HC.out.size; first | omega | (simp; omega))) (by repeat (first | exact HO1.out | (refine World.ownsRow.drew ?_) | (refine World.ownsRow.alloc ?_ _))) (by repeat (first | exact HO2.out | (refine World.ownsRow.drew ?_) | (refine World.ownsRow.alloc ?_ _))) (by repeat (first | exact HC.out | (refine Below.drew ?_) | (refine bel_set ?_ (by have h7 := HW1.out; have h9 := HC.out.size; first | omega | (dsimp only; omega) | (simp; omega)) _) | (refine Below.alloc ?_ (by have := HC.out.size; first | omega | (simp; done) | (simp; omega)) _)))
        | exact pre_mk (by first | exact new_at _ _ _ _ (by first | rfl | omega | (simp; done) | (simp; omega)) | (repeat (first | exact blk_at (by first | rfl | omega | (simp; done) | (simp; omega)) | (refine Dk.blk_alloc ?_ _) | (simp only [heap_drew])))) (by (have h7 := HW1.out; have h9 := HC.out.size; first | omega | (simp; omega))) (by repeat (first | exact HO1.out | (refine World.ownsRow.drew ?_) | (refine World.ownsRow.alloc ?_ _))) (by repeat (first | exact HO2.out | (refine World.ownsRow.drew ?_) | (refine World.ownsRow.alloc ?_ _))) (by repeat (first | exact HC.out | (refine Below.drew ?_) | (refine bel_set ?_ (by have h7 := HW1.out; have h9 := HC.out.size; first | omega | (dsimp only; omega) | (simp; omega)) _) | (refine Below.alloc ?_ (by have := HC.out.size; first | omega | (simp; done) | (simp; omega)) _)))
end Go.Proofs.YtafmpllkehbmeaaGreatDoor.CoS
