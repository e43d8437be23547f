/- Contract: the program's withInode gives the file system with another inode and another content. Conditions: a valid file system, the inode's number; the inode's slices and the content are the caller's own. -/
import Derived.Test.YtafmpllkehbmeaaGreatDoorCpG
import Derived.Test.YtafmpllkehbmeaaGreatDoorCoC
import Derived.Test.YtafmpllkehbmeaaGreatDoorInEq
import Derived.Test.YtafmpllkehbmeaaGreatDoorCoR
import Derived.Test.YtafmpllkehbmeaaGreatDoorPadToImpl
import Derived.Deep.RegionLaw
namespace Go.Proofs.YtafmpllkehbmeaaGreatDoor.CoI
open Go.ChangeShapes Go.WideShapes Go.ChangeAt Go.RowKit
open Foot Bx
open InoV (I usedV)
open FsV (F okF e0 z32)
open FsY FsZ FoB CoN
open RowG (cellsB cellsB_length)
set_option linter.unusedVariables false

/-- The file system's box, the inode's, the answer's. -/
def Base (w : World) (lo : Nat) (n : I) (a0 : Option Addr) (d0 : Nat) (a1 : Option Addr) (d1 : Nat) (a2 : Option Addr) (d2 : Nat) (f : F) (q : Value) (gi ci gd cd : Nat) (S : List Nat) (W : World) : Prop :=
  FO W lo w.heap.size f q gi ci gd cd S ∧ Bk W (w.heap.size + 1) #[.int .i64 n.kind, .int .i64 n.mode, .int .i64 n.uid, .int .i64 n.gid, .int .i64 n.links, .int .i64 n.size, .int .i64 n.tick, .slice a0 n.blocks.length d0, .slice a1 n.acl.length d1, .slice a2 n.dflt.length d2] 34 ∧ Bk W (w.heap.size + 1 + 1) #[.int .i64 0, .slice none 0 0, .slice none 0 0, .slice none 0 0] 27 ∧ w.heap.size + 1 ∉ S ∧ w.heap.size + 1 + 1 ∉ S ∧ w.heap.size < gd ∧ w.heap.size < gi ∧ Below w.heap.size w W
section
variable {w W W' : World} {lo : Nat} {n : I} {a0 a1 a2 : Option Addr} {d0 d1 d2 : Nat} {f : F} {q : Value} {gi ci gd cd : Nat} {S : List Nat}
theorem base_below (h : Base w lo n a0 d0 a1 d1 a2 d2 f q gi ci gd cd S W) (hb : Below W.heap.size W W') : Base w lo n a0 d0 a1 d1 a2 d2 f q gi ci gd cd S W' := by
  obtain ⟨h1, h2, h3, h4, h5, h6, h7, h8⟩ := h
  exact ⟨h1.below hb, h2.all hb, h3.all hb, h4, h5, h6, h7, h8.trans (hb.mono h8.size)⟩
theorem base_setD (h : Base w lo n a0 d0 a1 d1 a2 d2 f q gi ci gd cd S W) {j : Nat} (hj : j < 56) (s : ByteArray) : Base w lo n a0 d0 a1 d1 a2 d2 { f with data := f.data.set j s } q gi ci gd cd S (W.setCell ⟨gd, j, none⟩ (.string s)) := by
  obtain ⟨h1, h2, h3, h4, h5, h6, h7, h8⟩ := h
  have hc := chg_set W ⟨gd, j, none⟩ (.string s)
  have hg := h1.gd_mem
  exact ⟨h1.setD hj s, FoB.Bk.chg h2 hc (fun e => h4 (by simp at e; rw [e]; exact hg)), FoB.Bk.chg h3 hc (fun e => h5 (by simp at e; rw [e]; exact hg)), h4, h5, h6, h7, h8.trans (FoB.Chg.from hc h8.size (by show w.heap.size ≤ gd; omega))⟩
end

set_option maxRecDepth 100000 in
set_option maxHeartbeats 12800000 in
theorem with_impl (w : World) (lo : Nat) (v vn cv : Value) (f : F) (i : Nat) (n : I) (c : List UInt8) (g : Nat) (T : List Nat) (hg : GoodF f i) (hlo : lo ≤ w.heap.size) (hc : FsF.cost f ≤ 1073741824) (hl : FsF.Lim f)
    (hin : Inr n.blocks) (h8 : n.blocks.length ≤ 8) (hcv : 0 < n.blocks.length → cv = .slice (some ⟨g, 0, none⟩) 256 256 ∧ c.length = 256 ∧ Bk w g (cellsB c).toArray 5) (hcs : ∃ ca cl cc, cv = .slice ca cl cc) (h : FsF.Holds w v f) (hn : In.Own w lo vn n T) :
    Calls Tryz.prog 66 #[v, .int .i64 i, vn, cv] w fun e w' => ∃ v' S, e = .returned v' ∧ FsF.Own w' lo v' (withV f i n c) S ∧ (∀ k ∈ S, k ∈ T ∨ w.heap.size ≤ k) ∧ Below w.heap.size w w' := by
  have HFS := Lib.hid h
  have HCC := Lib.hid hc
  have HLM := Lib.hid hl
  have HG := Lib.hid hg
  have HN := Lib.hid hn
  have HIR := Lib.hid hin
  have HCV := Lib.hid hcv
  have hi20 := hg.lt
  obtain ⟨r0, r1, r2, rfl, g0, g1, g2⟩ := h
  have hM20 : f.inodes.length = 20 := (FsV.parts_of (FsV.ok_parts hg.ok).2.1).2.1
  have hD56 : f.data.length = 56 := hg.dlen
  have HM20 := Lib.hid hM20
  have HD56 := Lib.hid hD56
  obtain ⟨qa, qc, rfl⟩ := QF.form g0
  obtain ⟨ia, ic, rfl⟩ := IF.form g1
  obtain ⟨da, dc, rfl⟩ := SF.form g2
  obtain ⟨t0, t1, t2, T0, T1, T2, rfl, hTT, hTn, o0, o1, o2⟩ := hn
  obtain ⟨a0, d0, rfl⟩ := NiF.own_form o0
  obtain ⟨a1, d1, rfl⟩ := AeF.own_form o1
  obtain ⟨a2, d2, rfl⟩ := AeF.own_form o2
  obtain ⟨ab, db, eb, _, hBL⟩ := NiF.own_holds o0
  rw [Value.slice.injEq] at eb
  obtain ⟨rfl, eb2, rfl⟩ := eb
  have HBL := Lib.hid hBL
  have hTlt : ∀ k ∈ T, k < w.heap.size := fun k hk => (In.own_lies HN.out k hk).2
  have HTL := Lib.hid hTlt
  rw [hM20, hD56] at HFS ⊢
  obtain ⟨TK, hT⟩ : ∃ T, T = f.tick := ⟨_, rfl⟩
  obtain ⟨Q, hQ⟩ : ∃ Q, Q = f.quotas.length := ⟨_, rfl⟩
  rw [← hT, ← hQ] at HFS ⊢
  clear hT hQ g0 g1 g2 hM20 hD56 hTT hTn o0 o1 o2 eb2 hBL hTlt hg hc hl hin hcv
  obtain ⟨L, hL⟩ : ∃ L, L = n.blocks.length := ⟨_, rfl⟩
  rw [← hL] at HBL h8
  have HL := Lib.hid hL
  clear hL
  have HB0 := Lib.hid ((((Below.refl w.heap.size w).alloc (Nat.le_refl _) (.cells #[.int .i64 TK, .slice qa Q qc, .slice ia 20 ic, .slice da 56 dc] 27)).alloc (by simp) (.cells #[.int .i64 n.kind, .int .i64 n.mode, .int .i64 n.uid, .int .i64 n.gid, .int .i64 n.links, .int .i64 n.size, .int .i64 n.tick, .slice a0 n.blocks.length d0, .slice a1 n.acl.length d1, .slice a2 n.dflt.length d2] 34)).alloc (by simp; omega) (.cells #[.int .i64 0, .slice none 0 0, .slice none 0 0, .slice none 0 0] 27))
  have HX0 := Lib.hid (((new w #[.int .i64 TK, .slice qa Q qc, .slice ia 20 ic, .slice da 56 dc] 27).alloc (.cells #[.int .i64 n.kind, .int .i64 n.mode, .int .i64 n.uid, .int .i64 n.gid, .int .i64 n.links, .int .i64 n.size, .int .i64 n.tick, .slice a0 n.blocks.length d0, .slice a1 n.acl.length d1, .slice a2 n.dflt.length d2] 34)).alloc (.cells #[.int .i64 0, .slice none 0 0, .slice none 0 0, .slice none 0 0] 27))
  have HY0 := Lib.hid ((new_at (w.alloc (.cells #[.int .i64 TK, .slice qa Q qc, .slice ia 20 ic, .slice da 56 dc] 27)) #[.int .i64 n.kind, .int .i64 n.mode, .int .i64 n.uid, .int .i64 n.gid, .int .i64 n.links, .int .i64 n.size, .int .i64 n.tick, .slice a0 n.blocks.length d0, .slice a1 n.acl.length d1, .slice a2 n.dflt.length d2] 34 (w.heap.size + 1) (by simp)).alloc (.cells #[.int .i64 0, .slice none 0 0, .slice none 0 0, .slice none 0 0] 27))
  have HR0 := Lib.hid (new_at ((w.alloc (.cells #[.int .i64 TK, .slice qa Q qc, .slice ia 20 ic, .slice da 56 dc] 27)).alloc (.cells #[.int .i64 n.kind, .int .i64 n.mode, .int .i64 n.uid, .int .i64 n.gid, .int .i64 n.links, .int .i64 n.size, .int .i64 n.tick, .slice a0 n.blocks.length d0, .slice a1 n.acl.length d1, .slice a2 n.dflt.length d2] 34)) #[.int .i64 0, .slice none 0 0, .slice none 0 0, .slice none 0 0] 27 (w.heap.size + 1 + 1) (by simp))
  have hs0 : w.heap.size + 1 + 1 + 1 ≤ (((w.alloc (.cells #[.int .i64 TK, .slice qa Q qc, .slice ia 20 ic, .slice da 56 dc] 27)).alloc (.cells #[.int .i64 n.kind, .int .i64 n.mode, .int .i64 n.uid, .int .i64 n.gid, .int .i64 n.links, .int .i64 n.size, .int .i64 n.tick, .slice a0 n.blocks.length d0, .slice a1 n.acl.length d1, .slice a2 n.dflt.length d2] 34)).alloc (.cells #[.int .i64 0, .slice none 0 0, .slice none 0 0, .slice none 0 0] 27)).heap.size := by simp
  have HCP := Lib.hid (fun (W : World) (hb : Below w.heap.size w W) => CpG.copy_impl W _ f HCC.out HLM.out (FsF.holds_below HFS.out hb))
  obtain ⟨ca, cl, cc, hcs2⟩ := hcs
  have HCS := Lib.hid hcs2
  rw [hcs2]
  clear hcs2
  go_enter Tryz.func66, Tryz.ntmps66
  go_wp2_with fail
  generalize (((w.alloc (.cells #[.int .i64 TK, .slice qa Q qc, .slice ia 20 ic, .slice da 56 dc] 27)).alloc (.cells #[.int .i64 n.kind, .int .i64 n.mode, .int .i64 n.uid, .int .i64 n.gid, .int .i64 n.links, .int .i64 n.size, .int .i64 n.tick, .slice a0 n.blocks.length d0, .slice a1 n.acl.length d1, .slice a2 n.dflt.length d2] 34)).alloc (.cells #[.int .i64 0, .slice none 0 0, .slice none 0 0, .slice none 0 0] 27)) = w0 at *
  refine (HCP.out _ HB0.out).mono ?_
  rintro e w1 ⟨y, S, rfl, hown, hb⟩
  obtain ⟨qa', ql', qc', gi, ci, gd, cd, rfl, rfl⟩ := own_open hown HM20.out HD56.out
  have HX1 := Lib.hid (HX0.out.all hb)
  have HY1 := Lib.hid (HY0.out.all hb)
  have HR1 := Lib.hid (HR0.out.all hb)
  have HB1 := Lib.hid (HB0.out.trans (hb.mono HB0.out.size))
  have HSL := Lib.hid (show ∀ k ∈ S, w.heap.size + 1 + 1 + 1 ≤ k from fun k hk => Nat.le_trans hs0 (FsF.own_lies hown k hk).1)
  have HOW := Lib.hid (FsF.own_mono hown (Nat.le_trans hlo (show w.heap.size ≤ w0.heap.size by omega)))
  clear hb hown
  obtain ⟨x0, x1, x2, x3⟩ := Bk.c4 HX1.out
  have f0 := HX1.out.free 0
  have f1 := HX1.out.free 1
  have f2 := HX1.out.free 2
  have f3 := HX1.out.free 3
  -- the copy is stored into the box
  have hbx := FoB.box4_bk HX1.out (.int .i64 f.tick) (.slice qa' f.quotas.length qc') (.slice (some ⟨gi, 0, none⟩) 20 ci) (.slice (some ⟨gd, 0, none⟩) 56 cd)
  have hbc := FoB.box4_chg w1 w.heap.size (.int .i64 f.tick) (.slice qa' f.quotas.length qc') (.slice (some ⟨gi, 0, none⟩) 20 ci) (.slice (some ⟨gd, 0, none⟩) 56 cd)
  have HB3 := Lib.hid (show Base w lo n a0 d0 a1 d1 a2 d2 f (.slice qa' f.quotas.length qc') gi ci gd cd S (FoB.box4 w1 w.heap.size (.int .i64 f.tick) (.slice qa' f.quotas.length qc') (.slice (some ⟨gi, 0, none⟩) 20 ci) (.slice (some ⟨gd, 0, none⟩) 56 cd)) from by
    have hnS : ∀ k, k ≤ w.heap.size + 1 + 1 → k ∉ S := fun k hk hh => by have := HSL.out k hh; omega
    have hfo : FO (FoB.box4 w1 w.heap.size (.int .i64 f.tick) (.slice qa' f.quotas.length qc') (.slice (some ⟨gi, 0, none⟩) 20 ci) (.slice (some ⟨gd, 0, none⟩) 56 cd)) lo w.heap.size f (.slice qa' f.quotas.length qc') gi ci gd cd S := ⟨hbx, hnS _ (by omega), FsF.own_chg HOW.out hbc (fun k hk hh => by rw [List.mem_singleton] at hh; subst hh; exact hnS _ (by omega) hk), HM20.out, HD56.out⟩
    exact ⟨hfo, FoB.Bk.chg HY1.out hbc (by simp), FoB.Bk.chg HR1.out hbc (by simp; omega), hnS _ (by omega), hnS _ (by omega), by have := HSL.out gd hfo.gd_mem; omega, by have := HSL.out gi hfo.gi_mem; omega, HB1.out.trans (FoB.Chg.from hbc HB1.out.size (Nat.le_refl _))⟩)
  have HBC := Lib.hid hbc
  clear hbx hbc
  unfold FoB.box4 at HB3 HBC
  have hfo1 : FO w1 lo w.heap.size f (.slice qa' f.quotas.length qc') gi ci gd cd S → True := fun _ => trivial
  obtain ⟨rr0, rr1, rr2, hCl, hPt⟩ : ∃ r0 r1 r2 : Value, IF.Cell w1 gi (i * 10) (ino f i) r0 r1 r2 ∧ IF.Parts w1 (ino f i) r0 r1 r2 := by
    obtain ⟨u0, u1, u2, e, h0, h1, h2⟩ := FsF.own_holds HOW.out
    simp only [Value.agg.injEq, Array.mk.injEq, List.cons.injEq, true_and, and_true] at e
    obtain ⟨rfl, rfl, rfl⟩ := e
    obtain ⟨a', cap', e', _, hat⟩ := h1
    obtain ⟨b', o', ea, _, r0, r1, r2, hC, hP⟩ := hat i (by rw [HM20.out]; exact hi20)
    simp only [Value.slice.injEq] at e'
    obtain ⟨rfl, _, _⟩ := e'
    simp only [Option.some.injEq, Addr.mk.injEq, and_true] at ea
    obtain ⟨rfl, rfl⟩ := ea
    rw [Nat.zero_add] at hC
    exact ⟨r0, r1, r2, hC, hP⟩
  obtain ⟨p0, p1, p2⟩ := id hPt
  obtain ⟨ya0, yd0, rfl⟩ := NiF.form p0
  obtain ⟨ya1, yd1, rfl⟩ := AeF.form p1
  obtain ⟨ya2, yd2, rfl⟩ := AeF.form p2
  have HPT := Lib.hid (IF.parts_holds hPt)
  obtain ⟨m0, m1, m2, m3, m4, m5, m6, m7, m8, m9⟩ := hCl
  have hgx : ¬ gi = w.heap.size := by have := HB3.out.2.2.2.2.2.2.1; omega
  have hgy : ¬ w.heap.size = gi := fun e => hgx e.symm
  have hi0 : (0 : Int) ≤ i := by omega
  have hi1 : (i : Int) < 20 := by omega
  clear p0 p1 p2 hPt hfo1
  have HP3 := Lib.hid (show In.Holds ((((w1.setCell ⟨w.heap.size, 0, none⟩ (.int .i64 f.tick)).setCell ⟨w.heap.size, 1, none⟩ (.slice qa' f.quotas.length qc')).setCell ⟨w.heap.size, 2, none⟩ (.slice (some ⟨gi, 0, none⟩) 20 ci)).setCell ⟨w.heap.size, 3, none⟩ (.slice (some ⟨gd, 0, none⟩) 56 cd)) (.agg #[.int .i64 (ino f i).kind, .int .i64 (ino f i).mode, .int .i64 (ino f i).uid, .int .i64 (ino f i).gid, .int .i64 (ino f i).links, .int .i64 (ino f i).size, .int .i64 (ino f i).tick, .slice ya0 (ino f i).blocks.length yd0, .slice ya1 (ino f i).acl.length yd1, .slice ya2 (ino f i).dflt.length yd2]) (ino f i) from by
    obtain ⟨s0, s1, s2, hC3, hP3⟩ := HB3.out.1.icell hi20
    have hlt := HB3.out.1.gi_lt
    have hgl : gi < w1.heap.size := by have h1 := hlt.2; simpa using h1
    have q7 := hC3.2.2.2.2.2.2.2.1
    have q8 := hC3.2.2.2.2.2.2.2.2.1
    have q9 := hC3.2.2.2.2.2.2.2.2.2
    rw [HBC.out.cell (p := ⟨gi, i * 10 + 7, none⟩) hgl (by simp; exact hgx), m7] at q7
    rw [HBC.out.cell (p := ⟨gi, i * 10 + 8, none⟩) hgl (by simp; exact hgx), m8] at q8
    rw [HBC.out.cell (p := ⟨gi, i * 10 + 9, none⟩) hgl (by simp; exact hgx), m9] at q9
    cases q7; cases q8; cases q9
    exact IF.parts_holds hP3)
  go_wp2_with fail
  clear m0 m1 m2 m3 m4 m5 m6 m7 m8 m9 x0 x1 x2 x3 f0 f1 f2 f3 hgx hgy HBC
  generalize ((((w1.setCell ⟨w.heap.size, 0, none⟩ (.int .i64 f.tick)).setCell ⟨w.heap.size, 1, none⟩ (.slice qa' f.quotas.length qc')).setCell ⟨w.heap.size, 2, none⟩ (.slice (some ⟨gi, 0, none⟩) 20 ci)).setCell ⟨w.heap.size, 3, none⟩ (.slice (some ⟨gd, 0, none⟩) 56 cd)) = w2 at HB3 HP3 ⊢
  refine (InEq.used_impl _ _ (ino f i) (by have := HG.out.size.2.2.2; omega) HP3.out).mono ?_
  rintro e w3 ⟨yu, SU, rfl, hown, hb⟩
  obtain ⟨ua, uc, rfl⟩ := NiF.own_form hown
  obtain ⟨ab', db', eb', _, hUC⟩ := NiF.own_holds hown
  rw [Value.slice.injEq] at eb'
  obtain ⟨rfl, eb3, rfl⟩ := eb'
  have HUN := Lib.hid (show ∀ k, (fpR (.slice ua (usedV (ino f i).blocks).length uc)).contains k = true → True from fun _ _ => trivial)
  obtain ⟨U, hU⟩ : ∃ U, U = usedV (ino f i).blocks := ⟨_, rfl⟩
  rw [← hU] at hUC hown ⊢
  obtain ⟨UL, hUL⟩ : ∃ UL, UL = U.length := ⟨_, rfl⟩
  have hUL8 : UL ≤ 8 := by rw [hUL, hU]; exact Nat.le_trans (InEq.used_len _) HG.out.size.2.2.2
  rw [← hUL] at hUC hown ⊢
  have HUB := Lib.hid (show ∀ b ∈ U, 0 ≤ b ∧ b ≤ 55 from fun b hb' => (FsV.own_facts HG.out.ok).2 b (HG.out.used (by rw [← hU]; exact hb')))
  have HUO := Lib.hid hown
  have HU := Lib.hid hU
  have HULL := Lib.hid hUL
  have HUS := Lib.hid (NiF.own_lies hown)
  have HB4 := Lib.hid (base_below HB3.out hb)
  have HW2 := Lib.hid (HB3.out.1.lies)
  have hgw2 : gd < w2.heap.size := HB3.out.1.gd_lt.2
  have HGW := Lib.hid hgw2
  clear hb hown hUC hU hUL eb3 HUN HB3 HP3 HPT hgw2
  obtain ⟨Q0, hQ0⟩ : ∃ Q0, Q0 = Value.slice qa' f.quotas.length qc' := ⟨_, rfl⟩
  rw [← hQ0] at HB4
  have HQ0 := Lib.hid hQ0
  clear hQ0
  go_wp2
  go_loopw [22] (fun jv wr => ∃ (j : Nat) (d : List ByteArray), j ≤ UL ∧ jv = .int .i64 j ∧ zeroD d (U.drop j) = zeroD f.data U ∧ NiF.Own wr w2.heap.size (.slice ua UL uc) U SU ∧ Base w lo n a0 d0 a1 d1 a2 d2 { f with data := d } Q0 gi ci gd cd S wr) (fun jv _ => UL - (intOf jv).toNat)
  case atStart => exact ⟨0, f.data, Nat.zero_le _, rfl, rfl, HUO.out, HB4.out⟩
  case round =>
    obtain ⟨j, d, hj, rfl, hzd, hown, hbase⟩ := hrel
    have HZD := Lib.hid hzd
    have HOWU := Lib.hid hown
    have HBA := Lib.hid hbase
    obtain ⟨b1, b2, b3, _, _, _, _, b8⟩ := hbase
    have HBW := Lib.hid b8
    obtain ⟨x0, x1, x2, x3⟩ := b1.cells
    clear hzd b3 b8 HB4 HUO
    by_cases hlt : j < UL
    · have hjl : j < U.length := by rw [← HULL.out]; exact hlt
      obtain ⟨av, cv', ev, _, hat⟩ := NiF.own_holds hown
      rw [Value.slice.injEq] at ev
      obtain ⟨rfl, ev9, rfl⟩ := ev
      obtain ⟨bb, ob, rfl, hbb, cb⟩ := hat j hjl
      clear ev9
      have hub := HUB.out _ (FsV.mem_getD (z := 0) hjl)
      have HDG := Lib.hid (CoR.drop_get hjl)
      clear hown hat b1 b2 hbb
      generalize U.getD j 0 = b at cb hub HDG
      obtain ⟨k, rfl⟩ : ∃ k : Nat, b = k := ⟨b.toNat, by omega⟩
      have hk : k < 56 := by omega
      have hk0 : (0 : Int) ≤ k := by omega
      have hk1 : (k : Int) < 56 := by omega
      go_wp2
      go_region_law (go_simp; go_at_call 21; ((with_reducible refine (PadTo.impl_any ⟨#[]⟩ 32 _ (by decide) (by decide)).mono ?_)); rintro e w5 ⟨rfl, hb⟩; rw [show PadTo.padB ⟨#[]⟩ 32 = z32 from rfl]; have HBB := Lib.hid (base_below HBA.out ((Below.refl wr.heap.size wr).drew.trans hb)); have HOB := Lib.hid (NiF.own_below HOWU.out ((Below.refl wr.heap.size wr).drew.trans hb)); clear hb; obtain ⟨x0, x1, x2, x3⟩ := HBB.out.1.cells; obtain ⟨cd5, fd5⟩ := HBB.out.1.dcell hk)
      all_goals
        have hBD := base_setD HBB.out hk z32
        have hgd := HBB.out.1.gd_mem
        have hOB := NiF.own_chg HOB.out (chg_set w5 ⟨gd, k, none⟩ (.string z32)) (fun x hx hh => by have h1 := (HUS.out x hx).1; have h2 := HGW.out; simp at hh; omega)
        generalize w5.setCell ⟨gd, k, none⟩ (.string z32) = w9 at hBD hOB ⊢
        have HBD := Lib.hid hBD
        have HOD := Lib.hid hOB
        have HZN := Lib.hid (show zeroD (d.set k z32) (U.drop (j + 1)) = zeroD f.data U from by rw [← HZD.out, HDG.out, zeroD_cons]; rfl)
        clear hBD hOB hgd cd5 fd5 cb x0 x1 x2 x3
        go_wp2
        go_roundw
        case rel => exact ⟨j + 1, _, by omega, by go_num, HZN.out, HOD.out, HBD.out⟩
        case measure => simp [intOf]; omega
    · obtain rfl : j = UL := by omega
      have HDE := Lib.hid (show d = zeroD f.data U from by
        have h1 := HZD.out
        rw [HULL.out, List.drop_length] at h1; exact h1)
      clear hown b1 b2 x0 x1 x2 x3
      have hln : ∀ x ∈ S, w.heap.size + 1 + 1 + 1 ≤ x := HSL.out
      obtain ⟨b1, b2, b3, b4, b5, b6, b7, b8⟩ := HBA.out
      have hown2 := In.own_below HN.out HBW.out
      obtain ⟨S2, hFO2, hsub⟩ := b1.setI hi20 hown2 (fun x hx hh => by have h1 := HTL.out x hx; have h2 := hln x hh; omega) (fun hh => by have := HTL.out _ hh; omega)
      have hgi := b1.gi_lt
      have hgiS := b1.gi_mem
      have hC7 := row10_chg wr gi i (.int .i64 n.kind) (.int .i64 n.mode) (.int .i64 n.uid) (.int .i64 n.gid) (.int .i64 n.links) (.int .i64 n.size) (.int .i64 n.tick) (.slice a0 n.blocks.length d0) (.slice a1 n.acl.length d1) (.slice a2 n.dflt.length d2)
      have hS2 : ∀ k, w.heap.size ≤ k → k ∉ S → k ∉ S2 := fun k hk hn hh => (hsub k hh).elim hn (fun ht => by have := HTL.out k ht; omega)
      have HBN := Lib.hid (show Base w lo n a0 d0 a1 d1 a2 d2 { f with inodes := f.inodes.set i n, data := zeroD f.data U } Q0 gi ci gd cd S2 (row10 wr gi i (.int .i64 n.kind) (.int .i64 n.mode) (.int .i64 n.uid) (.int .i64 n.gid) (.int .i64 n.links) (.int .i64 n.size) (.int .i64 n.tick) (.slice a0 n.blocks.length d0) (.slice a1 n.acl.length d1) (.slice a2 n.dflt.length d2)) from by
        rw [← HDE.out]
        exact ⟨hFO2, FoB.Bk.chg b2 hC7 (fun e => b4 (by simp at e; rw [e]; exact hgiS)), FoB.Bk.chg b3 hC7 (fun e => b5 (by simp at e; rw [e]; exact hgiS)), hS2 _ (by omega) b4, hS2 _ (by omega) b5, b6, b7, b8.trans (FoB.Chg.from hC7 b8.size (by omega))⟩)
      unfold row10 at HBN
      obtain ⟨x0, x1, x2, x3⟩ := b1.cells
      obtain ⟨y0, y1, y2, y3, y4, y5, y6, y7, y8, y9⟩ := Bk.c10 b2
      obtain ⟨r0, r1, r2, hC, hP⟩ := b1.icell hi20
      obtain ⟨m0, m1, m2, m3, m4, m5, m6, m7, m8, m9⟩ := hC
      have q0 := HBA.out.1.ifree (i * 10)
      have q1 := HBA.out.1.ifree (i * 10 + 1)
      have q2 := HBA.out.1.ifree (i * 10 + 2)
      have q3 := HBA.out.1.ifree (i * 10 + 3)
      have q4 := HBA.out.1.ifree (i * 10 + 4)
      have q5 := HBA.out.1.ifree (i * 10 + 5)
      have q6 := HBA.out.1.ifree (i * 10 + 6)
      have q7 := HBA.out.1.ifree (i * 10 + 7)
      have q8 := HBA.out.1.ifree (i * 10 + 8)
      have q9 := HBA.out.1.ifree (i * 10 + 9)
      have hgy1 : ¬ gi = w.heap.size + 1 := fun e => b4 (by rw [← e]; exact hgiS)
      have hgy0 : ¬ w.heap.size + 1 = gi := fun e => hgy1 e.symm
      have hgz1 : ¬ gi = w.heap.size := by omega
      have hgz0 : ¬ w.heap.size = gi := by omega
      have HSUB := Lib.hid (show ∀ k ∈ S2, k ∈ T ∨ w.heap.size ≤ k from fun k hk => (hsub k hk).elim (fun hh => .inr (by have := hln k hh; omega)) .inl)
      clear b1 b2 b3 b4 b5 b6 b7 b8 hown2 hFO2 hsub hgi hgiS hC7 hS2 hP hln
      go_wp2_with fail
      clear x0 x1 x2 x3 y0 y1 y2 y3 y4 y5 y6 y7 y8 y9 m0 m1 m2 m3 m4 m5 m6 m7 m8 m9 q0 q1 q2 q3 q4 q5 q6 q7 q8 q9 hgy1 hgy0 hgz1 hgz0 HBA HZD HOWU
      generalize ((((((((((wr.setCell ⟨gi, i * 10, none⟩ (.int .i64 n.kind)).setCell ⟨gi, i * 10 + 1, none⟩ (.int .i64 n.mode)).setCell ⟨gi, i * 10 + 2, none⟩ (.int .i64 n.uid)).setCell ⟨gi, i * 10 + 3, none⟩ (.int .i64 n.gid)).setCell ⟨gi, i * 10 + 4, none⟩ (.int .i64 n.links)).setCell ⟨gi, i * 10 + 5, none⟩ (.int .i64 n.size)).setCell ⟨gi, i * 10 + 6, none⟩ (.int .i64 n.tick)).setCell ⟨gi, i * 10 + 7, none⟩ (.slice a0 n.blocks.length d0)).setCell ⟨gi, i * 10 + 8, none⟩ (.slice a1 n.acl.length d1)).setCell ⟨gi, i * 10 + 9, none⟩ (.slice a2 n.dflt.length d2)) = w4 at HBN ⊢
      obtain ⟨DF, hDF⟩ : ∃ DF, DF = putD c 0 n.blocks (zeroD f.data U) := ⟨_, rfl⟩
      have HDF := Lib.hid hDF
      clear hDF
      have hL8 : n.blocks.length ≤ 8 := by rw [← HL.out]; exact h8
      obtain ⟨NB, hNB⟩ : ∃ NB, NB = n.blocks.length := ⟨_, rfl⟩
      rw [← hNB] at hL8 ⊢
      have HNB := Lib.hid hNB
      clear hNB
      go_loopw [40] (fun jv wr => ∃ (j : Nat) (d : List ByteArray), j ≤ NB ∧ jv = .int .i64 j ∧ putD c j (n.blocks.drop j) d = DF ∧ Base w lo n a0 d0 a1 d1 a2 d2 { f with inodes := f.inodes.set i n, data := d } Q0 gi ci gd cd S2 wr) (fun jv _ => NB - (intOf jv).toNat)
      case atStart => exact ⟨0, _, Nat.zero_le _, rfl, HDF.out.symm, HBN.out⟩
      case round =>
        obtain ⟨j, d, hj, rfl, hpd, hbase⟩ := hrel
        have HPD := Lib.hid hpd
        have HBA := Lib.hid hbase
        obtain ⟨b1, b2, b3, _, _, _, _, b8⟩ := hbase
        have HBW := Lib.hid b8
        obtain ⟨x0, x1, x2, x3⟩ := b1.cells
        clear hpd HBN
        by_cases hlt : j < NB
        · have hjl : j < n.blocks.length := by rw [← HNB.out]; exact hlt
          have hj8 : j < 8 := by omega
          obtain ⟨bb, ob, rfl, hbb, cb⟩ := HBL.out j (by rw [HL.out]; exact hjl)
          have cb2 := HBW.out.cell (p := ⟨bb, ob + j, none⟩) hbb
          rw [cb] at cb2
          have hir := HIR.out _ (FsV.mem_getD (z := 0) hjl)
          have HDG := Lib.hid (CoR.drop_get hjl)
          obtain ⟨ecv, hc256, hbk⟩ := HCV.out (by omega)
          rw [HCS.out, Value.slice.injEq] at ecv
          obtain ⟨rfl, rfl, rfl⟩ := ecv
          have hglt : g < w.heap.size := hbk.lt
          have HBK := Lib.hid (hbk.below HBW.out hglt)
          have HC256 := Lib.hid hc256
          clear cb hbb b1 b2 b3 b8 hc256 hbk
          generalize n.blocks.getD j 0 = b at cb2 hir HDG
          by_cases hm : b = -1
          · subst hm
            have HN2 := Lib.hid (show putD c (j + 1) (n.blocks.drop (j + 1)) d = DF from by rw [← HPD.out, HDG.out, putD, if_pos rfl])
            clear x0 x1 x2 x3
            go_wp2_with fail
            refine (block_impl (-1) _).mono ?_
            rintro e w1 ⟨rfl, rfl⟩
            rw [show isBlock (-1) = false from rfl]
            clear cb2
            go_wp2
            go_roundw
            case rel => exact ⟨j + 1, d, by omega, by go_num, HN2.out, HBA.out⟩
            case measure => simp [intOf]; omega
          · obtain ⟨k, rfl⟩ : ∃ k : Nat, b = k := ⟨b.toNat, by omega⟩
            have hk : k < 56 := by omega
            have hk0 : (0 : Int) ≤ k := by omega
            have hk1 : (k : Int) < 56 := by omega
            have HN2 := Lib.hid (show putD c (j + 1) (n.blocks.drop (j + 1)) (d.set k (blkAt c j)) = DF from by rw [← HPD.out, HDG.out, putD, if_neg hm]; rfl)
            have HIB := Lib.hid (show isBlock ((k : Nat) : Int) = true by unfold isBlock; simp)
            obtain ⟨cdk, fdk⟩ := HBA.out.1.dcell hk
            clear hm hir HDG
            go_wp2_with fail
            refine (block_impl ((k : Nat) : Int) _).mono ?_
            rintro e w1 ⟨rfl, rfl⟩
            rw [HIB.out]
            clear cb2
            have hcv1 := back_run (a := j * 32) (n := 32) (cap := 32) (Bk.drew HBK.out) (by rw [HC256.out]; omega)
            rw [show (⟨((c.drop (j * 32)).take 32).toArray⟩ : ByteArray) = blkAt c j from by rw [blkAt, Nat.mul_comm]] at hcv1
            go_wp2
            go_region_law (go_simp; go_at_call 130; ((with_reducible refine (blockIn_impl g j hj8 _).mono ?_)); rintro e w5 ⟨rfl, rfl⟩)
            all_goals
              have hBD := base_below (base_setD HBA.out hk (blkAt c j)) (Below.refl _ _).drew
              generalize (wr.setCell ⟨gd, k, none⟩ (.string (blkAt c j))).drew = w9 at hBD ⊢
              have HBD := Lib.hid hBD
              clear hBD hcv1 cdk fdk x0 x1 x2 x3
              go_wp2
              go_roundw
              case rel => exact ⟨j + 1, _, by omega, by go_num, HN2.out, HBD.out⟩
              case measure => simp [intOf]; omega
        · obtain rfl : j = NB := by omega
          have HDE2 := Lib.hid (show d = DF from by
            have h1 := HPD.out
            rw [HNB.out, List.drop_length] at h1; exact h1)
          obtain ⟨y0, y1, y2, y3⟩ := Bk.c4 b3
          have f0 := b3.free 0
          have f1 := b3.free 1
          have f2 := b3.free 2
          have f3 := b3.free 3
          rw [HQ0.out] at x1
          clear b1 b2 b8
          have HB3 := Lib.hid b3
          clear b3
          go_wp2
          have hF := FoB.box4_bk HB3.out (.int .i64 f.tick) (.slice qa' f.quotas.length qc') (.slice (some ⟨gi, 0, none⟩) 20 ci) (.slice (some ⟨gd, 0, none⟩) 56 cd)
          have hC := FoB.box4_chg wr (w.heap.size + 1 + 1) (.int .i64 f.tick) (.slice qa' f.quotas.length qc') (.slice (some ⟨gi, 0, none⟩) 20 ci) (.slice (some ⟨gd, 0, none⟩) 56 cd)
          unfold FoB.box4 at hF hC
          generalize ((((wr.setCell ⟨w.heap.size + 1 + 1, 0, none⟩ (.int .i64 f.tick)).setCell ⟨w.heap.size + 1 + 1, 1, none⟩ (.slice qa' f.quotas.length qc')).setCell ⟨w.heap.size + 1 + 1, 2, none⟩ (.slice (some ⟨gi, 0, none⟩) 20 ci)).setCell ⟨w.heap.size + 1 + 1, 3, none⟩ (.slice (some ⟨gd, 0, none⟩) 56 cd)) = w9 at hF hC ⊢
          obtain ⟨e0, e1, e2, e3⟩ := Bk.c4 hF
          have hb5 := HBA.out.2.2.2.2.1
          have hown := FsF.own_chg HBA.out.1.own hC (fun x hx hh => by rw [List.mem_singleton] at hh; subst hh; exact hb5 hx)
          have hres : FsF.Own w9 lo (.agg #[.int .i64 f.tick, .slice qa' f.quotas.length qc', .slice (some ⟨gi, 0, none⟩) 20 ci, .slice (some ⟨gd, 0, none⟩) 56 cd]) (withV f i n c) S2 := by
            have hv : withV f i n c = { f with inodes := f.inodes.set i n, data := d } := by rw [withV, HDE2.out, HDF.out, HU.out]
            rw [hv, ← HQ0.out]
            exact hown
          have hbl := HBW.out.trans (FoB.Chg.from hC HBW.out.size (by omega))
          refine bodyPost_ret (v := .agg #[.int .i64 f.tick, .slice qa' f.quotas.length qc', .slice (some ⟨gi, 0, none⟩) 20 ci, .slice (some ⟨gd, 0, none⟩) 56 cd]) (by simp [results, Tryz.results66, go_sem, e0, e1, e2, e3]) rfl ?_
          first
            | exact ⟨_, S2, rfl, hres, HSUB.out, hbl⟩
            | exact ⟨_, rfl, ⟨S2, hres, HSUB.out⟩, hbl⟩
            | exact ⟨_, rfl, S2, hres, HSUB.out, hbl⟩
end Go.Proofs.YtafmpllkehbmeaaGreatDoor.CoI
