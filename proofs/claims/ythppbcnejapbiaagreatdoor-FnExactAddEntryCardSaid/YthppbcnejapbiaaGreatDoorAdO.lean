/- Helper texts joined, one behind another (a claim has at most 60 files): what each proves, its own head says: YthppbcnejapbiaaGreatDoorClS, YthppbcnejapbiaaGreatDoorCoL, YthppbcnejapbiaaGreatDoorCoS. -/
import Derived.Test.YthppbcnejapbiaaGreatDoorAdK
import Derived.Test.YthppbcnejapbiaaGreatDoorAdF
import Derived.Deep.RegionHeld3
import Derived.Deep.RegionLaw

-- YthppbcnejapbiaaGreatDoorClS
/- A part. -/
namespace Go.Proofs.YthppbcnejapbiaaGreatDoor.ClS
set_option maxHeartbeats 6400000
set_option maxRecDepth 100000
open Go.ChangeShapes Go.WideShapes Go.ChangeAt Go.RowKit
open Foot Bx
open InoV (I)
open FsV (F)
open FoB
open App (SrcRow wpList_append_src)
set_option linter.unusedVariables false
theorem step_append_fresh {P : Program} {ops : Array Oper} {o : Oper} {a : Act} {w : World} {K : Act -> World -> Prop} {Q : Exit -> Act -> World -> Prop} {E : Prop} (hgd : o.guard = none) (s x : Operand) (t : TypeId)
  (ho : o.op = .call { callee := .builtin .append, args := #[s, x], argTypes := #[t, t] })
  (base : Nat) (e : TypeId) (i : TypeInfo) (z : Value) (size bytes : Nat) (ht : P.underlying t = some (.slice e)) (hi : P.info? e = some i) (hz : i.zero = some z)
  (hsize : i.size = size) (hby : i.bytes = bytes) (hzs : z.cells.size = size) (hsz : 0 < size)
  (g : Nat) (hs : a.eval s = .slice (some ⟨g, 0, none⟩) 0 0) (hemp : w.heap[g]? = some (.cells #[] e (0, 0))) (hge : base <= g)
  (m : Nat) (news : List Value) (xv : Value) (hxv : a.eval x = xv) (hsrc : SrcRow w size xv m news)
  (h63 : m <= maxLen) (hbytes : m * bytes <= 140737488355328) (hbase : base <= w.heap.size)
  (h : ∀ a' c' w', w'.ownsRow base e size (.slice a' m c') m news -> w.grownBy w' (some g) -> w.heap[g]? = some (.cells #[] e (0, 0)) -> K (a.put o.dst (.slice a' m c')) w') :
  if Region.wanted o (yielded ops a.tmps) = true then Oper.wp P o a w K Q else E := by
 subst hxv
 refine FsM.step_append_src hgd s x t ho base e i z size bytes ht hi hz hsize hby hzs hsz _ 0 [] hs (FsM.empty_own hemp hge) m news hsrc (by omega) (by rw [Nat.zero_add]; exact hbytes) hbase fun a' c' w' h1 h2 => ?_
 have hh := h a' c' w' (by simpa using h1) (by simpa [Value.ownBlock] using h2) hemp
 rw [Nat.zero_add]
 exact hh
theorem heap_drew (w : World) : w.drew.heap = w.heap := rfl
theorem kept2 {W w2 : World} {base g : Nat} {e e' : TypeId} {size : Nat} {v : Value} {n : Nat} {xs : List Value} (hg : W.grownBy w2 (some g)) (hem : W.heap[g]? = some (.cells #[] e' (0, 0))) (hne : e ≠ e') (ho : W.ownsRow base e size v n xs) : w2.ownsRow base e size v n xs :=
 ho.kept hg (Dk.own_two ho (FsM.empty_own (size := 1) hem (Nat.zero_le _)) hne)
theorem blk_gd {w w' : World} {row : Option Nat} {b : Nat} {o : Obj} (h : w.heap[b]? = some o) (hg : w.drew.grownBy w' row) (hne : some b ≠ row) : w'.heap[b]? = some o := Dk.blk_grown (w := w.drew) h hg hne
theorem blk_at {w : World} {o : Obj} {b : Nat} (h : b = w.heap.size) : (w.alloc o).heap[b]? = some o := by subst h; exact Dk.blk_new w o
theorem apart_box {U : List Nat} {B hi b : Nat} (h : Lies U B hi) (hb : b < B) : Apart U [b] := fun k hk hh => by have := h k hk; simp at hh; omega
theorem nd3 {A B C : List Nat} {x y : Nat} (hA : A.Nodup) (hB : B.Nodup) (hC : C.Nodup) (la : ∀ k ∈ A, k < x) (lb : ∀ k ∈ B, x <= k /\ k < y) (lc : ∀ k ∈ C, y <= k) (hxy : x <= y) : (A ++ B ++ C).Nodup := by
 refine List.nodup_append.2 ⟨List.nodup_append.2 ⟨hA, hB, fun a ha b hb => ?_⟩, hC, fun a ha c hc => ?_⟩
 ·have := la a ha; have := lb b hb; omega
 ·have h3 := lc c hc
  rcases List.mem_append.1 ha with h | h
  ·have := la a h; omega
  ·have := lb a h; omega
theorem acl_spec (w : World) (v : Value) (xs : List AclV.At) (hlen : xs.length <= 1073741824) (h : AeF.Holds w v xs) :
  Calls Tryz.prog 151 #[v] w fun e w' => ∃ v', e = .returned v' /\ AeF.Own w' w.heap.size v' xs (fpR v') /\ Below w.heap.size w w' := by
 obtain ⟨i0, hi, hz0, hz1, hz2⟩ := info_parts Ae.info
 have HS := Lib.hid (ClN.src_ae h)
 obtain ⟨a, cap, rfl, hc⟩ := h
 clear hc
 obtain ⟨L, hL⟩ : ∃ L, L = xs.length := ⟨_, rfl⟩
 rw [<- hL] at HS hlen ⊢
 have HL := Lib.hid hL
 clear hL
 go_enter Tryz.func151, Tryz.ntmps151
 go_wp2_with (at_builtin; refine wpList_append_src rfl _ _ 87 rfl w.heap.size 161 i0 (.agg #[.int .i64 0, .int .i64 0, .int .i64 0]) 3 24 Tryz.underlying87 hi hz0 hz1 hz2 rfl (by decide) _ 0 [] rfl (World.ownsRow_made w #[] 0 (Nat.le_refl _) (Nat.zero_le _) rfl) L (Ae.cells xs) ?c1 ?c2 ?c3 ?c4 ?_)
 case c1 => exact HS.out.below (fun p u hp => by rw [World.cell?_alloc_some _ _ _ (by rw [hp]; rfl)]; exact hp)
 case c2 => unfold maxLen; omega
 case c3 => omega
 case c4 => simp
 intro a' c' w1 hown1 hg1
 have HO := Lib.hid hown1
 have HB := Lib.hid (show Below w.heap.size w w1 from ((Below.refl w.heap.size w).alloc (Nat.le_refl _) _).grown hg1 (by simp) (fun k hk => by simp [Value.ownBlock] at hk; omega))
 clear hown1 hg1
 go_wp2
 go_ret
 refine ⟨_, rfl, ⟨?_, rfl⟩, HB.out⟩
 rw [<- HL.out]
 have := HO.out
 simpa using this
theorem inode_row (w : World) (v : Value) (n : I) (hc : In.cost n <= 1073741824) (h : In.Holds w v n) :
  Calls Tryz.prog 109 #[v] w fun e w' => ∃ (a' : Option Addr) (c' : Nat) (b1 : Option Addr) (e1 : Nat) (b2 : Option Addr) (e2 : Nat), e = .returned (.agg #[.int .i64 n.kind, .int .i64 n.mode, .int .i64 n.uid, .int .i64 n.gid, .int .i64 n.links, .int .i64 n.size, .int .i64 n.tick, .slice a' n.blocks.length c', .slice b1 n.acl.length e1, .slice b2 n.dflt.length e2]) /\ w'.ownsRow w.heap.size 3 1 (.slice a' n.blocks.length c') n.blocks.length (NiF.cells n.blocks) /\ AeF.Own w' w.heap.size (.slice b1 n.acl.length e1) n.acl (fpR (.slice b1 n.acl.length e1)) /\ AeF.Own w' w.heap.size (.slice b2 n.dflt.length e2) n.dflt (fpR (.slice b2 n.dflt.length e2)) /\ (fpR (.slice a' n.blocks.length c') ++ fpR (.slice b1 n.acl.length e1) ++ fpR (.slice b2 n.dflt.length e2)).Nodup /\ Below w.heap.size w w' := by
 obtain ⟨i0, hi, hz0, hz1, hz2⟩ := info_parts Ni.intInfo
 obtain ⟨r0, r1, r2, rfl, g0, g1, g2⟩ := h
 have hb0 := Nat.le_trans (In.le_blocks n) hc
 have hb1 := Nat.le_trans (In.le_acl n) hc
 have hb2 := Nat.le_trans (In.le_dflt n) hc
 have HS := Lib.hid (ClN.src_ni g0)
 have HA := Lib.hid (fun (W : World) (hw : Below w.heap.size w W) => acl_spec W _ n.acl hb1 (AeF.holds_below g1 hw))
 have HD := Lib.hid (fun (W : World) (hw : Below w.heap.size w W) => acl_spec W _ n.dflt hb2 (AeF.holds_below g2 hw))
 obtain ⟨a0, d0, rfl⟩ := NiF.form g0
 obtain ⟨a1, d1, rfl⟩ := AeF.form g1
 obtain ⟨a2, d2, rfl⟩ := AeF.form g2
 clear g0 g1 g2 hb1 hb2 hc
 obtain ⟨L, hL⟩ : ∃ L, L = n.blocks.length := ⟨_, rfl⟩
 rw [<- hL] at HS ⊢
 rw [show NiF.cost n.blocks = n.blocks.length from rfl, <- hL] at hb0
 have HL := Lib.hid hL
 clear hL
 have HB0 := Lib.hid (((Below.refl w.heap.size w).alloc (Nat.le_refl _) (.cells #[.int .i64 n.kind, .int .i64 n.mode, .int .i64 n.uid, .int .i64 n.gid, .int .i64 n.links, .int .i64 n.size, .int .i64 n.tick, .slice a0 L d0, .slice a1 n.acl.length d1, .slice a2 n.dflt.length d2] 89)).alloc (by simp) (.cells #[.int .i64 0, .int .i64 0, .int .i64 0, .int .i64 0, .int .i64 0, .int .i64 0, .int .i64 0, .slice none 0 0, .slice none 0 0, .slice none 0 0] 89))
 have HX0 := Lib.hid ((new w #[.int .i64 n.kind, .int .i64 n.mode, .int .i64 n.uid, .int .i64 n.gid, .int .i64 n.links, .int .i64 n.size, .int .i64 n.tick, .slice a0 L d0, .slice a1 n.acl.length d1, .slice a2 n.dflt.length d2] 89).alloc (.cells #[.int .i64 0, .int .i64 0, .int .i64 0, .int .i64 0, .int .i64 0, .int .i64 0, .int .i64 0, .slice none 0 0, .slice none 0 0, .slice none 0 0] 89))
 have HR0 := Lib.hid (new_at (w.alloc (.cells #[.int .i64 n.kind, .int .i64 n.mode, .int .i64 n.uid, .int .i64 n.gid, .int .i64 n.links, .int .i64 n.size, .int .i64 n.tick, .slice a0 L d0, .slice a1 n.acl.length d1, .slice a2 n.dflt.length d2] 89)) #[.int .i64 0, .int .i64 0, .int .i64 0, .int .i64 0, .int .i64 0, .int .i64 0, .int .i64 0, .slice none 0 0, .slice none 0 0, .slice none 0 0] 89 (w.heap.size + 1) (by simp))
 have HS0 := Lib.hid (show w.heap.size + 1 + 1 = ((w.alloc (.cells #[.int .i64 n.kind, .int .i64 n.mode, .int .i64 n.uid, .int .i64 n.gid, .int .i64 n.links, .int .i64 n.size, .int .i64 n.tick, .slice a0 L d0, .slice a1 n.acl.length d1, .slice a2 n.dflt.length d2] 89)).alloc (.cells #[.int .i64 0, .int .i64 0, .int .i64 0, .int .i64 0, .int .i64 0, .int .i64 0, .int .i64 0, .slice none 0 0, .slice none 0 0, .slice none 0 0] 89)).heap.size from by simp)
 go_enter Tryz.func109, Tryz.ntmps109
 go_wp2_with (at_builtin; go_loud (refine wpList_append_src rfl _ _ 49 rfl (w.heap.size + 1 + 1) 3 i0 (.int .i64 0) 1 8 Tryz.underlying49 hi hz0 hz1 hz2 rfl (by decide) _ 0 [] rfl (FsM.empty_own (b := w.heap.size + 1 + 1) ?c0 ?c5) L (NiF.cells n.blocks) ?c1 ?c2 ?c3 ?c4 ?_))
 case c0 => exact blk_at (by simp)
 case c5 => omega
 case c1 => exact ClN.src_below HS.out (HB0.out.alloc (Nat.le_trans (by omega) (Nat.le_of_eq HS0.out)) _)
 case c2 => unfold maxLen; omega
 case c3 => omega
 case c4 => have := HS0.out; rw [World.size_alloc]; omega
 generalize (w.alloc (.cells #[.int .i64 n.kind, .int .i64 n.mode, .int .i64 n.uid, .int .i64 n.gid, .int .i64 n.links, .int .i64 n.size, .int .i64 n.tick, .slice a0 L d0, .slice a1 n.acl.length d1, .slice a2 n.dflt.length d2] 89)).alloc (.cells #[.int .i64 0, .int .i64 0, .int .i64 0, .int .i64 0, .int .i64 0, .int .i64 0, .int .i64 0, .slice none 0 0, .slice none 0 0, .slice none 0 0] 89) = w0 at *
 intro a' c' w1 hown1 hg1
 have h01 : Below w0.heap.size w0 w1 := ((Below.refl w0.heap.size w0).alloc (Nat.le_refl _) _).grown hg1 (by simp) (fun k hk => by simp [Value.ownBlock] at hk; have := HS0.out; omega)
 have HO1 := Lib.hid hown1
 have HB1 := Lib.hid (HB0.out.trans (h01.mono HB0.out.size))
 have HX1 := Lib.hid (HX0.out.all h01)
 have HR1 := Lib.hid (HR0.out.all h01)
 have hs1 : w.heap.size + 1 + 1 <= w1.heap.size := Nat.le_trans (Nat.le_of_eq HS0.out) h01.size
 clear hown1 hg1 h01
 obtain ⟨x0, x1, x2, x3, x4, x5, x6, x7, x8, x9⟩ := Bk.c10 HX1.out
 have f7 := HX1.out.free 7
 go_wp2_with fail
 clear x0 x1 x2 x3 x4 x5 x6 x7 x8 x9 f7
 have hset : Chg w1 (w1.setCell ⟨w.heap.size, 7, none⟩ (.slice a' L c')) [w.heap.size] := chg_set w1 ⟨w.heap.size, 7, none⟩ (.slice a' L c')
 have HX2 := Lib.hid (show Bk _ w.heap.size #[.int .i64 n.kind, .int .i64 n.mode, .int .i64 n.uid, .int .i64 n.gid, .int .i64 n.links, .int .i64 n.size, .int .i64 n.tick, .slice a' L c', .slice a1 n.acl.length d1, .slice a2 n.dflt.length d2] 89 from Bk.put (l := [.int .i64 n.kind, .int .i64 n.mode, .int .i64 n.uid, .int .i64 n.gid, .int .i64 n.links, .int .i64 n.size, .int .i64 n.tick, .slice a0 L d0, .slice a1 n.acl.length d1, .slice a2 n.dflt.length d2]) HX1.out 7 (.slice a' L c'))
 have HR2 := Lib.hid (FoB.Bk.chg HR1.out hset (by simp))
 have HB2 := Lib.hid (HB1.out.trans (FoB.Chg.from hset HB1.out.size (Nat.le_refl _)))
 have HO2 := Lib.hid (row_chg HO1.out hset (apart_box (row_lies HO1.out) (by omega)))
 have hz2 := Lib.hid (hset.size)
 have hs2 : w.heap.size + 1 + 1 <= (w1.setCell ⟨w.heap.size, 7, none⟩ (.slice a' L c')).heap.size := Nat.le_trans hs1 hset.size
 clear hset
 generalize w1.setCell ⟨w.heap.size, 7, none⟩ (.slice a' L c') = w2 at *
 refine (HA.out _ HB2.out).mono ?_
 rintro e w3 ⟨y1, rfl, hown, hb⟩
 obtain ⟨b1, e1, rfl⟩ := AeF.own_form hown
 have HX3 := Lib.hid (HX2.out.all hb)
 have HR3 := Lib.hid (HR2.out.all hb)
 have HB3 := Lib.hid (HB2.out.trans (hb.mono HB2.out.size))
 have HO3 := Lib.hid (row_below HO2.out hb)
 have HO31 := Lib.hid hown
 have HT1 := Lib.hid hb.size
 have HN1 := Lib.hid hown
 have hs3 : w.heap.size + 1 + 1 <= w3.heap.size := Nat.le_trans hs2 hb.size
 clear hown hb
 obtain ⟨x0, x1, x2, x3, x4, x5, x6, x7, x8, x9⟩ := Bk.c10 HX3.out
 have f7 := HX3.out.free 8
 go_wp2_with fail
 clear x0 x1 x2 x3 x4 x5 x6 x7 x8 x9 f7
 have hset : Chg w3 (w3.setCell ⟨w.heap.size, 8, none⟩ (.slice b1 n.acl.length e1)) [w.heap.size] := chg_set w3 ⟨w.heap.size, 8, none⟩ (.slice b1 n.acl.length e1)
 have HX4 := Lib.hid (show Bk _ w.heap.size #[.int .i64 n.kind, .int .i64 n.mode, .int .i64 n.uid, .int .i64 n.gid, .int .i64 n.links, .int .i64 n.size, .int .i64 n.tick, .slice a' L c', .slice b1 n.acl.length e1, .slice a2 n.dflt.length d2] 89 from Bk.put (l := [.int .i64 n.kind, .int .i64 n.mode, .int .i64 n.uid, .int .i64 n.gid, .int .i64 n.links, .int .i64 n.size, .int .i64 n.tick, .slice a' L c', .slice a1 n.acl.length d1, .slice a2 n.dflt.length d2]) HX3.out 8 (.slice b1 n.acl.length e1))
 have HR4 := Lib.hid (FoB.Bk.chg HR3.out hset (by simp))
 have HB4 := Lib.hid (HB3.out.trans (FoB.Chg.from hset HB3.out.size (Nat.le_refl _)))
 have HO4 := Lib.hid (row_chg HO3.out hset (apart_box (row_lies HO3.out) (by omega)))
 have HO41 := Lib.hid (AeF.own_chg HO31.out hset (apart_box (AeF.own_lies HO31.out) (by omega)))
 have hz4 := Lib.hid (hset.size)
 have hs4 : w.heap.size + 1 + 1 <= (w3.setCell ⟨w.heap.size, 8, none⟩ (.slice b1 n.acl.length e1)).heap.size := Nat.le_trans hs3 hset.size
 clear hset
 generalize w3.setCell ⟨w.heap.size, 8, none⟩ (.slice b1 n.acl.length e1) = w4 at *
 refine (HD.out _ HB4.out).mono ?_
 rintro e w5 ⟨y2, rfl, hown, hb⟩
 obtain ⟨b2, e2, rfl⟩ := AeF.own_form hown
 have HX5 := Lib.hid (HX4.out.all hb)
 have HR5 := Lib.hid (HR4.out.all hb)
 have HB5 := Lib.hid (HB4.out.trans (hb.mono HB4.out.size))
 have HO5 := Lib.hid (row_below HO4.out hb)
 have HO51 := Lib.hid (AeF.own_below HO41.out hb)
 have HO52 := Lib.hid hown
 have HT2 := Lib.hid hb.size
 have HN2 := Lib.hid hown
 have hs5 : w.heap.size + 1 + 1 <= w5.heap.size := Nat.le_trans hs4 hb.size
 clear hown hb
 obtain ⟨x0, x1, x2, x3, x4, x5, x6, x7, x8, x9⟩ := Bk.c10 HX5.out
 have f7 := HX5.out.free 9
 obtain ⟨r0, r1, r2, r3, r4, r5, r6, r7, r8, r9⟩ := Bk.c10 HR5.out
 have q0 := HR5.out.free 0
 have q1 := HR5.out.free 1
 have q2 := HR5.out.free 2
 have q3 := HR5.out.free 3
 have q4 := HR5.out.free 4
 have q5 := HR5.out.free 5
 have q6 := HR5.out.free 6
 have q7 := HR5.out.free 7
 have q8 := HR5.out.free 8
 have q9 := HR5.out.free 9
 go_wp2_with fail
 have hset : Chg w5 (FoB.box10 (w5.setCell ⟨w.heap.size, 9, none⟩ (.slice b2 n.dflt.length e2)) (w.heap.size + 1) (.int .i64 n.kind) (.int .i64 n.mode) (.int .i64 n.uid) (.int .i64 n.gid) (.int .i64 n.links) (.int .i64 n.size) (.int .i64 n.tick) (.slice a' L c') (.slice b1 n.acl.length e1) (.slice b2 n.dflt.length e2)) [w.heap.size, w.heap.size + 1] :=
  Chg.trans (Chg.more (chg_set w5 ⟨w.heap.size, 9, none⟩ (.slice b2 n.dflt.length e2)) (by simp)) (Chg.more (FoB.box10_chg _ _ (.int .i64 n.kind) (.int .i64 n.mode) (.int .i64 n.uid) (.int .i64 n.gid) (.int .i64 n.links) (.int .i64 n.size) (.int .i64 n.tick) (.slice a' L c') (.slice b1 n.acl.length e1) (.slice b2 n.dflt.length e2)) (by simp))
 have hF := FoB.box10_bk (FoB.Bk.chg HR5.out (chg_set w5 ⟨w.heap.size, 9, none⟩ (.slice b2 n.dflt.length e2)) (by simp)) (.int .i64 n.kind) (.int .i64 n.mode) (.int .i64 n.uid) (.int .i64 n.gid) (.int .i64 n.links) (.int .i64 n.size) (.int .i64 n.tick) (.slice a' L c') (.slice b1 n.acl.length e1) (.slice b2 n.dflt.length e2)
 unfold FoB.box10 at hset hF
 generalize (((((((((((w5.setCell ⟨w.heap.size, 9, none⟩ (.slice b2 n.dflt.length e2)).setCell ⟨w.heap.size + 1, 0, none⟩ (.int .i64 n.kind)).setCell ⟨w.heap.size + 1, 1, none⟩ (.int .i64 n.mode)).setCell ⟨w.heap.size + 1, 2, none⟩ (.int .i64 n.uid)).setCell ⟨w.heap.size + 1, 3, none⟩ (.int .i64 n.gid)).setCell ⟨w.heap.size + 1, 4, none⟩ (.int .i64 n.links)).setCell ⟨w.heap.size + 1, 5, none⟩ (.int .i64 n.size)).setCell ⟨w.heap.size + 1, 6, none⟩ (.int .i64 n.tick)).setCell ⟨w.heap.size + 1, 7, none⟩ (.slice a' L c')).setCell ⟨w.heap.size + 1, 8, none⟩ (.slice b1 n.acl.length e1)).setCell ⟨w.heap.size + 1, 9, none⟩ (.slice b2 n.dflt.length e2)) = w6 at *
 obtain ⟨z0, z1, z2, z3, z4, z5, z6, z7, z8, z9⟩ := Bk.c10 hF
 have hap : ∀ (U : List Nat) (B hi : Nat), Lies U B hi -> w.heap.size + 1 < B -> Apart U [w.heap.size, w.heap.size + 1] := fun U B hi hl hB k hk hh => by have := hl k hk; simp at hh; omega
 have hnd : (fpR (.slice a' L c') ++ fpR (.slice b1 n.acl.length e1) ++ fpR (.slice b2 n.dflt.length e2)).Nodup := nd3 (fpR_nodup _) (fpR_nodup _) (fpR_nodup _) (fun k hk => Nat.lt_of_lt_of_le (row_lies HO2.out k hk).2 (Nat.le_refl _)) (fun k hk => by have h1 := AeF.own_lies HO51.out k hk; have h2 := AeF.own_lies HO41.out k hk; exact ⟨(AeF.own_lies HN1.out k hk).1, h2.2⟩) (fun k hk => (AeF.own_lies HO52.out k hk).1) (Nat.le_trans HT1.out hz4.out)
 have hr0 : w6.ownsRow w.heap.size 3 1 (.slice a' L c') L (NiF.cells n.blocks) := row_mono (row_chg HO5.out hset (hap _ _ _ (row_lies HO5.out) (by omega))) (by omega)
 have hr1 := AeF.own_mono (AeF.own_chg HO51.out hset (hap _ _ _ (AeF.own_lies HO51.out) (by omega))) (show w.heap.size <= _ by omega)
 have hr2 := AeF.own_mono (AeF.own_chg HO52.out hset (hap _ _ _ (AeF.own_lies HO52.out) (by omega))) (show w.heap.size <= _ by omega)
 have hbel := HB5.out.trans (hset.below HB5.out.size (fun k hk => by simp at hk; omega))
 refine bodyPost_ret (v := .agg #[.int .i64 n.kind, .int .i64 n.mode, .int .i64 n.uid, .int .i64 n.gid, .int .i64 n.links, .int .i64 n.size, .int .i64 n.tick, .slice a' L c', .slice b1 n.acl.length e1, .slice b2 n.dflt.length e2]) (by simp [results, Tryz.results109, go_sem, z0, z1, z2, z3, z4, z5, z6, z7, z8, z9]) rfl ?_
 exact ⟨_, _, _, _, _, _, rfl, hr0, hr1, hr2, hnd, hbel⟩
theorem inode_spec (w : World) (v : Value) (n : I) (hc : In.cost n <= 1073741824) (h : In.Holds w v n) :
  Calls Tryz.prog 109 #[v] w fun e w' => ∃ v' S, e = .returned v' /\ In.Own w' w.heap.size v' n S /\ Below w.heap.size w w' := by
 refine (inode_row w v n hc h).mono ?_
 rintro e w' ⟨a', c', b1, e1, b2, e2, rfl, h0, h1, h2, hnd, hb⟩
 exact ⟨_, _, rfl, ⟨_, _, _, _, _, _, rfl, rfl, hnd, NiF.own_of h0, h1, h2⟩, hb⟩
end Go.Proofs.YthppbcnejapbiaaGreatDoor.ClS

-- YthppbcnejapbiaaGreatDoorCoL
/- A part. -/
namespace Go.Proofs.YthppbcnejapbiaaGreatDoor.CoL
open Go.ChangeShapes Go.WideShapes Go.ChangeAt Go.RowKit
open Foot Bx
open InoV (I)
open FsV (F)
open FoB
set_option linter.unusedVariables false
theorem bel_set {w W : World} (h : Below w.heap.size w W) {p : Addr} (hp : w.heap.size <= p.block) (u : Value) : Below w.heap.size w (W.setCell p u) := h.trans ((chg_set W p u).below h.size (fun k hk => by rw [List.mem_singleton] at hk; omega))
def Pre0 (w0 W : World) (b : Nat) (TK : Int) (Q D : Nat) (q d : Value) (f : F) : Prop :=
 Bk W b #[.int .i64 TK, q, .slice none 0 0, d] 33 /\ w0.heap.size <= b /\ W.ownsRow w0.heap.size 113 2 q Q (Qt.cells f.quotas) /\ W.ownsRow w0.heap.size 9 1 d D (f.data.map Value.string) /\ Below w0.heap.size w0 W
theorem pre_mk {w0 W : World} {b : Nat} {TK : Int} {Q D : Nat} {q d : Value} {f : F} (hb : Bk W b #[.int .i64 0, .slice none 0 0, .slice none 0 0, .slice none 0 0] 33) (hlo : w0.heap.size <= b) (hq : W.ownsRow w0.heap.size 113 2 q Q (Qt.cells f.quotas)) (hd : W.ownsRow w0.heap.size 9 1 d D (f.data.map Value.string)) (hB : Below w0.heap.size w0 W) :
  Pre0 w0 ((((W.setCell ⟨b, 0, none⟩ (.int .i64 TK)).setCell ⟨b, 1, none⟩ q).setCell ⟨b, 2, none⟩ (.slice none 0 0)).setCell ⟨b, 3, none⟩ d) b TK Q D q d f := by
 have h4 := FoB.box4_bk hb (.int .i64 TK) q (.slice none 0 0) d
 have hc := FoB.box4_chg W b (.int .i64 TK) q (.slice none 0 0) d
 have k0 := Bk.set hb 0 (.int .i64 TK)
 have k1 := Bk.set k0 1 q
 have k2 := Bk.set k1 2 (.slice none 0 0)
 unfold FoB.box4 at h4 hc
 exact ⟨h4, hlo, FsM.row_far (FsM.row_far (FsM.row_far (FsM.row_far hq hb (by decide) _ _) k0 (by decide) _ _) k1 (by decide) _ _) k2 (by decide) _ _, FsM.row_far (FsM.row_far (FsM.row_far (FsM.row_far hd hb (by decide) _ _) k0 (by decide) _ _) k1 (by decide) _ _) k2 (by decide) _ _, hB.trans (FoB.Chg.from hc hB.size hlo)⟩
theorem row_nin {W : World} {base size n b : Nat} {e t : TypeId} {v : Value} {xs : List Value} {cs : Array Value} (h : W.ownsRow base e size v n xs) (hk : Bk W b cs t) (hne : e ≠ t) : b ∉ fpR v := by
 rcases h.2 with ⟨rfl, _⟩ | ⟨g, _, _, rfl, _, hg, _⟩
 ·intro hh; cases hh
 ·intro hh
  simp [fpR, Value.ownBlock] at hh
  subst hh
  have := hg.symm.trans hk
  simp only [Option.some.injEq, Obj.cells.injEq] at this
  exact hne this.2.1
theorem in_parts {W : World} {base : Nat} {v : Value} {n : I} {T : List Nat} (h : In.Own W base v n T) : ∀ k ∈ T, ∃ (e : TypeId) (size : Nat) (u : Value) (m : Nat) (xs : List Value), W.ownsRow base e size u m xs /\ k ∈ fpR u /\ (e = 3 \/ e = 161) := by
 obtain ⟨t0, t1, t2, T0, T1, T2, rfl, rfl, _, o0, o1, o2⟩ := h
 intro k hk
 rcases List.mem_append.1 hk with hk | hk
 ·rcases List.mem_append.1 hk with hk | hk
  ·obtain ⟨⟨a, c, c', rfl, _, _, hr⟩, rfl⟩ := o0
   exact ⟨_, _, _, _, _, hr, by rwa [NiF.fpR_slice a _ _ n.blocks.length c] , .inl rfl⟩
  ·exact ⟨_, _, _, _, _, o1.1, by rw [<- o1.2]; exact hk, .inr rfl⟩
 ·exact ⟨_, _, _, _, _, o2.1, by rw [<- o2.2]; exact hk, .inr rfl⟩
theorem in_row {W : World} {base base' : Nat} {v : Value} {n : I} {T : List Nat} (h : In.Own W base v n T) {e' : TypeId} {size' m' : Nat} {v' : Value} {xs' : List Value} (hr : W.ownsRow base' e' size' v' m' xs') (h1 : 3 ≠ e') (h2 : 161 ≠ e') : Apart T (fpR v') := by
 intro k hk hk'
 obtain ⟨e, size, u, m, xs, hrow, hku, rfl | rfl⟩ := in_parts h k hk
 ·exact FsM.rows_apart hrow hr h1 k hku hk'
 ·exact FsM.rows_apart hrow hr h2 k hku hk'
theorem in_box {W : World} {base b : Nat} {v : Value} {n : I} {T : List Nat} {cs : Array Value} {t : TypeId} (h : In.Own W base v n T) (hk : Bk W b cs t) (h1 : 3 ≠ t) (h2 : 161 ≠ t) : b ∉ T := by
 intro hh
 obtain ⟨e, size, u, m, xs, hrow, hku, rfl | rfl⟩ := in_parts h b hh
 ·exact row_nin hrow hk h1 hku
 ·exact row_nin hrow hk h2 hku
theorem fps_row {W : World} {base base' : Nat} {es : List IF.El} (h : ∀ e ∈ es, In.Own W base e.2.1 e.1 e.2.2) {e' : TypeId} {size' m' : Nat} {v' : Value} {xs' : List Value} (hr : W.ownsRow base' e' size' v' m' xs') (h1 : 3 ≠ e') (h2 : 161 ≠ e') : Apart (IF.fps es) (fpR v') := by
 intro k hk hk'
 obtain ⟨e, he, hke⟩ := List.mem_flatMap.1 hk
 exact in_row (h e he) hr h1 h2 k hke hk'
def LP (w0 : World) (b : Nat) (TK : Int) (Q D : Nat) (q d : Value) (f : F) (j : Nat) (r : Value) (es : List IF.El) (W : World) : Prop :=
 Bk W b #[.int .i64 TK, q, r, d] 33 /\ w0.heap.size <= b /\ IF.ns es = f.inodes.take j /\ W.ownsRow w0.heap.size 89 10 r j (IF.cells es) /\ (∀ e ∈ es, In.Own W w0.heap.size e.2.1 e.1 e.2.2) /\ (IF.fps es).Nodup /\ W.ownsRow w0.heap.size 113 2 q Q (Qt.cells f.quotas) /\ W.ownsRow w0.heap.size 9 1 d D (f.data.map Value.string) /\ Below w0.heap.size w0 W
section
variable {w0 W W' : World} {b : Nat} {TK : Int} {Q D : Nat} {q d : Value} {f : F} {j : Nat} {r : Value} {es : List IF.El}
theorem lp_zero (h : Pre0 w0 W b TK Q D q d f) : LP w0 b TK Q D q d f 0 (.slice none 0 0) [] W := by
 obtain ⟨h1, h2, h3, h4, h5⟩ := h
 exact ⟨h1, h2, by simp [IF.ns], World.ownsRow_nil _ _ _ _, (fun e he => by cases he), by simp [IF.fps], h3, h4, h5⟩
theorem lp_below (h : LP w0 b TK Q D q d f j r es W) (hb : Below W.heap.size W W') : LP w0 b TK Q D q d f j r es W' := by
 obtain ⟨h1, h2, h3, h4, h5, h6, h7, h8, h9⟩ := h
 exact ⟨h1.all hb, h2, h3, row_below h4 hb, fun e he => In.own_below (h5 e he) hb, h6, row_below h7 hb, row_below h8 hb, h9.trans (hb.mono h9.size)⟩
theorem lp_next {w2 : World} {vn v' : Value} {T : List Nat} (h : LP w0 b TK Q D q d f j r es W) (hj : j < f.inodes.length) (hn : In.Own W w0.heap.size vn (f.inodes.getD j IF.z0) T) (ha : Apart (IF.fps es) T) (hg : W.grownBy w2 r.ownBlock) (hrow : w2.ownsRow w0.heap.size 89 10 v' (j + 1) (IF.cells es ++ IF.vcells vn)) :
  LP w0 b TK Q D q d f (j + 1) v' (es ++ [(f.inodes.getD j IF.z0, vn, T)]) (w2.setCell ⟨b, 2, none⟩ v') := by
 obtain ⟨h1, h2, h3, h4, h5, h6, h7, h8, h9⟩ := h
 have hc := Chg.of_grown hg
 have b2 := FoB.Bk.chg h1 hc (row_nin h4 h1 (by decide))
 have elem : ∀ e ∈ es ++ [((f.inodes.getD j IF.z0, vn, T) : IF.El)], In.Own W w0.heap.size e.2.1 e.1 e.2.2 := fun e he => by
  rcases List.mem_append.1 he with he | he
  ·exact h5 e he
  ·rw [List.mem_singleton] at he; subst he; exact hn
 have elem2 : ∀ e ∈ es ++ [((f.inodes.getD j IF.z0, vn, T) : IF.El)], In.Own w2 w0.heap.size e.2.1 e.1 e.2.2 := fun e he => In.own_chg (elem e he) hc (in_row (elem e he) h4 (by decide) (by decide))
 refine ⟨Bk.put (l := [.int .i64 TK, q, r, d]) b2 2 v', h2, ?_, ?_, fun e he => In.own_chg (elem2 e he) (chg_set w2 ⟨b, 2, none⟩ v') (fun k hk hh => ?_), ?_, FsM.row_far (row_chg h7 hc (FsM.rows_apart h7 h4 (by decide))) b2 (by decide) 2 v', FsM.row_far (row_chg h8 hc (FsM.rows_apart h8 h4 (by decide))) b2 (by decide) 2 v', bel_set (h9.grown hg h9.size (fun k hk => (h4.lt k hk).1)) h2 _⟩
 ·have : IF.ns (es ++ [((f.inodes.getD j IF.z0, vn, T) : IF.El)]) = IF.ns es ++ [f.inodes.getD j IF.z0] := by simp [IF.ns]
  rw [this, h3, List.take_add_one, List.getElem?_eq_getElem hj]
  simp [List.getD, List.getElem?_eq_getElem hj]
 ·have : IF.cells (es ++ [((f.inodes.getD j IF.z0, vn, T) : IF.El)]) = IF.cells es ++ IF.vcells vn := by simp [IF.cells]
  rw [this]
  exact FsM.row_far hrow b2 (by decide) 2 v'
 ·rw [List.mem_singleton] at hh
  subst hh
  exact in_box (elem2 e he) b2 (by decide) (by decide) hk
 ·have : IF.fps (es ++ [((f.inodes.getD j IF.z0, vn, T) : IF.El)]) = IF.fps es ++ T := by simp [IF.fps]
  rw [this]
  exact nodup_app h6 (In.own_nodup hn) ha
theorem lp_end {M : Nat} (h : LP w0 b TK Q D q d f M r es W) (hT : TK = f.tick) (hQ : Q = f.quotas.length) (hM : M = f.inodes.length) (hD : D = f.data.length) : FsF.Own W w0.heap.size (.agg #[.int .i64 TK, q, r, d]) f (fpR q ++ (fpR r ++ IF.fps es) ++ fpR d) := by
 subst hT hQ hM hD
 obtain ⟨h1, h2, h3, h4, h5, h6, h7, h8, h9⟩ := h
 have a1 : Apart (IF.fps es) (fpR r) := fps_row h5 h4 (by decide) (by decide)
 have a2 : Apart (IF.fps es) (fpR q) := fps_row h5 h7 (by decide) (by decide)
 have a3 : Apart (IF.fps es) (fpR d) := fps_row h5 h8 (by decide) (by decide)
 have n1 : (fpR r ++ IF.fps es).Nodup := nodup_app (fpR_nodup _) h6 (fun k hk hh => a1 k hh hk)
 refine ⟨_, _, _, _, _, _, rfl, rfl, ?_, ⟨h7, rfl⟩, ⟨es, by rw [h3, List.take_length], h4, rfl, n1, h5⟩, ⟨h8, rfl⟩⟩
 refine nodup_app (nodup_app (fpR_nodup _) n1 (fun k hk hh => ?_)) (fpR_nodup _) (apart_app.2 ⟨FsM.rows_apart h7 h8 (by decide), apart_app.2 ⟨FsM.rows_apart h4 h8 (by decide), a3⟩⟩)
 rcases List.mem_append.1 hh with hh | hh
 ·exact FsM.rows_apart h7 h4 (by decide) k hk hh
 ·exact a2 k hh hk
end
end Go.Proofs.YthppbcnejapbiaaGreatDoor.CoL

-- YthppbcnejapbiaaGreatDoorCoS
/- A part. -/
namespace Go.Proofs.YthppbcnejapbiaaGreatDoor.CoS
open Go.ChangeShapes Go.WideShapes Go.ChangeAt Go.RowKit
open Foot Bx
open InoV (I)
open FsV (F)
open FoB ClS CoL
open App (SrcRow)
set_option linter.unusedVariables false
theorem pre_new {w0 W : World} {TK : Int} {Q D : Nat} {q d : Value} {f : F} (hlo : w0.heap.size ≤ W.heap.size) (hq : W.ownsRow w0.heap.size 113 2 q Q (Qt.cells f.quotas)) (hd : W.ownsRow w0.heap.size 9 1 d D (f.data.map Value.string)) (hB : Below w0.heap.size w0 W) :
    Pre0 w0 (W.alloc (.cells #[.int .i64 TK, q, .slice none 0 0, d] 33)) W.heap.size TK Q D q d f :=
  ⟨new _ _ _, hlo, World.ownsRow.alloc hq _, World.ownsRow.alloc hd _, hB.alloc hlo _⟩
theorem step_append_own {P : Program} {ops : Array Oper} {o : Oper} {a : Act} {w : World} {K : Act → World → Prop} {Q : Exit → Act → World → Prop} {E : Prop} (hgd : o.guard = none) (s x : Operand) (t : TypeId)
    (ho : o.op = .call { callee := .builtin .append, args := #[s, x], argTypes := #[t, t] })
    (base : Nat) (e : TypeId) (i : TypeInfo) (z : Value) (size bytes : Nat) (ht : P.underlying t = some (.slice e)) (hi : P.info? e = some i) (hz : i.zero = some z)
    (hsize : i.size = size) (hby : i.bytes = bytes) (hzs : z.cells.size = size) (hsz : 0 < size)
    (v : Value) (n : Nat) (xs : List Value) (hs : a.eval s = v) (hown : w.ownsRow base e size v n xs)
    (ad : Addr) (m c : Nat) (news : List Value) (hx : a.eval x = .slice (some ad) m c) (hl : news.length = m * size) (hnews : ∀ j u, news[j]? = some u → w.cell? (ad.add j) = some u) (h1 : ∀ u ∈ news, u.oneCell' = true)
    (h63 : n + m ≤ maxLen) (hbytes : (n + m) * bytes ≤ 140737488355328) (hbase : base ≤ w.heap.size)
    (h : ∀ v' w', w'.ownsRow base e size v' (n + m) (xs ++ news) → w.grownBy w' v.ownBlock → (v' = .slice none 0 0 ↔ v = .slice none 0 0 ∧ m = 0) → K (a.put o.dst v') w') :
    if Region.wanted o (yielded ops a.tmps) = true then Oper.wp P o a w K Q else E := by
  have hw : Region.wanted o (yielded ops a.tmps) = true := by simp [Region.wanted, hgd]
  rw [if_pos hw]
  exact wp_append_own w s x t ho base e i z size bytes ht hi hz hsize hby hzs hsz v n xs hs hown ad m c news hx hl hnews h1 h63 hbytes hbase h
theorem cells10_at (w : World) (b : Nat) (l : List Value) {t : TypeId} (h : Bk w b l.toArray t) : ∀ j u, l[j]? = some u → w.cell? ((⟨b, 0, none⟩ : Addr).add j) = some u := by
  intro j u hu
  have h1 := h.cell j
  have h2 : w.cell? ⟨b, j, none⟩ = some u := by rw [h1]; simpa using hu
  simp only [Addr.add, Nat.zero_add]
  split
  · rename_i h0; subst h0; exact h2
  · exact h2
set_option maxRecDepth 100000 in
set_option maxHeartbeats 12800000 in
theorem copy_spec (w : World) (v : Value) (f : F) (hc : FsF.cost f ≤ 1073741824) (h : FsF.Holds w v f) :
    Calls Tryz.prog 61 #[v] w fun e w' => ∃ v' S, e = .returned v' ∧ FsF.Own w' w.heap.size v' f S ∧ Below w.heap.size w w' := by
  obtain ⟨i0, hi, hz0, hz1, hz2⟩ := info_parts Strs.strInfo
  obtain ⟨j0, hj, hy0, hy1, hy2⟩ := info_parts Qt.info
  obtain ⟨k0, hk, hx0, hx1, hx2⟩ := info_parts IF.info
  obtain ⟨r0, r1, r2, rfl, g0, g1, g2⟩ := h
  have hb0 : f.quotas.length ≤ 1073741824 := Nat.le_trans (FsF.le_quotas f) hc
  have hb1 : f.inodes.length ≤ 1073741824 := Nat.le_trans (Nat.le_trans (Nat.le_add_right _ _) (FsF.le_inodes f)) hc
  have hb2 : f.data.length ≤ 1073741824 := Nat.le_trans (Nat.le_trans (Nat.le_add_right _ _) (FsF.le_data f)) hc
  have HCI := Lib.hid (show ∀ x ∈ f.inodes, In.cost x ≤ 1073741824 from fun x hx => Nat.le_trans (IF.cost_mem hx) (Nat.le_trans (Nat.le_trans (Nat.le_add_left _ _) (FsF.le_inodes f)) hc))
  have HQ := Lib.hid (FsM.src_qs g0)
  have HS := Lib.hid (App.src_strs g2)
  have HI := Lib.hid g1
  obtain ⟨qa, qc, rfl⟩ := QF.form g0
  obtain ⟨ia, ic, rfl⟩ := IF.form g1
  obtain ⟨da, dc, rfl⟩ := SF.form g2
  clear g0 g1 g2 hc
  obtain ⟨TK, hT⟩ : ∃ T, T = f.tick := ⟨_, rfl⟩
  obtain ⟨Q, hQ⟩ : ∃ Q, Q = f.quotas.length := ⟨_, rfl⟩
  obtain ⟨M, hM⟩ : ∃ M, M = f.inodes.length := ⟨_, rfl⟩
  obtain ⟨D, hD⟩ : ∃ D, D = f.data.length := ⟨_, rfl⟩
  rw [← hQ] at HQ hb0
  rw [← hM] at HI hb1
  rw [← hD] at HS hb2
  rw [← hT, ← hQ, ← hM, ← hD]
  have HT := Lib.hid hT
  have HLQ := Lib.hid hQ
  have HLM := Lib.hid hM
  have HLD := Lib.hid hD
  clear hT hQ hM hD
  have HB0 := Lib.hid (((Below.refl w.heap.size w).alloc (Nat.le_refl _) (.cells #[.int .i64 TK, .slice qa Q qc, .slice ia M ic, .slice da D dc] 33)).alloc (by simp) (.cells #[.int .i64 0, .slice none 0 0, .slice none 0 0, .slice none 0 0] 33))
  have BX := Lib.hid ((new w #[.int .i64 TK, .slice qa Q qc, .slice ia M ic, .slice da D dc] 33).alloc (.cells #[.int .i64 0, .slice none 0 0, .slice none 0 0, .slice none 0 0] 33))
  have BR := Lib.hid (new_at (w.alloc (.cells #[.int .i64 TK, .slice qa Q qc, .slice ia M ic, .slice da D dc] 33)) #[.int .i64 0, .slice none 0 0, .slice none 0 0, .slice none 0 0] 33 (w.heap.size + 1) (by simp))
  have HS0 := Lib.hid (show ((w.alloc (.cells #[.int .i64 TK, .slice qa Q qc, .slice ia M ic, .slice da D dc] 33)).alloc (.cells #[.int .i64 0, .slice none 0 0, .slice none 0 0, .slice none 0 0] 33)).heap.size = w.heap.size + 1 + 1 from by simp)
  go_enter Tryz.func61, Tryz.ntmps61
  go_wp2
  generalize (w.alloc (.cells #[.int .i64 TK, .slice qa Q qc, .slice ia M ic, .slice da D dc] 33)).alloc (.cells #[.int .i64 0, .slice none 0 0, .slice none 0 0, .slice none 0 0] 33) = w0 at *
  have hsz := HS0.out
  have HC := Lib.hid (Below.refl w0.heap.size w0)
  have l0 : ¬ w.heap.size = w0.heap.size := by omega
  have l0r : ¬ w0.heap.size = w.heap.size := by omega
  have l1 : ¬ w.heap.size = w0.heap.size + 1 := by omega
  have l1r : ¬ w0.heap.size + 1 = w.heap.size := by omega
  have l2 : ¬ w.heap.size = w0.heap.size + 1 + 1 := by omega
  have l2r : ¬ w0.heap.size + 1 + 1 = w.heap.size := by omega
  have l3 : ¬ w.heap.size = w.heap.size + 1 + 1 := by omega
  have l3r : ¬ w.heap.size + 1 + 1 = w.heap.size := by omega
  have l4 : ¬ w.heap.size = w.heap.size + 1 + 1 + 1 := by omega
  have l4r : ¬ w.heap.size + 1 + 1 + 1 = w.heap.size := by omega
  have l5 : ¬ w.heap.size = w.heap.size + 1 + 1 + 1 + 1 := by omega
  have l5r : ¬ w.heap.size + 1 + 1 + 1 + 1 = w.heap.size := by omega
  obtain ⟨x0, x1, x2, x3⟩ := Bk.c4 BX.out
  refine Code.wp_mono (Q := NoPanic fun e a W => e = .normal ∧ ∃ (x4 x5 x6 x7 x8 x9 x10 x11 x12 x13 x14 x15 x16 q d : Value) (b : Nat), a = { tmps := #[.agg #[.int .i64 TK, .slice qa Q qc, .slice ia M ic, .slice da D dc], .pointer (some ⟨w.heap.size, 0, none⟩), .pointer (some ⟨w.heap.size + 1, 0, none⟩), .pointer (some ⟨b, 0, none⟩), x4, x5, x6, x7, x8, x9, x10, x11, x12, x13, x14, x15, x16, undef, undef, undef, undef, undef, undef, undef, undef, undef, undef, undef, undef, undef, undef, undef, undef], defers := [] } ∧ Pre0 w0 W b TK Q D q d f) ?mid ?reg
  case mid =>
    rintro e a W hq
    obtain ⟨rfl, x4, x5, x6, x7, x8, x9, x10, x11, x12, x13, x14, x15, x16, q, d, b, rfl, hpre⟩ := NoPanic.imp _ _ _ hq
    clear hq
    have HX1 := Lib.hid (BX.out.all hpre.2.2.2.2)
    have HR1 := Lib.hid (BR.out.all hpre.2.2.2.2)
    have HSQ := Lib.hid (Dk.slice_of hpre.2.2.1)
    have HSD := Lib.hid (Dk.slice_of hpre.2.2.2.1)
    have HL0 := Lib.hid (lp_zero hpre)
    have HLO := Lib.hid hpre.2.1
    obtain ⟨m0, m1, m2, m3⟩ := Bk.c4 HX1.out
    clear hpre m0 m1 m3 x0 x1 x2 x3
    go_wp2
    clear m2
    go_loopw [20] (fun iv wr => ∃ (i : Nat) (r : Value) (es : List IF.El), i ≤ M ∧ iv = .int .i64 i ∧ LP w0 b TK Q D q d f i r es wr) (fun iv _ => M - (intOf iv).toNat)
    case atStart => exact ⟨0, _, _, Nat.zero_le _, rfl, HL0.out⟩
    case round =>
      obtain ⟨i, r, es, hi, rfl, hrel⟩ := hrel
      have HRR := Lib.hid hrel
      have HBR := Lib.hid hrel.2.2.2.2.2.2.2.2
      have hszr : w0.heap.size ≤ wr.heap.size := HBR.out.size
      clear hrel
      by_cases hlt : i < M
      · have HLX := Lib.hid (show i < f.inodes.length by rw [← HLM.out]; exact hlt)
        obtain ⟨a', cap', e', _, hat⟩ := HI.out
        obtain ⟨bI, oI, ea, hbI, rr0, rr1, rr2, hC, hP⟩ := hat i HLX.out
        simp only [Value.slice.injEq] at e'
        obtain ⟨e1', e2', e3'⟩ := e'
        clear e2' e3'
        subst e1'
        subst ea
        clear hat
        obtain ⟨n, hn⟩ : ∃ n, n = f.inodes.getD i IF.z0 := ⟨_, rfl⟩
        rw [← hn] at hC hP
        have HCX := Lib.hid (show In.cost n ≤ 1073741824 by rw [hn]; exact HCI.out _ (IF.mem_getD HLX.out))
        have HN := Lib.hid hn
        have hww : Below w.heap.size w wr := HB0.out.trans (HBR.out.mono HB0.out.size)
        have hPW := IF.parts_below hP hww
        obtain ⟨d0, d1, d2, d3, d4, d5, d6, d7, d8, d9⟩ := hC.below hbI hww
        obtain ⟨p0, p1, p2⟩ := id hPW
        obtain ⟨b0, e0, rfl⟩ := NiF.form p0
        obtain ⟨b1, e1, rfl⟩ := AeF.form p1
        obtain ⟨b2, e2, rfl⟩ := AeF.form p2
        have HHX := Lib.hid (IF.parts_holds hPW)
        clear p0 p1 p2 hP hPW hC hn hww hbI
        have HLA := Lib.hid (lp_below HRR.out ((Below.refl wr.heap.size wr).alloc (Nat.le_refl _) (.cells #[.int .i64 n.kind, .int .i64 n.mode, .int .i64 n.uid, .int .i64 n.gid, .int .i64 n.links, .int .i64 n.size, .int .i64 n.tick, .slice b0 n.blocks.length e0, .slice b1 n.acl.length e1, .slice b2 n.dflt.length e2] 89)))
        have HBA := Lib.hid ((Below.refl wr.heap.size wr).alloc (Nat.le_refl _) (.cells #[.int .i64 n.kind, .int .i64 n.mode, .int .i64 n.uid, .int .i64 n.gid, .int .i64 n.links, .int .i64 n.size, .int .i64 n.tick, .slice b0 n.blocks.length e0, .slice b1 n.acl.length e1, .slice b2 n.dflt.length e2] 89))
        have HNB := Lib.hid (new wr #[.int .i64 n.kind, .int .i64 n.mode, .int .i64 n.uid, .int .i64 n.gid, .int .i64 n.links, .int .i64 n.size, .int .i64 n.tick, .slice b0 n.blocks.length e0, .slice b1 n.acl.length e1, .slice b2 n.dflt.length e2] 89)
        have HHA := Lib.hid (In.holds_below HHX.out ((Below.refl wr.heap.size wr).alloc (Nat.le_refl _) (.cells #[.int .i64 n.kind, .int .i64 n.mode, .int .i64 n.uid, .int .i64 n.gid, .int .i64 n.links, .int .i64 n.size, .int .i64 n.tick, .slice b0 n.blocks.length e0, .slice b1 n.acl.length e1, .slice b2 n.dflt.length e2] 89)))
        go_wp2
        clear d0 d1 d2 d3 d4 d5 d6 d7 d8 d9
        generalize wr.alloc (.cells #[.int .i64 n.kind, .int .i64 n.mode, .int .i64 n.uid, .int .i64 n.gid, .int .i64 n.links, .int .i64 n.size, .int .i64 n.tick, .slice b0 n.blocks.length e0, .slice b1 n.acl.length e1, .slice b2 n.dflt.length e2] 89) = wa at *
        have c2 : wa.cell? ⟨b, 2, none⟩ = some r := HLA.out.1.cell 2
        obtain ⟨m0, m1, m2, m3, m4, m5, m6, m7, m8, m9⟩ := Bk.c10 HNB.out
        go_region_law (first
            | (go_simp; go_at_call 109; ((with_reducible refine (inode_spec _ _ n HCX.out ?_).mono ?_)); (first | exact HHA.out | exact In.holds_below HHA.out (Below.drew (Below.refl _ _))); rintro e w2 ⟨y', T, rfl, hown, hb2⟩; obtain ⟨t0, t1, t2, T0, T1, T2, rfl, hTT, hTn, ho0, ho1, ho2⟩ := id hown; obtain ⟨ya0, yc0, rfl⟩ := NiF.own_form ho0; obtain ⟨ya1, yc1, rfl⟩ := AeF.own_form ho1; obtain ⟨ya2, yc2, rfl⟩ := AeF.own_form ho2; have HOW := Lib.hid hown; have HB2 := Lib.hid hb2.size; have HL2 := Lib.hid (lp_below HLA.out (show Below wa.heap.size wa w2 from by first | exact hb2 | exact (Below.drew (Below.refl _ _)).trans hb2)); clear hown hb2 hTT hTn ho0 ho1 ho2; have c2 : w2.cell? ⟨b, 2, none⟩ = some r := HL2.out.1.cell 2; have n1 : ¬ b = w2.heap.size := (by have := HL2.out.1.lt; omega); have n2 : ¬ w2.heap.size = b := (by have := HL2.out.1.lt; omega); have c3 : (w2.alloc (.cells [.int .i64 n.kind, .int .i64 n.mode, .int .i64 n.uid, .int .i64 n.gid, .int .i64 n.links, .int .i64 n.size, .int .i64 n.tick, .slice ya0 n.blocks.length yc0, .slice ya1 n.acl.length yc1, .slice ya2 n.dflt.length yc2].toArray 89)).cell? ⟨b, 2, none⟩ = some r := (HL2.out.1.alloc _).cell 2)
            | (refine step_append_own rfl _ _ 31 rfl w0.heap.size 89 k0 (.agg #[.int .i64 0, .int .i64 0, .int .i64 0, .int .i64 0, .int .i64 0, .int .i64 0, .int .i64 0, .slice none 0 0, .slice none 0 0, .slice none 0 0]) 10 128 Tryz.underlying31 hk hx0 hx1 hx2 rfl (by decide) r i (IF.cells es) rfl ?_ ⟨w2.heap.size, 0, none⟩ 1 1 [.int .i64 n.kind, .int .i64 n.mode, .int .i64 n.uid, .int .i64 n.gid, .int .i64 n.links, .int .i64 n.size, .int .i64 n.tick, .slice ya0 n.blocks.length yc0, .slice ya1 n.acl.length yc1, .slice ya2 n.dflt.length yc2] rfl rfl ?_ ?_ ?_ ?_ ?_ ?_; (exact (by repeat (first | exact HL2.out.2.2.2.1 | (refine World.ownsRow.drew ?_) | (refine World.ownsRow.alloc ?_ _)))); (exact cells10_at _ _ _ (by first | exact new w2 _ _ | exact (Bk.drew (new w2 _ _)))); (first | (simp [Value.oneCell']; done) | (intro u hu; simp at hu; rcases hu with rfl | rfl | rfl | rfl | rfl | rfl | rfl | rfl | rfl | rfl <;> rfl)); ((unfold maxLen; omega)); (omega); ((have h1 := HB2.out; have h2 := HL2.out.2.2.2.2.2.2.2.2.size; first | omega | (simp; done) | (simp; omega))); intro v' w3 hown3 hg3 _; obtain ⟨va', vc', rfl⟩ := Dk.slice_of hown3; have HO3 := Lib.hid hown3; have HG3 := Lib.hid hg3; clear hown3 hg3; have hb3 := FoB.Bk.chg (HL2.out.1.alloc (.cells [.int .i64 n.kind, .int .i64 n.mode, .int .i64 n.uid, .int .i64 n.gid, .int .i64 n.links, .int .i64 n.size, .int .i64 n.tick, .slice ya0 n.blocks.length yc0, .slice ya1 n.acl.length yc1, .slice ya2 n.dflt.length yc2].toArray 89)) (Chg.of_grown (show (w2.alloc (.cells [.int .i64 n.kind, .int .i64 n.mode, .int .i64 n.uid, .int .i64 n.gid, .int .i64 n.links, .int .i64 n.size, .int .i64 n.tick, .slice ya0 n.blocks.length yc0, .slice ya1 n.acl.length yc1, .slice ya2 n.dflt.length yc2].toArray 89)).grownBy w3 r.ownBlock from HG3.out)) (row_nin HL2.out.2.2.2.1 HL2.out.1 (by decide)); have c2 : w3.cell? ⟨b, 2, none⟩ = some r := hb3.cell 2; have f2 := hb3.free 2; have HB3 := Lib.hid hb3; clear hb3))
        all_goals
          have hs1 : w0.heap.size ≤ wa.heap.size := Nat.le_trans hszr HBA.out.size
          have hbw : Below w2.heap.size w2 (w2.alloc (.cells [.int .i64 n.kind, .int .i64 n.mode, .int .i64 n.uid, .int .i64 n.gid, .int .i64 n.links, .int .i64 n.size, .int .i64 n.tick, .slice ya0 n.blocks.length yc0, .slice ya1 n.acl.length yc1, .slice ya2 n.dflt.length yc2].toArray 89)) := (Below.refl w2.heap.size w2).alloc (Nat.le_refl _) _
          have how : In.Own (w2.alloc (.cells [.int .i64 n.kind, .int .i64 n.mode, .int .i64 n.uid, .int .i64 n.gid, .int .i64 n.links, .int .i64 n.size, .int .i64 n.tick, .slice ya0 n.blocks.length yc0, .slice ya1 n.acl.length yc1, .slice ya2 n.dflt.length yc2].toArray 89)) w0.heap.size (.agg #[.int .i64 n.kind, .int .i64 n.mode, .int .i64 n.uid, .int .i64 n.gid, .int .i64 n.links, .int .i64 n.size, .int .i64 n.tick, .slice ya0 n.blocks.length yc0, .slice ya1 n.acl.length yc1, .slice ya2 n.dflt.length yc2]) (f.inodes.getD i IF.z0) T := by rw [← HN.out]; exact In.own_below (In.own_mono HOW.out (show w0.heap.size ≤ wa.heap.size from hs1)) hbw
          have hap : Apart (IF.fps es) T := fun k hk hh => by
            obtain ⟨e, he, hke⟩ := List.mem_flatMap.1 hk
            have h1 := (In.own_lies (HRR.out.2.2.2.2.1 e he) k hke).2
            have h2 : wa.heap.size ≤ k := (In.own_lies HOW.out k hh).1
            have h3 := HBA.out.size
            omega
          have hstep := lp_next (lp_below HL2.out hbw) HLX.out how hap (show (w2.alloc (.cells [.int .i64 n.kind, .int .i64 n.mode, .int .i64 n.uid, .int .i64 n.gid, .int .i64 n.links, .int .i64 n.size, .int .i64 n.tick, .slice ya0 n.blocks.length yc0, .slice ya1 n.acl.length yc1, .slice ya2 n.dflt.length yc2].toArray 89)).grownBy w3 r.ownBlock from HG3.out) HO3.out
          generalize w3.setCell ⟨b, 2, none⟩ (.slice va' (i + 1) vc') = w9 at hstep ⊢
          have HST := Lib.hid hstep
          clear hstep how hap hbw m0 m1 m2 m3 m4 m5 m6 m7 m8 m9 c2
          go_wp2
          go_roundw
          case rel => exact ⟨i + 1, _, _, by omega, by go_num, HST.out⟩
          case measure => simp [intOf]; omega
      · obtain rfl : i = M := by omega
        have hE := lp_end HRR.out HT.out HLQ.out HLM.out HLD.out
        have HE := Lib.hid hE
        have HR := Lib.hid (BR.out.all HBR.out)
        obtain ⟨va1, vc1, rfl⟩ := Dk.slice_of HRR.out.2.2.2.1
        obtain ⟨va0, vc0, rfl⟩ := HSQ.out
        obtain ⟨va2, vc2, rfl⟩ := HSD.out
        obtain ⟨x0, x1, x2, x3⟩ := Bk.c4 HRR.out.1
        obtain ⟨r0, r1, r2, r3⟩ := Bk.c4 HR.out
        have f0 := HR.out.free 0
        have f1 := HR.out.free 1
        have f2 := HR.out.free 2
        have f3 := HR.out.free 3
        clear hE
        go_wp2
        have hF := FoB.box4_bk HR.out (.int .i64 TK) (.slice va0 Q vc0) (.slice va1 i vc1) (.slice va2 D vc2)
        have hC := FoB.box4_chg wr (w.heap.size + 1) (.int .i64 TK) (.slice va0 Q vc0) (.slice va1 i vc1) (.slice va2 D vc2)
        unfold FoB.box4 at hF hC
        generalize ((((wr.setCell ⟨w.heap.size + 1, 0, none⟩ (.int .i64 TK)).setCell ⟨w.heap.size + 1, 1, none⟩ (.slice va0 Q vc0)).setCell ⟨w.heap.size + 1, 2, none⟩ (.slice va1 i vc1)).setCell ⟨w.heap.size + 1, 3, none⟩ (.slice va2 D vc2)) = w9 at hF hC ⊢
        obtain ⟨e0, e1, e2, e3⟩ := Bk.c4 hF
        have h0 := HS0.out
        have hS9 := FsF.own_mono (FsF.own_chg HE.out hC (fun k hk hh => by have := (FsF.own_lies HE.out k hk).1; rw [List.mem_singleton] at hh; omega)) (show w.heap.size ≤ w0.heap.size by omega)
        have hb9 := (HB0.out.trans (HBR.out.mono HB0.out.size)).trans (FoB.Chg.from hC (Nat.le_trans HB0.out.size hszr) (Nat.le_succ _))
        exact bodyPost_ret (v := .agg #[.int .i64 TK, .slice va0 Q vc0, .slice va1 i vc1, .slice va2 D vc2]) (by simp [results, Tryz.results61, go_sem, e0, e1, e2, e3]) rfl ⟨_, _, rfl, hS9, hb9⟩
  case reg =>
    go_region_held3 (fun w' => w'.cell? ⟨w.heap.size, 0, none⟩ = some (.int .i64 TK) ∧ w'.cell? ⟨w.heap.size, 1, none⟩ = some (.slice qa Q qc) ∧ w'.cell? ⟨w.heap.size, 3, none⟩ = some (.slice da D dc)) (first | exact ⟨(Bk.c4 (Bk.all BX.out (show Below w0.heap.size w0 _ from (by repeat (first | exact HC.out | (refine Below.drew ?_) | (refine bel_set ?_ (by have h7 := HW1.out; have h9 := HC.out.size; first | omega | (dsimp only; omega) | (simp; omega)) _) | (refine Below.alloc ?_ (by have := HC.out.size; first | omega | (simp; done) | (simp; omega)) _)))))).1, (Bk.c4 (Bk.all BX.out (show Below w0.heap.size w0 _ from (by repeat (first | exact HC.out | (refine Below.drew ?_) | (refine bel_set ?_ (by have h7 := HW1.out; have h9 := HC.out.size; first | omega | (dsimp only; omega) | (simp; omega)) _) | (refine Below.alloc ?_ (by have := HC.out.size; first | omega | (simp; done) | (simp; omega)) _)))))).2.1, (Bk.c4 (Bk.all BX.out (show Below w0.heap.size w0 _ from (by repeat (first | exact HC.out | (refine Below.drew ?_) | (refine bel_set ?_ (by have h7 := HW1.out; have h9 := HC.out.size; first | omega | (dsimp only; omega) | (simp; omega)) _) | (refine Below.alloc ?_ (by have := HC.out.size; first | omega | (simp; done) | (simp; omega)) _)))))).2.2.2⟩ | go_keep)
      (first | (refine step_append_fresh rfl _ _ 30 rfl w0.heap.size 113 j0 (.agg #[.int .i64 0, .int .i64 0]) 2 16 Tryz.underlying30 hj hy0 hy1 hy2 rfl (by decide) _ rfl ?c1 ?c0 Q (Qt.cells f.quotas) _ rfl ?c2 ?c3 ?c4 ?c5 ?_; (case c1 => exact (by (try simp only [heap_drew]); repeat (first | exact blk_at (by first | rfl | omega | (simp; done) | (simp; omega)) | (refine Dk.blk_alloc ?_ _)))); (case c0 => (have := HC.out.size; first | omega | (simp; done) | (simp; omega))); (case c2 => exact ClN.src_below HQ.out (show Below w.heap.size w _ from (HB0.out.trans (Below.mono (show Below w0.heap.size w0 _ from (by repeat (first | exact HC.out | (refine Below.drew ?_) | (refine bel_set ?_ (by have h7 := HW1.out; have h9 := HC.out.size; first | omega | (dsimp only; omega) | (simp; omega)) _) | (refine Below.alloc ?_ (by have := HC.out.size; first | omega | (simp; done) | (simp; omega)) _)))) (by omega))))); (case c3 => (unfold maxLen; omega)); (case c4 => omega); (case c5 => (have := HC.out.size; first | omega | (simp; done) | (simp; omega))); intro ua uc w1 hown1 hg1 hem1; have HO1 := Lib.hid hown1; have HG := Lib.hid hg1; replace HC := Lib.hid (Below.grown (show Below w0.heap.size w0 _ from (by repeat (first | exact HC.out | (refine Below.drew ?_) | (refine bel_set ?_ (by have h7 := HW1.out; have h9 := HC.out.size; first | omega | (dsimp only; omega) | (simp; omega)) _) | (refine Below.alloc ?_ (by have := HC.out.size; first | omega | (simp; done) | (simp; omega)) _)))) hg1 (by (have := HC.out.size; first | omega | (simp; done) | (simp; omega))) (fun k hk => by cases hk; (have := HC.out.size; first | omega | (simp; done) | (simp; omega)))); clear hown1 hg1 hem1; have HW1 := Lib.hid HC.out.size; obtain ⟨y0, y1, y2, y3⟩ := Bk.c4 (Bk.all BX.out HC.out); have u0 : ¬ w.heap.size = w1.heap.size := (by have h9 := HC.out.size; omega); have u0r : ¬ w1.heap.size = w.heap.size := (by have h9 := HC.out.size; omega); have u1 : ¬ w.heap.size = w1.heap.size + 1 := (by have h9 := HC.out.size; omega); have u1r : ¬ w1.heap.size + 1 = w.heap.size := (by have h9 := HC.out.size; omega); have u2 : ¬ w.heap.size = w1.heap.size + 1 + 1 := (by have h9 := HC.out.size; omega); have u2r : ¬ w1.heap.size + 1 + 1 = w.heap.size := (by have h9 := HC.out.size; omega))
              | (refine step_append_fresh rfl _ _ 24 rfl w0.heap.size 9 i0 (.string ⟨#[]⟩) 1 16 Tryz.underlying24 hi hz0 hz1 hz2 rfl (by decide) _ rfl ?c1 ?c0 D (f.data.map Value.string) _ rfl ?c2 ?c3 ?c4 ?c5 ?_; (case c1 => exact (by (try simp only [heap_drew]); repeat (first | exact blk_at (by first | rfl | omega | (simp; done) | (simp; omega)) | (refine blk_gd ?_ HG.out (by first | (simp; done) | (simp; omega) | (have h8 := HG.out.size; have h9 := HC.out.size; simp at h8 h9 ⊢; omega))) | (refine Dk.blk_alloc ?_ _)))); (case c0 => (have := HC.out.size; first | omega | (simp; done) | (simp; omega))); (case c2 => exact ClN.src_below HS.out (show Below w.heap.size w _ from (HB0.out.trans (Below.mono (show Below w0.heap.size w0 _ from (by repeat (first | exact HC.out | (refine Below.drew ?_) | (refine bel_set ?_ (by have h7 := HW1.out; have h9 := HC.out.size; first | omega | (dsimp only; omega) | (simp; omega)) _) | (refine Below.alloc ?_ (by have := HC.out.size; first | omega | (simp; done) | (simp; omega)) _)))) (by omega))))); (case c3 => (unfold maxLen; omega)); (case c4 => omega); (case c5 => (have := HC.out.size; first | omega | (simp; done) | (simp; omega))); intro va vc w2 hown2 hg2 hem2; have HO2 := Lib.hid hown2; replace HO1 := Lib.hid (kept2 hg2 hem2 (by decide) (show World.ownsRow _ w0.heap.size 113 2 (.slice ua Q uc) Q (Qt.cells f.quotas) from by repeat (first | exact HO1.out | (refine World.ownsRow.drew ?_) | (refine World.ownsRow.alloc ?_ _)))); have HG2 := Lib.hid hg2; replace HC := Lib.hid (Below.grown (show Below w0.heap.size w0 _ from (by repeat (first | exact HC.out | (refine Below.drew ?_) | (refine bel_set ?_ (by have h7 := HW1.out; have h9 := HC.out.size; first | omega | (dsimp only; omega) | (simp; omega)) _) | (refine Below.alloc ?_ (by have := HC.out.size; first | omega | (simp; done) | (simp; omega)) _)))) hg2 (by (have := HC.out.size; first | omega | (simp; done) | (simp; omega))) (fun k hk => by cases hk; (have := HC.out.size; first | omega | (simp; done) | (simp; omega)))); clear hown2 hg2 hem2; obtain ⟨p0, p1, p2, p3⟩ := Bk.c4 (Bk.all BX.out HC.out); have m1 : ¬ w.heap.size = w2.heap.size := (by have h9 := HC.out.size; omega); have m2 : ¬ w2.heap.size = w.heap.size := (by have h9 := HC.out.size; omega); (try (have BB : Bk w2 (w.heap.size + 1 + 1) #[.int .i64 0, .slice none 0 0, .slice none 0 0, .slice none 0 0] 33 := (by (show w2.heap[w.heap.size + 1 + 1]? = some _); (repeat (first | exact blk_at (by first | rfl | omega | (simp; done) | (simp; omega)) | (refine blk_gd ?_ HG2.out (by first | (simp; done) | (simp; omega) | (have h8 := HG.out.size; have h9 := HC.out.size; simp at h8 h9 ⊢; omega))) | (refine blk_gd ?_ HG.out (by first | (simp; done) | (simp; omega) | (have h8 := HG.out.size; have h9 := HC.out.size; simp at h8 h9 ⊢; omega))) | (refine Dk.blk_grown ?_ HG2.out (by first | (simp; done) | (simp; omega) | (have h8 := HG.out.size; have h9 := HC.out.size; simp at h8 h9 ⊢; omega))) | (refine Dk.blk_grown ?_ HG.out (by first | (simp; done) | (simp; omega) | (have h8 := HG.out.size; have h9 := HC.out.size; simp at h8 h9 ⊢; omega))) | (refine Dk.blk_alloc ?_ _) | (simp only [heap_drew]))); (first | done | fail)); have HBB := Lib.hid BB; have n1 : ¬ w.heap.size = w.heap.size + 1 + 1 := (by first | omega | (have h8 := HG.out.size; simp at h8; omega)); have n2 : ¬ w.heap.size + 1 + 1 = w.heap.size := (by first | omega | (have h8 := HG.out.size; simp at h8; omega)); obtain ⟨q0, q1, q2, q3⟩ := Bk.c4 BB; have f0 := BB.free 0; have f1 := BB.free 1; have f2 := BB.free 2; have f3 := BB.free 3; clear BB)); (try (have BB : Bk w2 (w.heap.size + 1 + 1 + 1) #[.int .i64 0, .slice none 0 0, .slice none 0 0, .slice none 0 0] 33 := (by (show w2.heap[w.heap.size + 1 + 1 + 1]? = some _); (repeat (first | exact blk_at (by first | rfl | omega | (simp; done) | (simp; omega)) | (refine blk_gd ?_ HG2.out (by first | (simp; done) | (simp; omega) | (have h8 := HG.out.size; have h9 := HC.out.size; simp at h8 h9 ⊢; omega))) | (refine blk_gd ?_ HG.out (by first | (simp; done) | (simp; omega) | (have h8 := HG.out.size; have h9 := HC.out.size; simp at h8 h9 ⊢; omega))) | (refine Dk.blk_grown ?_ HG2.out (by first | (simp; done) | (simp; omega) | (have h8 := HG.out.size; have h9 := HC.out.size; simp at h8 h9 ⊢; omega))) | (refine Dk.blk_grown ?_ HG.out (by first | (simp; done) | (simp; omega) | (have h8 := HG.out.size; have h9 := HC.out.size; simp at h8 h9 ⊢; omega))) | (refine Dk.blk_alloc ?_ _) | (simp only [heap_drew]))); (first | done | fail)); have HBB := Lib.hid BB; have n1 : ¬ w.heap.size = w.heap.size + 1 + 1 + 1 := (by first | omega | (have h8 := HG.out.size; simp at h8; omega)); have n2 : ¬ w.heap.size + 1 + 1 + 1 = w.heap.size := (by first | omega | (have h8 := HG.out.size; simp at h8; omega)); obtain ⟨q0, q1, q2, q3⟩ := Bk.c4 BB; have f0 := BB.free 0; have f1 := BB.free 1; have f2 := BB.free 2; have f3 := BB.free 3; clear BB)); (try (have BB : Bk w2 (w.heap.size + 1 + 1 + 1 + 1) #[.int .i64 0, .slice none 0 0, .slice none 0 0, .slice none 0 0] 33 := (by (show w2.heap[w.heap.size + 1 + 1 + 1 + 1]? = some _); (repeat (first | exact blk_at (by first | rfl | omega | (simp; done) | (simp; omega)) | (refine blk_gd ?_ HG2.out (by first | (simp; done) | (simp; omega) | (have h8 := HG.out.size; have h9 := HC.out.size; simp at h8 h9 ⊢; omega))) | (refine blk_gd ?_ HG.out (by first | (simp; done) | (simp; omega) | (have h8 := HG.out.size; have h9 := HC.out.size; simp at h8 h9 ⊢; omega))) | (refine Dk.blk_grown ?_ HG2.out (by first | (simp; done) | (simp; omega) | (have h8 := HG.out.size; have h9 := HC.out.size; simp at h8 h9 ⊢; omega))) | (refine Dk.blk_grown ?_ HG.out (by first | (simp; done) | (simp; omega) | (have h8 := HG.out.size; have h9 := HC.out.size; simp at h8 h9 ⊢; omega))) | (refine Dk.blk_alloc ?_ _) | (simp only [heap_drew]))); (first | done | fail)); have HBB := Lib.hid BB; have n1 : ¬ w.heap.size = w.heap.size + 1 + 1 + 1 + 1 := (by first | omega | (have h8 := HG.out.size; simp at h8; omega)); have n2 : ¬ w.heap.size + 1 + 1 + 1 + 1 = w.heap.size := (by first | omega | (have h8 := HG.out.size; simp at h8; omega)); obtain ⟨q0, q1, q2, q3⟩ := Bk.c4 BB; have f0 := BB.free 0; have f1 := BB.free 1; have f2 := BB.free 2; have f3 := BB.free 3; clear BB)); (try (have BB : Bk w2 (w1.heap.size) #[.int .i64 0, .slice none 0 0, .slice none 0 0, .slice none 0 0] 33 := (by (show w2.heap[w1.heap.size]? = some _); (repeat (first | exact blk_at (by first | rfl | omega | (simp; done) | (simp; omega)) | (refine blk_gd ?_ HG2.out (by first | (simp; done) | (simp; omega) | (have h8 := HG.out.size; have h9 := HC.out.size; simp at h8 h9 ⊢; omega))) | (refine blk_gd ?_ HG.out (by first | (simp; done) | (simp; omega) | (have h8 := HG.out.size; have h9 := HC.out.size; simp at h8 h9 ⊢; omega))) | (refine Dk.blk_grown ?_ HG2.out (by first | (simp; done) | (simp; omega) | (have h8 := HG.out.size; have h9 := HC.out.size; simp at h8 h9 ⊢; omega))) | (refine Dk.blk_grown ?_ HG.out (by first | (simp; done) | (simp; omega) | (have h8 := HG.out.size; have h9 := HC.out.size; simp at h8 h9 ⊢; omega))) | (refine Dk.blk_alloc ?_ _) | (simp only [heap_drew]))); (first | done | fail)); have HBB := Lib.hid BB; have n1 : ¬ w.heap.size = w1.heap.size := (by first | omega | (have h8 := HG.out.size; simp at h8; omega)); have n2 : ¬ w1.heap.size = w.heap.size := (by first | omega | (have h8 := HG.out.size; simp at h8; omega)); obtain ⟨q0, q1, q2, q3⟩ := Bk.c4 BB; have f0 := BB.free 0; have f1 := BB.free 1; have f2 := BB.free 2; have f3 := BB.free 3; clear BB)); (try (have BB : Bk w2 (w1.heap.size + 1) #[.int .i64 0, .slice none 0 0, .slice none 0 0, .slice none 0 0] 33 := (by (show w2.heap[w1.heap.size + 1]? = some _); (repeat (first | exact blk_at (by first | rfl | omega | (simp; done) | (simp; omega)) | (refine blk_gd ?_ HG2.out (by first | (simp; done) | (simp; omega) | (have h8 := HG.out.size; have h9 := HC.out.size; simp at h8 h9 ⊢; omega))) | (refine blk_gd ?_ HG.out (by first | (simp; done) | (simp; omega) | (have h8 := HG.out.size; have h9 := HC.out.size; simp at h8 h9 ⊢; omega))) | (refine Dk.blk_grown ?_ HG2.out (by first | (simp; done) | (simp; omega) | (have h8 := HG.out.size; have h9 := HC.out.size; simp at h8 h9 ⊢; omega))) | (refine Dk.blk_grown ?_ HG.out (by first | (simp; done) | (simp; omega) | (have h8 := HG.out.size; have h9 := HC.out.size; simp at h8 h9 ⊢; omega))) | (refine Dk.blk_alloc ?_ _) | (simp only [heap_drew]))); (first | done | fail)); have HBB := Lib.hid BB; have n1 : ¬ w.heap.size = w1.heap.size + 1 := (by first | omega | (have h8 := HG.out.size; simp at h8; omega)); have n2 : ¬ w1.heap.size + 1 = w.heap.size := (by first | omega | (have h8 := HG.out.size; simp at h8; omega)); obtain ⟨q0, q1, q2, q3⟩ := Bk.c4 BB; have f0 := BB.free 0; have f1 := BB.free 1; have f2 := BB.free 2; have f3 := BB.free 3; clear BB))))
    all_goals
      refine NoPanic.normal ⟨rfl, _, _, _, _, _, _, _, _, _, _, _, _, _, .slice ua Q uc, .slice va D vc, _, rfl, ?_⟩
      first
        | exact pre_mk HBB.out (by (have h7 := HW1.out; have h9 := HC.out.size; first | omega | (simp; omega))) (by repeat (first | exact HO1.out | (refine World.ownsRow.drew ?_) | (refine World.ownsRow.alloc ?_ _))) (by repeat (first | exact HO2.out | (refine World.ownsRow.drew ?_) | (refine World.ownsRow.alloc ?_ _))) (by repeat (first | exact HC.out | (refine Below.drew ?_) | (refine bel_set ?_ (by have h7 := HW1.out; have h9 := HC.out.size; first | omega | (dsimp only; omega) | (simp; omega)) _) | (refine Below.alloc ?_ (by have := HC.out.size; first | omega | (simp; done) | (simp; omega)) _)))
        | exact pre_new (by (have h7 := HW1.out; have h9 := HC.out.size; first | omega | (simp; omega))) (by repeat (first | exact HO1.out | (refine World.ownsRow.drew ?_) | (refine World.ownsRow.alloc ?_ _))) (by repeat (first | exact HO2.out | (refine World.ownsRow.drew ?_) | (refine World.ownsRow.alloc ?_ _))) (by repeat (first | exact HC.out | (refine Below.drew ?_) | (refine bel_set ?_ (by have h7 := HW1.out; have h9 := HC.out.size; first | omega | (dsimp only; omega) | (simp; omega)) _) | (refine Below.alloc ?_ (by have := HC.out.size; first | omega | (simp; done) | (simp; omega)) _)))
        | exact pre_mk (by first | exact new_at _ _ _ _ (by first | rfl | omega | (simp; done) | (simp; omega)) | (repeat (first | exact blk_at (by first | rfl | omega | (simp; done) | (simp; omega)) | (refine Dk.blk_alloc ?_ _) | (simp only [heap_drew])))) (by (have h7 := HW1.out; have h9 := HC.out.size; first | omega | (simp; omega))) (by repeat (first | exact HO1.out | (refine World.ownsRow.drew ?_) | (refine World.ownsRow.alloc ?_ _))) (by repeat (first | exact HO2.out | (refine World.ownsRow.drew ?_) | (refine World.ownsRow.alloc ?_ _))) (by repeat (first | exact HC.out | (refine Below.drew ?_) | (refine bel_set ?_ (by have h7 := HW1.out; have h9 := HC.out.size; first | omega | (dsimp only; omega) | (simp; omega)) _) | (refine Below.alloc ?_ (by have := HC.out.size; first | omega | (simp; done) | (simp; omega)) _)))
end Go.Proofs.YthppbcnejapbiaaGreatDoor.CoS
