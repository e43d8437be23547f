/- Contracts: the model's copies of a list of entries, of an inode, of a file system. Conditions: the lengths, the cost. -/
import Derived.Test.YtafmpllkehbmeaaGreatDoorClN
import Derived.Test.YtafmpllkehbmeaaGreatDoorFoB
import Derived.Test.YtafmpllkehbmeaaGreatDoorCpF
import Derived.Deep.RegionHeld3
namespace Go.Proofs.YtafmpllkehbmeaaGreatDoor.ClS
open Go.ChangeShapes Go.WideShapes Go.ChangeAt Go.RowKit
open Foot Bx
open InoV (I)
open FsV (F)
open FoB
open App (SrcRow wpList_append_src)
set_option linter.unusedVariables false

theorem step_append_fresh {P : Program} {ops : Array Oper} {o : Oper} {a : Act} {w : World} {K : Act → World → Prop} {Q : Exit → Act → World → Prop} {E : Prop} (hgd : o.guard = none) (s x : Operand) (t : TypeId)
    (ho : o.op = .call { callee := .builtin .append, args := #[s, x], argTypes := #[t, t] })
    (base : Nat) (e : TypeId) (i : TypeInfo) (z : Value) (size bytes : Nat) (ht : P.underlying t = some (.slice e)) (hi : P.info? e = some i) (hz : i.zero = some z)
    (hsize : i.size = size) (hby : i.bytes = bytes) (hzs : z.cells.size = size) (hsz : 0 < size)
    (g : Nat) (hs : a.eval s = .slice (some ⟨g, 0, none⟩) 0 0) (hemp : w.heap[g]? = some (.cells #[] e (0, 0))) (hge : base ≤ g)
    (m : Nat) (news : List Value) (xv : Value) (hxv : a.eval x = xv) (hsrc : SrcRow w size xv m news)
    (h63 : m ≤ maxLen) (hbytes : m * bytes ≤ 140737488355328) (hbase : base ≤ w.heap.size)
    (h : ∀ a' c' w', w'.ownsRow base e size (.slice a' m c') m news → w.grownBy w' (some g) → w.heap[g]? = some (.cells #[] e (0, 0)) → K (a.put o.dst (.slice a' m c')) w') :
    if Region.wanted o (yielded ops a.tmps) = true then Oper.wp P o a w K Q else E := by
  subst hxv
  refine FsM.step_append_src hgd s x t ho base e i z size bytes ht hi hz hsize hby hzs hsz _ 0 [] hs (FsM.empty_own hemp hge) m news hsrc (by omega) (by rw [Nat.zero_add]; exact hbytes) hbase fun a' c' w' h1 h2 => ?_
  have hh := h a' c' w' (by simpa using h1) (by simpa [Value.ownBlock] using h2) hemp
  rw [Nat.zero_add]
  exact hh
theorem heap_drew (w : World) : w.drew.heap = w.heap := rfl
theorem kept2 {W w2 : World} {base g : Nat} {e e' : TypeId} {size : Nat} {v : Value} {n : Nat} {xs : List Value} (hg : W.grownBy w2 (some g)) (hem : W.heap[g]? = some (.cells #[] e' (0, 0))) (hne : e ≠ e') (ho : W.ownsRow base e size v n xs) : w2.ownsRow base e size v n xs :=
  ho.kept hg (Dk.own_two ho (FsM.empty_own (size := 1) hem (Nat.zero_le _)) hne)
theorem blk_gd {w w' : World} {row : Option Nat} {b : Nat} {o : Obj} (h : w.heap[b]? = some o) (hg : w.drew.grownBy w' row) (hne : some b ≠ row) : w'.heap[b]? = some o := Dk.blk_grown (w := w.drew) h hg hne
theorem blk_at {w : World} {o : Obj} {b : Nat} (h : b = w.heap.size) : (w.alloc o).heap[b]? = some o := by subst h; exact Dk.blk_new w o

theorem apart_box {U : List Nat} {B hi b : Nat} (h : Lies U B hi) (hb : b < B) : Apart U [b] := fun k hk hh => by have := h k hk; simp at hh; omega
theorem nd3 {A B C : List Nat} {x y : Nat} (hA : A.Nodup) (hB : B.Nodup) (hC : C.Nodup) (la : ∀ k ∈ A, k < x) (lb : ∀ k ∈ B, x ≤ k ∧ k < y) (lc : ∀ k ∈ C, y ≤ k) (hxy : x ≤ y) : (A ++ B ++ C).Nodup := by
  refine List.nodup_append.2 ⟨List.nodup_append.2 ⟨hA, hB, fun a ha b hb => ?_⟩, hC, fun a ha c hc => ?_⟩
  · have := la a ha; have := lb b hb; omega
  · have h3 := lc c hc
    rcases List.mem_append.1 ha with h | h
    · have := la a h; omega
    · have := lb a h; omega

set_option maxRecDepth 100000 in
set_option maxHeartbeats 1600000 in
theorem acl_spec (w : World) (v : Value) (xs : List AclV.At) (hlen : xs.length ≤ 1073741824) (h : AeF.Holds w v xs) :
    Calls Tryz.prog 201 #[v] w fun e w' => ∃ v', e = .returned v' ∧ AeF.Own w' w.heap.size v' xs (fpR v') ∧ Below w.heap.size w w' := by
  obtain ⟨i0, hi, hz0, hz1, hz2⟩ := info_parts Ae.info
  have HS := Lib.hid (ClN.src_ae h)
  obtain ⟨a, cap, rfl, hc⟩ := h
  clear hc
  obtain ⟨L, hL⟩ : ∃ L, L = xs.length := ⟨_, rfl⟩
  rw [← hL] at HS hlen ⊢
  have HL := Lib.hid hL
  clear hL
  go_enter Tryz.func201, Tryz.ntmps201
  go_wp2_with (at_builtin; refine wpList_append_src rfl _ _ 32 rfl w.heap.size 137 i0 (.agg #[.int .i64 0, .int .i64 0, .int .i64 0]) 3 24 Tryz.underlying32 hi hz0 hz1 hz2 rfl (by decide) _ 0 [] rfl (World.ownsRow_made w #[] 0 (Nat.le_refl _) (Nat.zero_le _) rfl) L (Ae.cells xs) ?c1 ?c2 ?c3 ?c4 ?_)
  case c1 => exact HS.out.below (fun p u hp => by rw [World.cell?_alloc_some _ _ _ (by rw [hp]; rfl)]; exact hp)
  case c2 => unfold maxLen; omega
  case c3 => omega
  case c4 => simp
  intro a' c' w1 hown1 hg1
  have HO := Lib.hid hown1
  have HB := Lib.hid (show Below w.heap.size w w1 from ((Below.refl w.heap.size w).alloc (Nat.le_refl _) _).grown hg1 (by simp) (fun k hk => by simp [Value.ownBlock] at hk; omega))
  clear hown1 hg1
  go_wp2
  go_ret
  refine ⟨_, rfl, ⟨?_, rfl⟩, HB.out⟩
  rw [← HL.out]
  have := HO.out
  simpa using this

set_option maxRecDepth 100000 in
set_option maxHeartbeats 6400000 in
theorem inode_row (w : World) (v : Value) (n : I) (hc : In.cost n ≤ 1073741824) (h : In.Holds w v n) :
    Calls Tryz.prog 157 #[v] w fun e w' => ∃ (a' : Option Addr) (c' : Nat) (b1 : Option Addr) (e1 : Nat) (b2 : Option Addr) (e2 : Nat), e = .returned (.agg #[.int .i64 n.kind, .int .i64 n.mode, .int .i64 n.uid, .int .i64 n.gid, .int .i64 n.links, .int .i64 n.size, .int .i64 n.tick, .slice a' n.blocks.length c', .slice b1 n.acl.length e1, .slice b2 n.dflt.length e2]) ∧ w'.ownsRow w.heap.size 3 1 (.slice a' n.blocks.length c') n.blocks.length (NiF.cells n.blocks) ∧ AeF.Own w' w.heap.size (.slice b1 n.acl.length e1) n.acl (fpR (.slice b1 n.acl.length e1)) ∧ AeF.Own w' w.heap.size (.slice b2 n.dflt.length e2) n.dflt (fpR (.slice b2 n.dflt.length e2)) ∧ (fpR (.slice a' n.blocks.length c') ++ fpR (.slice b1 n.acl.length e1) ++ fpR (.slice b2 n.dflt.length e2)).Nodup ∧ Below w.heap.size w w' := by
  obtain ⟨i0, hi, hz0, hz1, hz2⟩ := info_parts Ni.intInfo
  obtain ⟨r0, r1, r2, rfl, g0, g1, g2⟩ := h
  have hb0 := Nat.le_trans (In.le_blocks n) hc
  have hb1 := Nat.le_trans (In.le_acl n) hc
  have hb2 := Nat.le_trans (In.le_dflt n) hc
  have HS := Lib.hid (ClN.src_ni g0)
  have HA := Lib.hid (fun (W : World) (hw : Below w.heap.size w W) => acl_spec W _ n.acl hb1 (AeF.holds_below g1 hw))
  have HD := Lib.hid (fun (W : World) (hw : Below w.heap.size w W) => acl_spec W _ n.dflt hb2 (AeF.holds_below g2 hw))
  obtain ⟨a0, d0, rfl⟩ := NiF.form g0
  obtain ⟨a1, d1, rfl⟩ := AeF.form g1
  obtain ⟨a2, d2, rfl⟩ := AeF.form g2
  clear g0 g1 g2 hb1 hb2 hc
  obtain ⟨L, hL⟩ : ∃ L, L = n.blocks.length := ⟨_, rfl⟩
  rw [← hL] at HS ⊢
  rw [show NiF.cost n.blocks = n.blocks.length from rfl, ← hL] at hb0
  have HL := Lib.hid hL
  clear hL
  have HB0 := Lib.hid (((Below.refl w.heap.size w).alloc (Nat.le_refl _) (.cells #[.int .i64 n.kind, .int .i64 n.mode, .int .i64 n.uid, .int .i64 n.gid, .int .i64 n.links, .int .i64 n.size, .int .i64 n.tick, .slice a0 L d0, .slice a1 n.acl.length d1, .slice a2 n.dflt.length d2] 34)).alloc (by simp) (.cells #[.int .i64 0, .int .i64 0, .int .i64 0, .int .i64 0, .int .i64 0, .int .i64 0, .int .i64 0, .slice none 0 0, .slice none 0 0, .slice none 0 0] 34))
  have HX0 := Lib.hid ((new w #[.int .i64 n.kind, .int .i64 n.mode, .int .i64 n.uid, .int .i64 n.gid, .int .i64 n.links, .int .i64 n.size, .int .i64 n.tick, .slice a0 L d0, .slice a1 n.acl.length d1, .slice a2 n.dflt.length d2] 34).alloc (.cells #[.int .i64 0, .int .i64 0, .int .i64 0, .int .i64 0, .int .i64 0, .int .i64 0, .int .i64 0, .slice none 0 0, .slice none 0 0, .slice none 0 0] 34))
  have HR0 := Lib.hid (new_at (w.alloc (.cells #[.int .i64 n.kind, .int .i64 n.mode, .int .i64 n.uid, .int .i64 n.gid, .int .i64 n.links, .int .i64 n.size, .int .i64 n.tick, .slice a0 L d0, .slice a1 n.acl.length d1, .slice a2 n.dflt.length d2] 34)) #[.int .i64 0, .int .i64 0, .int .i64 0, .int .i64 0, .int .i64 0, .int .i64 0, .int .i64 0, .slice none 0 0, .slice none 0 0, .slice none 0 0] 34 (w.heap.size + 1) (by simp))
  have HS0 := Lib.hid (show w.heap.size + 1 + 1 = ((w.alloc (.cells #[.int .i64 n.kind, .int .i64 n.mode, .int .i64 n.uid, .int .i64 n.gid, .int .i64 n.links, .int .i64 n.size, .int .i64 n.tick, .slice a0 L d0, .slice a1 n.acl.length d1, .slice a2 n.dflt.length d2] 34)).alloc (.cells #[.int .i64 0, .int .i64 0, .int .i64 0, .int .i64 0, .int .i64 0, .int .i64 0, .int .i64 0, .slice none 0 0, .slice none 0 0, .slice none 0 0] 34)).heap.size from by simp)
  go_enter Tryz.func157, Tryz.ntmps157
  go_wp2_with (at_builtin; go_loud (refine wpList_append_src rfl _ _ 31 rfl (w.heap.size + 1 + 1) 3 i0 (.int .i64 0) 1 8 Tryz.underlying31 hi hz0 hz1 hz2 rfl (by decide) _ 0 [] rfl (FsM.empty_own (b := w.heap.size + 1 + 1) ?c0 ?c5) L (NiF.cells n.blocks) ?c1 ?c2 ?c3 ?c4 ?_))
  case c0 => exact blk_at (by simp)
  case c5 => omega
  case c1 => exact ClN.src_below HS.out (HB0.out.alloc (Nat.le_trans (by omega) (Nat.le_of_eq HS0.out)) _)
  case c2 => unfold maxLen; omega
  case c3 => omega
  case c4 => have := HS0.out; rw [World.size_alloc]; omega
  generalize (w.alloc (.cells #[.int .i64 n.kind, .int .i64 n.mode, .int .i64 n.uid, .int .i64 n.gid, .int .i64 n.links, .int .i64 n.size, .int .i64 n.tick, .slice a0 L d0, .slice a1 n.acl.length d1, .slice a2 n.dflt.length d2] 34)).alloc (.cells #[.int .i64 0, .int .i64 0, .int .i64 0, .int .i64 0, .int .i64 0, .int .i64 0, .int .i64 0, .slice none 0 0, .slice none 0 0, .slice none 0 0] 34) = w0 at *
  intro a' c' w1 hown1 hg1
  have h01 : Below w0.heap.size w0 w1 := ((Below.refl w0.heap.size w0).alloc (Nat.le_refl _) _).grown hg1 (by simp) (fun k hk => by simp [Value.ownBlock] at hk; have := HS0.out; omega)

  have HO1 := Lib.hid hown1
  have HB1 := Lib.hid (HB0.out.trans (h01.mono HB0.out.size))
  have HX1 := Lib.hid (HX0.out.all h01)
  have HR1 := Lib.hid (HR0.out.all h01)
  have hs1 : w.heap.size + 1 + 1 ≤ w1.heap.size := Nat.le_trans (Nat.le_of_eq HS0.out) h01.size
  clear hown1 hg1 h01
  obtain ⟨x0, x1, x2, x3, x4, x5, x6, x7, x8, x9⟩ := Bk.c10 HX1.out
  have f7 := HX1.out.free 7
  go_wp2_with fail
  clear x0 x1 x2 x3 x4 x5 x6 x7 x8 x9 f7
  have hset : Chg w1 (w1.setCell ⟨w.heap.size, 7, none⟩ (.slice a' L c')) [w.heap.size] := chg_set w1 ⟨w.heap.size, 7, none⟩ (.slice a' L c')
  have HX2 := Lib.hid (show Bk _ w.heap.size #[.int .i64 n.kind, .int .i64 n.mode, .int .i64 n.uid, .int .i64 n.gid, .int .i64 n.links, .int .i64 n.size, .int .i64 n.tick, .slice a' L c', .slice a1 n.acl.length d1, .slice a2 n.dflt.length d2] 34 from Bk.put (l := [.int .i64 n.kind, .int .i64 n.mode, .int .i64 n.uid, .int .i64 n.gid, .int .i64 n.links, .int .i64 n.size, .int .i64 n.tick, .slice a0 L d0, .slice a1 n.acl.length d1, .slice a2 n.dflt.length d2]) HX1.out 7 (.slice a' L c'))
  have HR2 := Lib.hid (FoB.Bk.chg HR1.out hset (by simp))
  have HB2 := Lib.hid (HB1.out.trans (FoB.Chg.from hset HB1.out.size (Nat.le_refl _)))
  have HO2 := Lib.hid (row_chg HO1.out hset (apart_box (row_lies HO1.out) (by omega)))
  have hz2 := Lib.hid (hset.size)
  have hs2 : w.heap.size + 1 + 1 ≤ (w1.setCell ⟨w.heap.size, 7, none⟩ (.slice a' L c')).heap.size := Nat.le_trans hs1 hset.size
  clear hset
  generalize w1.setCell ⟨w.heap.size, 7, none⟩ (.slice a' L c') = w2 at *
  refine (HA.out _ HB2.out).mono ?_
  rintro e w3 ⟨y1, rfl, hown, hb⟩
  obtain ⟨b1, e1, rfl⟩ := AeF.own_form hown
  have HX3 := Lib.hid (HX2.out.all hb)
  have HR3 := Lib.hid (HR2.out.all hb)
  have HB3 := Lib.hid (HB2.out.trans (hb.mono HB2.out.size))
  have HO3 := Lib.hid (row_below HO2.out hb)
  have HO31 := Lib.hid hown
  have HT1 := Lib.hid hb.size
  have HN1 := Lib.hid hown
  have hs3 : w.heap.size + 1 + 1 ≤ w3.heap.size := Nat.le_trans hs2 hb.size
  clear hown hb
  obtain ⟨x0, x1, x2, x3, x4, x5, x6, x7, x8, x9⟩ := Bk.c10 HX3.out
  have f7 := HX3.out.free 8
  go_wp2_with fail
  clear x0 x1 x2 x3 x4 x5 x6 x7 x8 x9 f7
  have hset : Chg w3 (w3.setCell ⟨w.heap.size, 8, none⟩ (.slice b1 n.acl.length e1)) [w.heap.size] := chg_set w3 ⟨w.heap.size, 8, none⟩ (.slice b1 n.acl.length e1)
  have HX4 := Lib.hid (show Bk _ w.heap.size #[.int .i64 n.kind, .int .i64 n.mode, .int .i64 n.uid, .int .i64 n.gid, .int .i64 n.links, .int .i64 n.size, .int .i64 n.tick, .slice a' L c', .slice b1 n.acl.length e1, .slice a2 n.dflt.length d2] 34 from Bk.put (l := [.int .i64 n.kind, .int .i64 n.mode, .int .i64 n.uid, .int .i64 n.gid, .int .i64 n.links, .int .i64 n.size, .int .i64 n.tick, .slice a' L c', .slice a1 n.acl.length d1, .slice a2 n.dflt.length d2]) HX3.out 8 (.slice b1 n.acl.length e1))
  have HR4 := Lib.hid (FoB.Bk.chg HR3.out hset (by simp))
  have HB4 := Lib.hid (HB3.out.trans (FoB.Chg.from hset HB3.out.size (Nat.le_refl _)))
  have HO4 := Lib.hid (row_chg HO3.out hset (apart_box (row_lies HO3.out) (by omega)))
  have HO41 := Lib.hid (AeF.own_chg HO31.out hset (apart_box (AeF.own_lies HO31.out) (by omega)))
  have hz4 := Lib.hid (hset.size)
  have hs4 : w.heap.size + 1 + 1 ≤ (w3.setCell ⟨w.heap.size, 8, none⟩ (.slice b1 n.acl.length e1)).heap.size := Nat.le_trans hs3 hset.size
  clear hset
  generalize w3.setCell ⟨w.heap.size, 8, none⟩ (.slice b1 n.acl.length e1) = w4 at *
  refine (HD.out _ HB4.out).mono ?_
  rintro e w5 ⟨y2, rfl, hown, hb⟩
  obtain ⟨b2, e2, rfl⟩ := AeF.own_form hown
  have HX5 := Lib.hid (HX4.out.all hb)
  have HR5 := Lib.hid (HR4.out.all hb)
  have HB5 := Lib.hid (HB4.out.trans (hb.mono HB4.out.size))
  have HO5 := Lib.hid (row_below HO4.out hb)
  have HO51 := Lib.hid (AeF.own_below HO41.out hb)
  have HO52 := Lib.hid hown
  have HT2 := Lib.hid hb.size
  have HN2 := Lib.hid hown
  have hs5 : w.heap.size + 1 + 1 ≤ w5.heap.size := Nat.le_trans hs4 hb.size
  clear hown hb
  obtain ⟨x0, x1, x2, x3, x4, x5, x6, x7, x8, x9⟩ := Bk.c10 HX5.out
  have f7 := HX5.out.free 9
  obtain ⟨r0, r1, r2, r3, r4, r5, r6, r7, r8, r9⟩ := Bk.c10 HR5.out
  have q0 := HR5.out.free 0
  have q1 := HR5.out.free 1
  have q2 := HR5.out.free 2
  have q3 := HR5.out.free 3
  have q4 := HR5.out.free 4
  have q5 := HR5.out.free 5
  have q6 := HR5.out.free 6
  have q7 := HR5.out.free 7
  have q8 := HR5.out.free 8
  have q9 := HR5.out.free 9
  go_wp2_with fail
  have hset : Chg w5 (FoB.box10 (w5.setCell ⟨w.heap.size, 9, none⟩ (.slice b2 n.dflt.length e2)) (w.heap.size + 1) (.int .i64 n.kind) (.int .i64 n.mode) (.int .i64 n.uid) (.int .i64 n.gid) (.int .i64 n.links) (.int .i64 n.size) (.int .i64 n.tick) (.slice a' L c') (.slice b1 n.acl.length e1) (.slice b2 n.dflt.length e2)) [w.heap.size, w.heap.size + 1] :=
    Chg.trans (Chg.more (chg_set w5 ⟨w.heap.size, 9, none⟩ (.slice b2 n.dflt.length e2)) (by simp)) (Chg.more (FoB.box10_chg _ _ (.int .i64 n.kind) (.int .i64 n.mode) (.int .i64 n.uid) (.int .i64 n.gid) (.int .i64 n.links) (.int .i64 n.size) (.int .i64 n.tick) (.slice a' L c') (.slice b1 n.acl.length e1) (.slice b2 n.dflt.length e2)) (by simp))
  have hF := FoB.box10_bk (FoB.Bk.chg HR5.out (chg_set w5 ⟨w.heap.size, 9, none⟩ (.slice b2 n.dflt.length e2)) (by simp)) (.int .i64 n.kind) (.int .i64 n.mode) (.int .i64 n.uid) (.int .i64 n.gid) (.int .i64 n.links) (.int .i64 n.size) (.int .i64 n.tick) (.slice a' L c') (.slice b1 n.acl.length e1) (.slice b2 n.dflt.length e2)
  unfold FoB.box10 at hset hF
  generalize (((((((((((w5.setCell ⟨w.heap.size, 9, none⟩ (.slice b2 n.dflt.length e2)).setCell ⟨w.heap.size + 1, 0, none⟩ (.int .i64 n.kind)).setCell ⟨w.heap.size + 1, 1, none⟩ (.int .i64 n.mode)).setCell ⟨w.heap.size + 1, 2, none⟩ (.int .i64 n.uid)).setCell ⟨w.heap.size + 1, 3, none⟩ (.int .i64 n.gid)).setCell ⟨w.heap.size + 1, 4, none⟩ (.int .i64 n.links)).setCell ⟨w.heap.size + 1, 5, none⟩ (.int .i64 n.size)).setCell ⟨w.heap.size + 1, 6, none⟩ (.int .i64 n.tick)).setCell ⟨w.heap.size + 1, 7, none⟩ (.slice a' L c')).setCell ⟨w.heap.size + 1, 8, none⟩ (.slice b1 n.acl.length e1)).setCell ⟨w.heap.size + 1, 9, none⟩ (.slice b2 n.dflt.length e2)) = w6 at *
  obtain ⟨z0, z1, z2, z3, z4, z5, z6, z7, z8, z9⟩ := Bk.c10 hF
  have hap : ∀ (U : List Nat) (B hi : Nat), Lies U B hi → w.heap.size + 1 < B → Apart U [w.heap.size, w.heap.size + 1] := fun U B hi hl hB k hk hh => by have := hl k hk; simp at hh; omega
  have hnd : (fpR (.slice a' L c') ++ fpR (.slice b1 n.acl.length e1) ++ fpR (.slice b2 n.dflt.length e2)).Nodup := nd3 (fpR_nodup _) (fpR_nodup _) (fpR_nodup _) (fun k hk => Nat.lt_of_lt_of_le (row_lies HO2.out k hk).2 (Nat.le_refl _)) (fun k hk => by have h1 := AeF.own_lies HO51.out k hk; have h2 := AeF.own_lies HO41.out k hk; exact ⟨(AeF.own_lies HN1.out k hk).1, h2.2⟩) (fun k hk => (AeF.own_lies HO52.out k hk).1) (Nat.le_trans HT1.out hz4.out)
  have hr0 : w6.ownsRow w.heap.size 3 1 (.slice a' L c') L (NiF.cells n.blocks) := row_mono (row_chg HO5.out hset (hap _ _ _ (row_lies HO5.out) (by omega))) (by omega)
  have hr1 := AeF.own_mono (AeF.own_chg HO51.out hset (hap _ _ _ (AeF.own_lies HO51.out) (by omega))) (show w.heap.size ≤ _ by omega)
  have hr2 := AeF.own_mono (AeF.own_chg HO52.out hset (hap _ _ _ (AeF.own_lies HO52.out) (by omega))) (show w.heap.size ≤ _ by omega)
  have hbel := HB5.out.trans (hset.below HB5.out.size (fun k hk => by simp at hk; omega))
  refine bodyPost_ret (v := .agg #[.int .i64 n.kind, .int .i64 n.mode, .int .i64 n.uid, .int .i64 n.gid, .int .i64 n.links, .int .i64 n.size, .int .i64 n.tick, .slice a' L c', .slice b1 n.acl.length e1, .slice b2 n.dflt.length e2]) (by simp [results, Tryz.results157, go_sem, z0, z1, z2, z3, z4, z5, z6, z7, z8, z9]) rfl ?_
  exact ⟨_, _, _, _, _, _, rfl, hr0, hr1, hr2, hnd, hbel⟩

theorem inode_spec (w : World) (v : Value) (n : I) (hc : In.cost n ≤ 1073741824) (h : In.Holds w v n) :
    Calls Tryz.prog 157 #[v] w fun e w' => ∃ v' S, e = .returned v' ∧ In.Own w' w.heap.size v' n S ∧ Below w.heap.size w w' := by
  refine (inode_row w v n hc h).mono ?_
  rintro e w' ⟨a', c', b1, e1, b2, e2, rfl, h0, h1, h2, hnd, hb⟩
  exact ⟨_, _, rfl, ⟨_, _, _, _, _, _, rfl, rfl, hnd, NiF.own_of h0, h1, h2⟩, hb⟩
end Go.Proofs.YtafmpllkehbmeaaGreatDoor.ClS
