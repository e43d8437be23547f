/- Contract: the program's withSize gives a copy of the inode with another size and as many blocks as it needs, the new ones holes. Conditions: the lengths, the size. -/
import Derived.Test.YtafmpllkehbmeaaGreatDoorCpI
import Derived.Test.YtafmpllkehbmeaaGreatDoorInEq
import Derived.Test.YtafmpllkehbmeaaGreatDoorFsZr
namespace Go.Proofs.YtafmpllkehbmeaaGreatDoor.CoW
open Go.ChangeShapes Go.WideShapes Go.ChangeAt Go.RowKit
open Foot Bx
open InoV (I needV)
open FsY FsZ FoB
set_option linter.unusedVariables false

/-- Holes behind a list: j of them. -/
def grown (l : List Int) (j : Nat) : List Int := l ++ List.replicate j (-1)
theorem grown_zero (l : List Int) : grown l 0 = l := by simp [grown]
theorem grown_succ (l : List Int) (j : Nat) : NiF.cells (grown l (j + 1)) = NiF.cells (grown l j) ++ [.int .i64 (-1)] := by
  simp [grown, NiF.cells, List.replicate_succ']
theorem grown_holes {l : List Int} {m j : Nat} (h : l.length + j = max l.length m) : (grown l j).take m = holes l m := by
  rw [grown, holes, show j = m - l.length from by omega]
theorem cells_take (l : List Int) (m : Nat) : NiF.cells (l.take m) = (NiF.cells l).take m := by simp [NiF.cells, List.map_take]
/-- A row cut: fewer elements, a smaller capacity. -/
theorem own_cut {w : World} {base : Nat} {a : Option Addr} {c c1 m n : Nat} {l : List Int} (h : w.ownsRow base 3 1 (.slice a n c) n (NiF.cells l)) (hm : m ≤ n) (h1 : m ≤ c1) (h2 : c1 ≤ c) : NiF.Own w base (.slice a m c1) (l.take m) (fpR (.slice a m c1)) := by
  have hl : l.length = n := by have := h.1; simpa [NiF.cells] using this
  have hlt : (l.take m).length = m := by rw [List.length_take]; omega
  refine ⟨⟨a, c1, c, by rw [hlt], by rw [hlt]; exact h1, h2, ?_⟩, rfl⟩
  rw [hlt]
  rcases h.2 with ⟨hv, h0⟩ | ⟨g, cap, cur, hv, hb, hg, hn, hc, hs, ht⟩
  · rw [Value.slice.injEq] at hv
    obtain ⟨rfl, h3, rfl⟩ := hv
    obtain rfl : m = 0 := by omega
    exact ⟨by simp [NiF.cells], .inl ⟨rfl, rfl⟩⟩
  · rw [Value.slice.injEq] at hv
    obtain ⟨rfl, _, rfl⟩ := hv
    refine ⟨by simp [NiF.cells]; omega, .inr ⟨g, c, cur, rfl, hb, hg, by omega, hc, hs, ?_⟩⟩
    rw [cells_take, ← ht, List.take_take]
    congr 1; omega

/-- The box while holes are appended. -/
def Rel (w : World) (n : I) (SZ : Int) (v1 v2 : Value) (j : Nat) (W : World) : Prop :=
  ∃ (a : Option Addr) (c : Nat), Bk W w.heap.size #[.int .i64 n.kind, .int .i64 n.mode, .int .i64 n.uid, .int .i64 n.gid, .int .i64 n.links, .int .i64 SZ, .int .i64 n.tick, .slice a (n.blocks.length + j) c, v1, v2] 34 ∧
  W.ownsRow (w.heap.size + 1 + 1) 3 1 (.slice a (n.blocks.length + j) c) (n.blocks.length + j) (NiF.cells (grown n.blocks j)) ∧
  Bk W (w.heap.size + 1) #[.int .i64 0, .int .i64 0, .int .i64 0, .int .i64 0, .int .i64 0, .int .i64 0, .int .i64 0, .slice none 0 0, .slice none 0 0, .slice none 0 0] 34 ∧ AeF.Own W (w.heap.size + 1 + 1) v1 n.acl (fpR v1) ∧ AeF.Own W (w.heap.size + 1 + 1) v2 n.dflt (fpR v2) ∧ Below w.heap.size w W
def lenAt (w : World) (b : Nat) : Nat := match w.cell? ⟨b, 7, none⟩ with | some (.slice _ l _) => l | _ => 0
theorem len_of {w : World} {n : I} {SZ : Int} {v1 v2 : Value} {j : Nat} {W : World} (h : Rel w n SZ v1 v2 j W) : lenAt W w.heap.size = n.blocks.length + j := by
  obtain ⟨a, c, h1, _⟩ := h
  unfold lenAt
  have : W.cell? ⟨w.heap.size, 7, none⟩ = some (.slice a (n.blocks.length + j) c) := h1.cell 7
  rw [this]
theorem row_wide {w : World} {base n : Nat} {a : Option Addr} {c' : Nat} {xs : List Value} (h : w.ownsRow base 3 1 (.slice a n c') n xs) : n ≤ c' := by
  rcases h.2 with ⟨hv, h0⟩ | ⟨g, cap, cur, hv, _, _, hn, _⟩
  · omega
  · rw [Value.slice.injEq] at hv; omega

set_option maxRecDepth 100000 in
set_option maxHeartbeats 6400000 in
theorem size_impl (w : World) (v : Value) (n : I) (SZ : Int) (hs0 : 0 ≤ SZ) (hs1 : SZ ≤ 256) (hc : In.cost n ≤ 1073741824) (h : In.Holds w v n) :
    Calls Tryz.prog 60 #[v, .int .i64 SZ] w fun e w' => ∃ v' S, e = .returned v' ∧ In.Own w' w.heap.size v' (sized n SZ) S ∧ Below w.heap.size w w' := by
  have HIN := Lib.hid h
  have HCC := Lib.hid hc
  obtain ⟨r0, r1, r2, rfl, g0, g1, g2⟩ := h
  obtain ⟨a0, d0, rfl⟩ := NiF.form g0
  obtain ⟨a1, d1, rfl⟩ := AeF.form g1
  obtain ⟨a2, d2, rfl⟩ := AeF.form g2
  clear g0 g1 g2
  obtain ⟨K0, K1, K2, K3, K4, K5, K6, hK⟩ : ∃ K0 K1 K2 K3 K4 K5 K6, K0 = n.kind ∧ K1 = n.mode ∧ K2 = n.uid ∧ K3 = n.gid ∧ K4 = n.links ∧ K5 = n.size ∧ K6 = n.tick := ⟨_, _, _, _, _, _, _, rfl, rfl, rfl, rfl, rfl, rfl, rfl⟩
  have HK := Lib.hid hK
  obtain ⟨k0, k1, k2, k3, k4, k5, k6⟩ := hK
  rw [← k0, ← k1, ← k2, ← k3, ← k4, ← k5, ← k6] at HIN ⊢
  clear k0 k1 k2 k3 k4 k5 k6
  obtain ⟨L0, hL0⟩ : ∃ L, L = n.blocks.length := ⟨_, rfl⟩
  obtain ⟨L1, hL1⟩ : ∃ L, L = n.acl.length := ⟨_, rfl⟩
  obtain ⟨L2, hL2⟩ : ∃ L, L = n.dflt.length := ⟨_, rfl⟩
  have hL0b : L0 ≤ 1073741824 := by rw [hL0]; exact Nat.le_trans (In.le_blocks n) hc
  rw [← hL0, ← hL1, ← hL2] at HIN ⊢
  have HL0 := Lib.hid hL0
  have HL1 := Lib.hid hL1
  have HL2 := Lib.hid hL2
  clear hL0 hL1 hL2 hc
  have HB := Lib.hid (((Below.refl w.heap.size w).alloc (Nat.le_refl _) (.cells #[.int .i64 K0, .int .i64 K1, .int .i64 K2, .int .i64 K3, .int .i64 K4, .int .i64 K5, .int .i64 K6, .slice a0 L0 d0, .slice a1 L1 d1, .slice a2 L2 d2] 34)).alloc (by simp) (.cells #[.int .i64 0, .int .i64 0, .int .i64 0, .int .i64 0, .int .i64 0, .int .i64 0, .int .i64 0, .slice none 0 0, .slice none 0 0, .slice none 0 0] 34))
  have HX := Lib.hid ((new w #[.int .i64 K0, .int .i64 K1, .int .i64 K2, .int .i64 K3, .int .i64 K4, .int .i64 K5, .int .i64 K6, .slice a0 L0 d0, .slice a1 L1 d1, .slice a2 L2 d2] 34).alloc (.cells #[.int .i64 0, .int .i64 0, .int .i64 0, .int .i64 0, .int .i64 0, .int .i64 0, .int .i64 0, .slice none 0 0, .slice none 0 0, .slice none 0 0] 34))
  have HR := Lib.hid (new_at (w.alloc (.cells #[.int .i64 K0, .int .i64 K1, .int .i64 K2, .int .i64 K3, .int .i64 K4, .int .i64 K5, .int .i64 K6, .slice a0 L0 d0, .slice a1 L1 d1, .slice a2 L2 d2] 34)) #[.int .i64 0, .int .i64 0, .int .i64 0, .int .i64 0, .int .i64 0, .int .i64 0, .int .i64 0, .slice none 0 0, .slice none 0 0, .slice none 0 0] 34 (w.heap.size + 1) (by simp))
  have hsz0 : w.heap.size + 1 + 1 ≤ ((w.alloc (.cells #[.int .i64 K0, .int .i64 K1, .int .i64 K2, .int .i64 K3, .int .i64 K4, .int .i64 K5, .int .i64 K6, .slice a0 L0 d0, .slice a1 L1 d1, .slice a2 L2 d2] 34)).alloc (.cells #[.int .i64 0, .int .i64 0, .int .i64 0, .int .i64 0, .int .i64 0, .int .i64 0, .int .i64 0, .slice none 0 0, .slice none 0 0, .slice none 0 0] 34)).heap.size := by simp
  go_enter Tryz.func60, Tryz.ntmps60
  go_wp2_with fail
  generalize (w.alloc (.cells #[.int .i64 K0, .int .i64 K1, .int .i64 K2, .int .i64 K3, .int .i64 K4, .int .i64 K5, .int .i64 K6, .slice a0 L0 d0, .slice a1 L1 d1, .slice a2 L2 d2] 34)).alloc (.cells #[.int .i64 0, .int .i64 0, .int .i64 0, .int .i64 0, .int .i64 0, .int .i64 0, .int .i64 0, .slice none 0 0, .slice none 0 0, .slice none 0 0] 34) = w0 at *
  refine (CpI.copyT_impl _ _ n HCC.out (In.holds_below HIN.out HB.out)).mono ?_
  rintro e w1 ⟨t0, t1, t2, rfl, o0, o1, o2, hnd, hb⟩
  have HB1 := Lib.hid (HB.out.trans (hb.mono HB.out.size))
  have HX1 := Lib.hid (HX.out.all hb)
  have HR1 := Lib.hid (HR.out.all hb)
  have HS1 := Lib.hid hb.size
  obtain ⟨y0, z0, rfl⟩ := Dk.slice_of o0
  obtain ⟨y1, z1, rfl⟩ := AeF.own_form o1
  obtain ⟨y2, z2, rfl⟩ := AeF.own_form o2
  have HO0 := Lib.hid (row_mono o0 hsz0)
  have HO1 := Lib.hid (AeF.own_mono o1 hsz0)
  have HO2 := Lib.hid (AeF.own_mono o2 hsz0)
  have HA12 := Lib.hid (show Apart (fpR (.slice y1 n.acl.length z1)) (fpR (.slice y2 n.dflt.length z2)) from fun k hk hh => (nodup_parts hnd).2.2 k (List.mem_append.2 (.inr hk)) hh)
  clear hb hnd o0 o1 o2
  obtain ⟨x0, x1, x2, x3, x4, x5, x6, x7, x8, x9⟩ := Bk.c10 HX1.out
  have f0 := HX1.out.free 0
  have f1 := HX1.out.free 1
  have f2 := HX1.out.free 2
  have f3 := HX1.out.free 3
  have f4 := HX1.out.free 4
  have f5 := HX1.out.free 5
  have f6 := HX1.out.free 6
  have f7 := HX1.out.free 7
  have f8 := HX1.out.free 8
  have f9 := HX1.out.free 9
  go_wp2_with fail
  have hF : Bk (FoB.box10 w1 w.heap.size (.int .i64 n.kind) (.int .i64 n.mode) (.int .i64 n.uid) (.int .i64 n.gid) (.int .i64 n.links) (.int .i64 n.size) (.int .i64 n.tick) (.slice y0 n.blocks.length z0) (.slice y1 n.acl.length z1) (.slice y2 n.dflt.length z2)) w.heap.size [.int .i64 n.kind, .int .i64 n.mode, .int .i64 n.uid, .int .i64 n.gid, .int .i64 n.links, .int .i64 n.size, .int .i64 n.tick, .slice y0 n.blocks.length z0, .slice y1 n.acl.length z1, .slice y2 n.dflt.length z2].toArray 34 := FoB.box10_bk HX1.out (.int .i64 n.kind) (.int .i64 n.mode) (.int .i64 n.uid) (.int .i64 n.gid) (.int .i64 n.links) (.int .i64 n.size) (.int .i64 n.tick) (.slice y0 n.blocks.length z0) (.slice y1 n.acl.length z1) (.slice y2 n.dflt.length z2)
  have hF2 : Bk _ w.heap.size #[.int .i64 n.kind, .int .i64 n.mode, .int .i64 n.uid, .int .i64 n.gid, .int .i64 n.links, .int .i64 SZ, .int .i64 n.tick, .slice y0 n.blocks.length z0, .slice y1 n.acl.length z1, .slice y2 n.dflt.length z2] 34 := hF.put 5 (.int .i64 SZ)
  have hC2 := FoB.chg1 (FoB.box10_chg w1 w.heap.size (.int .i64 n.kind) (.int .i64 n.mode) (.int .i64 n.uid) (.int .i64 n.gid) (.int .i64 n.links) (.int .i64 n.size) (.int .i64 n.tick) (.slice y0 n.blocks.length z0) (.slice y1 n.acl.length z1) (.slice y2 n.dflt.length z2)) 5 (.int .i64 SZ)
  unfold FoB.box10 at hF2 hC2
  clear hF
  generalize (((((((((((w1.setCell ⟨w.heap.size, 0, none⟩ (.int .i64 n.kind)).setCell ⟨w.heap.size, 1, none⟩ (.int .i64 n.mode)).setCell ⟨w.heap.size, 2, none⟩ (.int .i64 n.uid)).setCell ⟨w.heap.size, 3, none⟩ (.int .i64 n.gid)).setCell ⟨w.heap.size, 4, none⟩ (.int .i64 n.links)).setCell ⟨w.heap.size, 5, none⟩ (.int .i64 n.size)).setCell ⟨w.heap.size, 6, none⟩ (.int .i64 n.tick)).setCell ⟨w.heap.size, 7, none⟩ (.slice y0 n.blocks.length z0)).setCell ⟨w.heap.size, 8, none⟩ (.slice y1 n.acl.length z1)).setCell ⟨w.heap.size, 9, none⟩ (.slice y2 n.dflt.length z2)).setCell ⟨w.heap.size, 5, none⟩ (.int .i64 SZ)) = w2 at hF2 hC2 ⊢
  have hR0 : Rel w n SZ (.slice y1 n.acl.length z1) (.slice y2 n.dflt.length z2) 0 w2 := by
    refine ⟨y0, z0, hF2, ?_, FoB.Bk.chg HR1.out hC2 (by simp), AeF.own_chg HO1.out hC2 ?_, AeF.own_chg HO2.out hC2 ?_, HB1.out.trans (FoB.Chg.from hC2 HB1.out.size (Nat.le_refl _))⟩
    · rw [grown_zero]
      exact row_chg HO0.out hC2 (fun k hk hh => by have := (row_lies HO0.out k hk).1; rw [List.mem_singleton] at hh; omega)
    · exact fun k hk hh => by have := (AeF.own_lies HO1.out k hk).1; rw [List.mem_singleton] at hh; omega
    · exact fun k hk hh => by have := (AeF.own_lies HO2.out k hk).1; rw [List.mem_singleton] at hh; omega
  have HR0 := Lib.hid hR0
  clear hF2 hC2 hR0 x0 x1 x2 x3 x4 x5 x6 x7 x8 x9 f0 f1 f2 f3 f4 f5 f6 f7 f8 f9 HO0 HO1 HO2 HX1 HR1 HB1
  obtain ⟨m, hm⟩ : ∃ m : Nat, needV SZ = m := ⟨(needV SZ).toNat, by have := FsZw.need_nn SZ; omega⟩
  have hm8 : m ≤ 8 := by have := FsZw.need_mono hs1; have h8 : needV 256 = 8 := rfl; omega
  have HMM := Lib.hid hm
  have HND := Lib.hid (fun W => InEq.need_impl SZ W ⟨by omega, by omega⟩)
  rw [hm] at HND
  clear hm
  refine (HND.out _).mono ?_
  rintro e w3 ⟨rfl, rfl⟩
  obtain ⟨N, hN⟩ : ∃ N, N = n.blocks.length := ⟨_, rfl⟩
  have hNb : N ≤ 1073741824 := by rw [hN, ← HL0.out]; exact hL0b
  have HN := Lib.hid hN
  clear hN
  go_wp2
  go_loopw [] (fun wr => ∃ j : Nat, N + j ≤ max N m ∧ Rel w n SZ (.slice y1 n.acl.length z1) (.slice y2 n.dflt.length z2) j wr) (fun wr => m - lenAt wr w.heap.size)
  case atStart => exact ⟨0, by omega, HR0.out⟩
  case round =>
    obtain ⟨j, hj, hrel⟩ := hrel
    have HLEN := Lib.hid (len_of hrel)
    obtain ⟨a, c, q1, q2, q3, q4, q5, q6⟩ := hrel
    rw [← HN.out] at q1 q2
    have HX := Lib.hid q1
    have HO := Lib.hid q2
    have HR := Lib.hid q3
    have HA1 := Lib.hid q4
    have HA2 := Lib.hid q5
    have HB := Lib.hid q6
    have hsz := q6.size
    have hsr := q3.lt
    have c7 : wr.cell? ⟨w.heap.size, 7, none⟩ = some (.slice a (N + j) c) := q1.cell 7
    have f7 := q1.free 7
    clear q1 q2 q3 q4 q5 q6 HR0
    obtain ⟨J, hJ⟩ : ∃ J, J = N + j := ⟨_, rfl⟩
    rw [← hJ] at HX HO c7 hj
    have HJ := Lib.hid hJ
    have hJb : J ≤ 1073741832 := by omega
    clear hJ
    by_cases hlt : J < m
    · obtain ⟨i0, hi, hz0, hz1, hz2⟩ := info_parts Ni.intInfo
      have HF0 := Lib.hid hi
      have HF1 := Lib.hid hz0
      have HF2 := Lib.hid hz1
      have HF3 := Lib.hid hz2
      clear hi hz0 hz1 hz2
      go_wp2_with (first | (at_builtin; refine wpList_append_own _ rfl _ _ 31 rfl (w.heap.size + 1 + 1) 3 i0 (.int .i64 0) 1 8 Tryz.underlying31 HF0.out HF1.out HF2.out HF3.out rfl (by decide) _ _ _ rfl (HO.out.alloc _) ⟨wr.heap.size, 0, none⟩ 1 1 [.int .i64 (-1)] rfl rfl ?c1 ?c2 ?c3 ?c4 ?c5 ?_))
      case c1 => exact InEq.cells1_new _ _ _
      case c2 => simp [Value.oneCell']
      case c3 => unfold maxLen; omega
      case c4 => omega
      case c5 => simp; omega
      intro v' w6 hown1 hg1 _
      obtain ⟨b6, c6, rfl⟩ := Dk.slice_of hown1
      have hx1 := (HX.out.alloc (.cells #[.int .i64 (-1)] 3)).grown hg1 (fun e => by have := (HO.out.lt _ e.symm).1; omega)
      have hr1 := (HR.out.alloc (.cells #[.int .i64 (-1)] 3)).grown hg1 (fun e => by have := (HO.out.lt _ e.symm).1; omega)
      have hb1 := (HB.out.alloc HB.out.size (.cells #[.int .i64 (-1)] 3)).grown hg1 (by have := HB.out.size; simp; omega) (fun k hk => by have := (HO.out.lt k hk).1; omega)
      have ha1 := AeF.own_chg (AeF.own_chg HA1.out (FoB.chg_alloc wr (.cells #[.int .i64 (-1)] 3) []) (fun k _ hh => by cases hh)) (Foot.Chg.of_grown hg1) (FsM.rows_apart HA1.out.1 HO.out (by decide))
      have ha2 := AeF.own_chg (AeF.own_chg HA2.out (FoB.chg_alloc wr (.cells #[.int .i64 (-1)] 3) []) (fun k _ hh => by cases hh)) (Foot.Chg.of_grown hg1) (FsM.rows_apart HA2.out.1 HO.out (by decide))
      have zc7 : w6.cell? ⟨w.heap.size, 7, none⟩ = some (.slice a J c) := hx1.cell 7
      have zf7 := hx1.free 7
      have hX : Bk _ _ #[.int .i64 n.kind, .int .i64 n.mode, .int .i64 n.uid, .int .i64 n.gid, .int .i64 n.links, .int .i64 SZ, .int .i64 n.tick, .slice b6 (J + 1) c6, .slice y1 n.acl.length z1, .slice y2 n.dflt.length z2] _ := hx1.put 7 (.slice b6 (J + 1) c6)
      have hlo : (⟨w.heap.size, 7, none⟩ : Addr).block < w.heap.size + 1 + 1 := by show w.heap.size < _; omega
      have hR := hr1.far (p := ⟨w.heap.size, 7, none⟩) (by simp) (.slice b6 (J + 1) c6)
      have hB := hb1.setCell (p := ⟨w.heap.size, 7, none⟩) (by simp) (.slice b6 (J + 1) c6)
      have hO := ownsRow_setCell_below hown1 hlo (.slice b6 (J + 1) c6)
      have hA1 := AeF.own_set ha1 hlo (.slice b6 (J + 1) c6)
      have hA2 := AeF.own_set ha2 hlo (.slice b6 (J + 1) c6)
      have hrel : Rel w n SZ (.slice y1 n.acl.length z1) (.slice y2 n.dflt.length z2) (j + 1) (w6.setCell ⟨w.heap.size, 7, none⟩ (.slice b6 (J + 1) c6)) := by
        unfold Rel
        rw [← HN.out, show N + (j + 1) = J + 1 from by have := HJ.out; omega, grown_succ]
        exact ⟨b6, c6, hX, hO, hR, hA1, hA2, hB⟩
      have HRN := Lib.hid hrel
      have HLN := Lib.hid (len_of hrel)
      clear hX hR hB hO hA1 hA2 hrel hown1 hg1 hx1 hr1 hb1 ha1 ha2 c7 f7
      go_wp2
      go_roundw
      case rel => exact ⟨j + 1, by have := HJ.out; omega, HRN.out⟩
      case measure => rw [HLEN.out, HLN.out]; have := HJ.out; have := HN.out; omega
    · have hlt2 : ¬ ((J : Int) < m) := by omega
      have hmc : m ≤ c := Nat.le_trans (show m ≤ J by omega) (row_wide HO.out)
      have hm0 : (0 : Int) ≤ m := by omega
      obtain ⟨x0, x1, x2, x3, x4, x5, x6, x7, x8, x9⟩ := Bk.c10 HX.out
      clear c7 f7
      have f0 := HX.out.free 0
      have f1 := HX.out.free 1
      have f2 := HX.out.free 2
      have f3 := HX.out.free 3
      have f4 := HX.out.free 4
      have f5 := HX.out.free 5
      have f6 := HX.out.free 6
      have f7 := HX.out.free 7
      have f8 := HX.out.free 8
      have f9 := HX.out.free 9
      obtain ⟨r0, r1, r2, r3, r4, r5, r6, r7, r8, r9⟩ := Bk.c10 HR.out
      have g0 := HR.out.free 0
      have g1 := HR.out.free 1
      have g2 := HR.out.free 2
      have g3 := HR.out.free 3
      have g4 := HR.out.free 4
      have g5 := HR.out.free 5
      have g6 := HR.out.free 6
      have g7 := HR.out.free 7
      have g8 := HR.out.free 8
      have g9 := HR.out.free 9
      go_wp2
      have hC1 := FoB.chg_set wr ⟨w.heap.size, 7, none⟩ (.slice a m m)
      have hR1 := FoB.Bk.chg HR.out hC1 (by simp)
      have hF := FoB.box10_bk hR1 (.int .i64 n.kind) (.int .i64 n.mode) (.int .i64 n.uid) (.int .i64 n.gid) (.int .i64 n.links) (.int .i64 SZ) (.int .i64 n.tick) (.slice a m m) (.slice y1 n.acl.length z1) (.slice y2 n.dflt.length z2)
      have hC2 := FoB.box10_chg (wr.setCell ⟨w.heap.size, 7, none⟩ (.slice a m m)) (w.heap.size + 1) (.int .i64 n.kind) (.int .i64 n.mode) (.int .i64 n.uid) (.int .i64 n.gid) (.int .i64 n.links) (.int .i64 SZ) (.int .i64 n.tick) (.slice a m m) (.slice y1 n.acl.length z1) (.slice y2 n.dflt.length z2)
      have hC : Foot.Chg wr (FoB.box10 (wr.setCell ⟨w.heap.size, 7, none⟩ (.slice a m m)) (w.heap.size + 1) (.int .i64 n.kind) (.int .i64 n.mode) (.int .i64 n.uid) (.int .i64 n.gid) (.int .i64 n.links) (.int .i64 SZ) (.int .i64 n.tick) (.slice a m m) (.slice y1 n.acl.length z1) (.slice y2 n.dflt.length z2)) [w.heap.size, w.heap.size + 1] := (hC1.more (fun k hk => by simp at hk; simp [hk])).trans (hC2.more (fun k hk => by simp at hk; simp [hk]))
      unfold FoB.box10 at hF hC
      clear hC1 hC2 hR1
      generalize (((((((((((wr.setCell ⟨w.heap.size, 7, none⟩ (.slice a m m)).setCell ⟨w.heap.size + 1, 0, none⟩ (.int .i64 n.kind)).setCell ⟨w.heap.size + 1, 1, none⟩ (.int .i64 n.mode)).setCell ⟨w.heap.size + 1, 2, none⟩ (.int .i64 n.uid)).setCell ⟨w.heap.size + 1, 3, none⟩ (.int .i64 n.gid)).setCell ⟨w.heap.size + 1, 4, none⟩ (.int .i64 n.links)).setCell ⟨w.heap.size + 1, 5, none⟩ (.int .i64 SZ)).setCell ⟨w.heap.size + 1, 6, none⟩ (.int .i64 n.tick)).setCell ⟨w.heap.size + 1, 7, none⟩ (.slice a m m)).setCell ⟨w.heap.size + 1, 8, none⟩ (.slice y1 n.acl.length z1)).setCell ⟨w.heap.size + 1, 9, none⟩ (.slice y2 n.dflt.length z2)) = w9 at hF hC ⊢
      obtain ⟨e0, e1, e2, e3, e4, e5, e6, e7, e8, e9⟩ := Bk.c10 hF
      have hcut := own_cut (m := m) (c1 := m) HO.out (by omega) (Nat.le_refl _) hmc
      rw [grown_holes (show n.blocks.length + j = max n.blocks.length m by have := HJ.out; have := HN.out; omega)] at hcut
      have hlo : ∀ k, k ∈ [w.heap.size, w.heap.size + 1] → k < w.heap.size + 1 + 1 := fun k hk => by simp at hk; omega
      have o0 := NiF.own_mono (NiF.own_chg hcut hC (fun k hk hh => by have h1 := (NiF.own_lies hcut k hk).1; have h2 := hlo k hh; omega)) (show w.heap.size ≤ w.heap.size + 1 + 1 by omega)
      have o1 := AeF.own_mono (AeF.own_chg HA1.out hC (fun k hk hh => by have h1 := (AeF.own_lies HA1.out k hk).1; have h2 := hlo k hh; omega)) (show w.heap.size ≤ w.heap.size + 1 + 1 by omega)
      have o2 := AeF.own_mono (AeF.own_chg HA2.out hC (fun k hk hh => by have h1 := (AeF.own_lies HA2.out k hk).1; have h2 := hlo k hh; omega)) (show w.heap.size ≤ w.heap.size + 1 + 1 by omega)
      have hnd : (fpR (.slice a m m) ++ fpR (.slice y1 n.acl.length z1) ++ fpR (.slice y2 n.dflt.length z2)).Nodup := nodup_app (nodup_app (fpR_nodup _) (fpR_nodup _) (by rw [NiF.fpR_slice a m m J c]; exact FsM.rows_apart HO.out HA1.out.1 (by decide))) (fpR_nodup _) (apart_app.2 ⟨by rw [NiF.fpR_slice a m m J c]; exact FsM.rows_apart HO.out HA2.out.1 (by decide), HA12.out⟩)
      have hbel := HB.out.trans (hC.below hsz (fun k hk => by simp at hk; omega))
      have hres : In.Own w9 w.heap.size (.agg #[.int .i64 n.kind, .int .i64 n.mode, .int .i64 n.uid, .int .i64 n.gid, .int .i64 n.links, .int .i64 SZ, .int .i64 n.tick, .slice a m m, .slice y1 n.acl.length z1, .slice y2 n.dflt.length z2]) (sized n SZ) (fpR (.slice a m m) ++ fpR (.slice y1 n.acl.length z1) ++ fpR (.slice y2 n.dflt.length z2)) := by
        have hbl : (sized n SZ).blocks = holes n.blocks m := by unfold sized; rw [HMM.out]; rfl
        exact ⟨_, _, _, _, _, _, rfl, rfl, hnd, by rw [hbl]; exact o0, o1, o2⟩
      refine bodyPost_ret (v := .agg #[.int .i64 n.kind, .int .i64 n.mode, .int .i64 n.uid, .int .i64 n.gid, .int .i64 n.links, .int .i64 SZ, .int .i64 n.tick, .slice a m m, .slice y1 n.acl.length z1, .slice y2 n.dflt.length z2]) (by simp [results, Tryz.results60, go_sem, e0, e1, e2, e3, e4, e5, e6, e7, e8, e9]) rfl ⟨_, rfl, ⟨_, hres⟩, hbel⟩
end Go.Proofs.YtafmpllkehbmeaaGreatDoor.CoW
