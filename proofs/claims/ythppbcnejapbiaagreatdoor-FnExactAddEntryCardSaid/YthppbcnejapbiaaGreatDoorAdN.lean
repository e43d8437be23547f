/- Helper texts joined, one behind another (a claim has at most 60 files): what each proves, its own head says: YthppbcnejapbiaaGreatDoorCoW, YthppbcnejapbiaaGreatDoorCoRs, YthppbcnejapbiaaGreatDoorFsWm, YthppbcnejapbiaaGreatDoorCoWb, YthppbcnejapbiaaGreatDoorFsOk. -/
import Derived.Test.YthppbcnejapbiaaGreatDoorAdK
import Derived.Test.YthppbcnejapbiaaGreatDoorAdC
import Derived.Test.YthppbcnejapbiaaGreatDoorAdG
import Derived.Deep.RegionLaw
import Derived.Deep.RegionHeld3
import Derived.Test.YthppbcnejapbiaaGreatDoorIsName
import Derived.Deep.Cut
import Derived.Test.YthppbcnejapbiaaGreatDoorAdB

-- YthppbcnejapbiaaGreatDoorCoW
/- A part. -/
namespace Go.Proofs.YthppbcnejapbiaaGreatDoor.CoW
open Go.ChangeShapes Go.WideShapes Go.ChangeAt Go.RowKit
open Foot Bx
open InoV (I needV)
open FsY FsZ FoB
set_option linter.unusedVariables false
def grown (l : List Int) (j : Nat) : List Int := l ++ List.replicate j (-1)
theorem grown_zero (l : List Int) : grown l 0 = l := by simp [grown]
theorem grown_len (l : List Int) (j : Nat) : (grown l j).length = l.length + j := by simp [grown]
theorem grown_succ (l : List Int) (j : Nat) : NiF.cells (grown l (j + 1)) = NiF.cells (grown l j) ++ [.int .i64 (-1)] := by
 simp [grown, NiF.cells, List.replicate_succ']
theorem grown_holes {l : List Int} {m j : Nat} (h : l.length + j = max l.length m) : (grown l j).take m = holes l m := by
 rw [grown, holes, show j = m - l.length from by omega]
theorem cells_take (l : List Int) (m : Nat) : NiF.cells (l.take m) = (NiF.cells l).take m := by simp [NiF.cells, List.map_take]
theorem own_cut {w : World} {base : Nat} {a : Option Addr} {c c1 m n : Nat} {l : List Int} (h : w.ownsRow base 3 1 (.slice a n c) n (NiF.cells l)) (hm : m <= n) (h1 : m <= c1) (h2 : c1 <= c) : NiF.Own w base (.slice a m c1) (l.take m) (fpR (.slice a m c1)) := by
 have hl : l.length = n := by have := h.1; simpa [NiF.cells] using this
 have hlt : (l.take m).length = m := by rw [List.length_take]; omega
 refine ⟨⟨a, c1, c, by rw [hlt], by rw [hlt]; exact h1, h2, ?_⟩, rfl⟩
 rw [hlt]
 rcases h.2 with ⟨hv, h0⟩ | ⟨g, cap, cur, hv, hb, hg, hn, hc, hs, ht⟩
 ·rw [Value.slice.injEq] at hv
  obtain ⟨rfl, h3, rfl⟩ := hv
  obtain rfl : m = 0 := by omega
  exact ⟨by simp [NiF.cells], .inl ⟨rfl, rfl⟩⟩
 ·rw [Value.slice.injEq] at hv
  obtain ⟨rfl, _, rfl⟩ := hv
  refine ⟨by simp [NiF.cells]; omega, .inr ⟨g, c, cur, rfl, hb, hg, by omega, hc, hs, ?_⟩⟩
  rw [cells_take, <- ht, List.take_take]
  congr 1; omega
def Rel (w : World) (n : I) (SZ : Int) (v1 v2 : Value) (j : Nat) (W : World) : Prop :=
 ∃ (a : Option Addr) (c : Nat), Bk W w.heap.size #[.int .i64 n.kind, .int .i64 n.mode, .int .i64 n.uid, .int .i64 n.gid, .int .i64 n.links, .int .i64 SZ, .int .i64 n.tick, .slice a (n.blocks.length + j) c, v1, v2] 89 /\
 W.ownsRow (w.heap.size + 1 + 1) 3 1 (.slice a (n.blocks.length + j) c) (n.blocks.length + j) (NiF.cells (grown n.blocks j)) /\
 Bk W (w.heap.size + 1) #[.int .i64 0, .int .i64 0, .int .i64 0, .int .i64 0, .int .i64 0, .int .i64 0, .int .i64 0, .slice none 0 0, .slice none 0 0, .slice none 0 0] 89 /\ AeF.Own W (w.heap.size + 1 + 1) v1 n.acl (fpR v1) /\ AeF.Own W (w.heap.size + 1 + 1) v2 n.dflt (fpR v2) /\ Below w.heap.size w W
def lenAt (w : World) (b : Nat) : Nat := match w.cell? ⟨b, 7, none⟩ with | some (.slice _ l _) => l | _ => 0
theorem len_of {w : World} {n : I} {SZ : Int} {v1 v2 : Value} {j : Nat} {W : World} (h : Rel w n SZ v1 v2 j W) : lenAt W w.heap.size = n.blocks.length + j := by
 obtain ⟨a, c, h1, _⟩ := h
 unfold lenAt
 have : W.cell? ⟨w.heap.size, 7, none⟩ = some (.slice a (n.blocks.length + j) c) := h1.cell 7
 rw [this]
theorem row_wide {w : World} {base n : Nat} {a : Option Addr} {c' : Nat} {xs : List Value} (h : w.ownsRow base 3 1 (.slice a n c') n xs) : n <= c' := by
 rcases h.2 with ⟨hv, h0⟩ | ⟨g, cap, cur, hv, _, _, hn, _⟩
 ·omega
 ·rw [Value.slice.injEq] at hv; omega
set_option maxRecDepth 100000 in
set_option maxHeartbeats 6400000 in
theorem size_impl (w : World) (v : Value) (n : I) (SZ : Int) (hs0 : 0 <= SZ) (hs1 : SZ <= 256) (hc : In.cost n <= 1073741824) (h : In.Holds w v n) :
  Calls Tryz.prog 118 #[v, .int .i64 SZ] w fun e w' => ∃ v' S, e = .returned v' /\ In.Own w' w.heap.size v' (sized n SZ) S /\ Below w.heap.size w w' := by
 have HIN := Lib.hid h
 have HCC := Lib.hid hc
 obtain ⟨r0, r1, r2, rfl, g0, g1, g2⟩ := h
 obtain ⟨a0, d0, rfl⟩ := NiF.form g0
 obtain ⟨a1, d1, rfl⟩ := AeF.form g1
 obtain ⟨a2, d2, rfl⟩ := AeF.form g2
 clear g0 g1 g2
 obtain ⟨K0, K1, K2, K3, K4, K5, K6, hK⟩ : ∃ K0 K1 K2 K3 K4 K5 K6, K0 = n.kind /\ K1 = n.mode /\ K2 = n.uid /\ K3 = n.gid /\ K4 = n.links /\ K5 = n.size /\ K6 = n.tick := ⟨_, _, _, _, _, _, _, rfl, rfl, rfl, rfl, rfl, rfl, rfl⟩
 have HK := Lib.hid hK
 obtain ⟨k0, k1, k2, k3, k4, k5, k6⟩ := hK
 rw [<- k0, <- k1, <- k2, <- k3, <- k4, <- k5, <- k6] at HIN ⊢
 clear k0 k1 k2 k3 k4 k5 k6
 obtain ⟨L0, hL0⟩ : ∃ L, L = n.blocks.length := ⟨_, rfl⟩
 obtain ⟨L1, hL1⟩ : ∃ L, L = n.acl.length := ⟨_, rfl⟩
 obtain ⟨L2, hL2⟩ : ∃ L, L = n.dflt.length := ⟨_, rfl⟩
 have hL0b : L0 <= 1073741824 := by rw [hL0]; exact Nat.le_trans (In.le_blocks n) hc
 rw [<- hL0, <- hL1, <- hL2] at HIN ⊢
 have HL0 := Lib.hid hL0
 have HL1 := Lib.hid hL1
 have HL2 := Lib.hid hL2
 clear hL0 hL1 hL2 hc
 have HB := Lib.hid (((Below.refl w.heap.size w).alloc (Nat.le_refl _) (.cells #[.int .i64 K0, .int .i64 K1, .int .i64 K2, .int .i64 K3, .int .i64 K4, .int .i64 K5, .int .i64 K6, .slice a0 L0 d0, .slice a1 L1 d1, .slice a2 L2 d2] 89)).alloc (by simp) (.cells #[.int .i64 0, .int .i64 0, .int .i64 0, .int .i64 0, .int .i64 0, .int .i64 0, .int .i64 0, .slice none 0 0, .slice none 0 0, .slice none 0 0] 89))
 have HX := Lib.hid ((new w #[.int .i64 K0, .int .i64 K1, .int .i64 K2, .int .i64 K3, .int .i64 K4, .int .i64 K5, .int .i64 K6, .slice a0 L0 d0, .slice a1 L1 d1, .slice a2 L2 d2] 89).alloc (.cells #[.int .i64 0, .int .i64 0, .int .i64 0, .int .i64 0, .int .i64 0, .int .i64 0, .int .i64 0, .slice none 0 0, .slice none 0 0, .slice none 0 0] 89))
 have HR := Lib.hid (new_at (w.alloc (.cells #[.int .i64 K0, .int .i64 K1, .int .i64 K2, .int .i64 K3, .int .i64 K4, .int .i64 K5, .int .i64 K6, .slice a0 L0 d0, .slice a1 L1 d1, .slice a2 L2 d2] 89)) #[.int .i64 0, .int .i64 0, .int .i64 0, .int .i64 0, .int .i64 0, .int .i64 0, .int .i64 0, .slice none 0 0, .slice none 0 0, .slice none 0 0] 89 (w.heap.size + 1) (by simp))
 have hsz0 : w.heap.size + 1 + 1 <= ((w.alloc (.cells #[.int .i64 K0, .int .i64 K1, .int .i64 K2, .int .i64 K3, .int .i64 K4, .int .i64 K5, .int .i64 K6, .slice a0 L0 d0, .slice a1 L1 d1, .slice a2 L2 d2] 89)).alloc (.cells #[.int .i64 0, .int .i64 0, .int .i64 0, .int .i64 0, .int .i64 0, .int .i64 0, .int .i64 0, .slice none 0 0, .slice none 0 0, .slice none 0 0] 89)).heap.size := by simp
 go_enter Tryz.func118, Tryz.ntmps118
 go_wp2_with fail
 generalize (w.alloc (.cells #[.int .i64 K0, .int .i64 K1, .int .i64 K2, .int .i64 K3, .int .i64 K4, .int .i64 K5, .int .i64 K6, .slice a0 L0 d0, .slice a1 L1 d1, .slice a2 L2 d2] 89)).alloc (.cells #[.int .i64 0, .int .i64 0, .int .i64 0, .int .i64 0, .int .i64 0, .int .i64 0, .int .i64 0, .slice none 0 0, .slice none 0 0, .slice none 0 0] 89) = w0 at *
 refine (CpI.copyT_impl _ _ n HCC.out (In.holds_below HIN.out HB.out)).mono ?_
 rintro e w1 ⟨t0, t1, t2, rfl, o0, o1, o2, hnd, hb⟩
 have HB1 := Lib.hid (HB.out.trans (hb.mono HB.out.size))
 have HX1 := Lib.hid (HX.out.all hb)
 have HR1 := Lib.hid (HR.out.all hb)
 have HS1 := Lib.hid hb.size
 obtain ⟨y0, z0, rfl⟩ := Dk.slice_of o0
 obtain ⟨y1, z1, rfl⟩ := AeF.own_form o1
 obtain ⟨y2, z2, rfl⟩ := AeF.own_form o2
 have HO0 := Lib.hid (row_mono o0 hsz0)
 have HO1 := Lib.hid (AeF.own_mono o1 hsz0)
 have HO2 := Lib.hid (AeF.own_mono o2 hsz0)
 have HA12 := Lib.hid (show Apart (fpR (.slice y1 n.acl.length z1)) (fpR (.slice y2 n.dflt.length z2)) from fun k hk hh => (nodup_parts hnd).2.2 k (List.mem_append.2 (.inr hk)) hh)
 clear hb hnd o0 o1 o2
 obtain ⟨x0, x1, x2, x3, x4, x5, x6, x7, x8, x9⟩ := Bk.c10 HX1.out
 have f0 := HX1.out.free 0
 have f1 := HX1.out.free 1
 have f2 := HX1.out.free 2
 have f3 := HX1.out.free 3
 have f4 := HX1.out.free 4
 have f5 := HX1.out.free 5
 have f6 := HX1.out.free 6
 have f7 := HX1.out.free 7
 have f8 := HX1.out.free 8
 have f9 := HX1.out.free 9
 go_wp2_with fail
 have hF : Bk (FoB.box10 w1 w.heap.size (.int .i64 n.kind) (.int .i64 n.mode) (.int .i64 n.uid) (.int .i64 n.gid) (.int .i64 n.links) (.int .i64 n.size) (.int .i64 n.tick) (.slice y0 n.blocks.length z0) (.slice y1 n.acl.length z1) (.slice y2 n.dflt.length z2)) w.heap.size [.int .i64 n.kind, .int .i64 n.mode, .int .i64 n.uid, .int .i64 n.gid, .int .i64 n.links, .int .i64 n.size, .int .i64 n.tick, .slice y0 n.blocks.length z0, .slice y1 n.acl.length z1, .slice y2 n.dflt.length z2].toArray 89 := FoB.box10_bk HX1.out (.int .i64 n.kind) (.int .i64 n.mode) (.int .i64 n.uid) (.int .i64 n.gid) (.int .i64 n.links) (.int .i64 n.size) (.int .i64 n.tick) (.slice y0 n.blocks.length z0) (.slice y1 n.acl.length z1) (.slice y2 n.dflt.length z2)
 have hF2 : Bk _ w.heap.size #[.int .i64 n.kind, .int .i64 n.mode, .int .i64 n.uid, .int .i64 n.gid, .int .i64 n.links, .int .i64 SZ, .int .i64 n.tick, .slice y0 n.blocks.length z0, .slice y1 n.acl.length z1, .slice y2 n.dflt.length z2] 89 := hF.put 5 (.int .i64 SZ)
 have hC2 := FoB.chg1 (FoB.box10_chg w1 w.heap.size (.int .i64 n.kind) (.int .i64 n.mode) (.int .i64 n.uid) (.int .i64 n.gid) (.int .i64 n.links) (.int .i64 n.size) (.int .i64 n.tick) (.slice y0 n.blocks.length z0) (.slice y1 n.acl.length z1) (.slice y2 n.dflt.length z2)) 5 (.int .i64 SZ)
 unfold FoB.box10 at hF2 hC2
 clear hF
 generalize (((((((((((w1.setCell ⟨w.heap.size, 0, none⟩ (.int .i64 n.kind)).setCell ⟨w.heap.size, 1, none⟩ (.int .i64 n.mode)).setCell ⟨w.heap.size, 2, none⟩ (.int .i64 n.uid)).setCell ⟨w.heap.size, 3, none⟩ (.int .i64 n.gid)).setCell ⟨w.heap.size, 4, none⟩ (.int .i64 n.links)).setCell ⟨w.heap.size, 5, none⟩ (.int .i64 n.size)).setCell ⟨w.heap.size, 6, none⟩ (.int .i64 n.tick)).setCell ⟨w.heap.size, 7, none⟩ (.slice y0 n.blocks.length z0)).setCell ⟨w.heap.size, 8, none⟩ (.slice y1 n.acl.length z1)).setCell ⟨w.heap.size, 9, none⟩ (.slice y2 n.dflt.length z2)).setCell ⟨w.heap.size, 5, none⟩ (.int .i64 SZ)) = w2 at hF2 hC2 ⊢
 have hR0 : Rel w n SZ (.slice y1 n.acl.length z1) (.slice y2 n.dflt.length z2) 0 w2 := by
  refine ⟨y0, z0, hF2, ?_, FoB.Bk.chg HR1.out hC2 (by simp), AeF.own_chg HO1.out hC2 ?_, AeF.own_chg HO2.out hC2 ?_, HB1.out.trans (FoB.Chg.from hC2 HB1.out.size (Nat.le_refl _))⟩
  ·rw [grown_zero]
   exact row_chg HO0.out hC2 (fun k hk hh => by have := (row_lies HO0.out k hk).1; rw [List.mem_singleton] at hh; omega)
  ·exact fun k hk hh => by have := (AeF.own_lies HO1.out k hk).1; rw [List.mem_singleton] at hh; omega
  ·exact fun k hk hh => by have := (AeF.own_lies HO2.out k hk).1; rw [List.mem_singleton] at hh; omega
 have HR0 := Lib.hid hR0
 clear hF2 hC2 hR0 x0 x1 x2 x3 x4 x5 x6 x7 x8 x9 f0 f1 f2 f3 f4 f5 f6 f7 f8 f9 HO0 HO1 HO2 HX1 HR1 HB1
 obtain ⟨m, hm⟩ : ∃ m : Nat, needV SZ = m := ⟨(needV SZ).toNat, by have := FsZw.need_nn SZ; omega⟩
 have hm8 : m <= 8 := by have := FsZw.need_mono hs1; have h8 : needV 256 = 8 := rfl; omega
 have HMM := Lib.hid hm
 have HND := Lib.hid (fun W => InEq.need_impl SZ W ⟨by omega, by omega⟩)
 rw [hm] at HND
 clear hm
 refine (HND.out _).mono ?_
 rintro e w3 ⟨rfl, rfl⟩
 obtain ⟨N, hN⟩ : ∃ N, N = n.blocks.length := ⟨_, rfl⟩
 have hNb : N <= 1073741824 := by rw [hN, <- HL0.out]; exact hL0b
 have HN := Lib.hid hN
 clear hN
 go_wp2
 go_loopw [] (fun wr => ∃ j : Nat, N + j <= max N m /\ Rel w n SZ (.slice y1 n.acl.length z1) (.slice y2 n.dflt.length z2) j wr) (fun wr => m - lenAt wr w.heap.size)
 case atStart => exact ⟨0, by omega, HR0.out⟩
 case round =>
  obtain ⟨j, hj, hrel⟩ := hrel
  have HLEN := Lib.hid (len_of hrel)
  obtain ⟨a, c, q1, q2, q3, q4, q5, q6⟩ := hrel
  rw [<- HN.out] at q1 q2
  have HX := Lib.hid q1
  have HO := Lib.hid q2
  have HR := Lib.hid q3
  have HA1 := Lib.hid q4
  have HA2 := Lib.hid q5
  have HB := Lib.hid q6
  have hsz := q6.size
  have hsr := q3.lt
  have c7 : wr.cell? ⟨w.heap.size, 7, none⟩ = some (.slice a (N + j) c) := q1.cell 7
  have f7 := q1.free 7
  clear q1 q2 q3 q4 q5 q6 HR0
  obtain ⟨J, hJ⟩ : ∃ J, J = N + j := ⟨_, rfl⟩
  rw [<- hJ] at HX HO c7 hj
  have HJ := Lib.hid hJ
  have hJb : J <= 1073741832 := by omega
  clear hJ
  by_cases hlt : J < m
  ·obtain ⟨i0, hi, hz0, hz1, hz2⟩ := info_parts Ni.intInfo
   have HF0 := Lib.hid hi
   have HF1 := Lib.hid hz0
   have HF2 := Lib.hid hz1
   have HF3 := Lib.hid hz2
   clear hi hz0 hz1 hz2
   go_wp2_with (first | (at_builtin; refine wpList_append_own _ rfl _ _ 49 rfl (w.heap.size + 1 + 1) 3 i0 (.int .i64 0) 1 8 Tryz.underlying49 HF0.out HF1.out HF2.out HF3.out rfl (by decide) _ _ _ rfl (HO.out.alloc _) ⟨wr.heap.size, 0, none⟩ 1 1 [.int .i64 (-1)] rfl rfl ?c1 ?c2 ?c3 ?c4 ?c5 ?_))
   case c1 => exact InEq.cells1_new _ _ _
   case c2 => simp [Value.oneCell']
   case c3 => unfold maxLen; omega
   case c4 => omega
   case c5 => simp; omega
   intro v' w6 hown1 hg1 _
   obtain ⟨b6, c6, rfl⟩ := Dk.slice_of hown1
   have hx1 := (HX.out.alloc (.cells #[.int .i64 (-1)] 3)).grown hg1 (fun e => by have := (HO.out.lt _ e.symm).1; omega)
   have hr1 := (HR.out.alloc (.cells #[.int .i64 (-1)] 3)).grown hg1 (fun e => by have := (HO.out.lt _ e.symm).1; omega)
   have hb1 := (HB.out.alloc HB.out.size (.cells #[.int .i64 (-1)] 3)).grown hg1 (by have := HB.out.size; simp; omega) (fun k hk => by have := (HO.out.lt k hk).1; omega)
   have ha1 := AeF.own_chg (AeF.own_chg HA1.out (FoB.chg_alloc wr (.cells #[.int .i64 (-1)] 3) []) (fun k _ hh => by cases hh)) (Foot.Chg.of_grown hg1) (FsM.rows_apart HA1.out.1 HO.out (by decide))
   have ha2 := AeF.own_chg (AeF.own_chg HA2.out (FoB.chg_alloc wr (.cells #[.int .i64 (-1)] 3) []) (fun k _ hh => by cases hh)) (Foot.Chg.of_grown hg1) (FsM.rows_apart HA2.out.1 HO.out (by decide))
   have zc7 : w6.cell? ⟨w.heap.size, 7, none⟩ = some (.slice a J c) := hx1.cell 7
   have zf7 := hx1.free 7
   have hX : Bk _ _ #[.int .i64 n.kind, .int .i64 n.mode, .int .i64 n.uid, .int .i64 n.gid, .int .i64 n.links, .int .i64 SZ, .int .i64 n.tick, .slice b6 (J + 1) c6, .slice y1 n.acl.length z1, .slice y2 n.dflt.length z2] _ := hx1.put 7 (.slice b6 (J + 1) c6)
   have hlo : (⟨w.heap.size, 7, none⟩ : Addr).block < w.heap.size + 1 + 1 := by show w.heap.size < _; omega
   have hR := hr1.far (p := ⟨w.heap.size, 7, none⟩) (by simp) (.slice b6 (J + 1) c6)
   have hB := hb1.setCell (p := ⟨w.heap.size, 7, none⟩) (by simp) (.slice b6 (J + 1) c6)
   have hO := ownsRow_setCell_below hown1 hlo (.slice b6 (J + 1) c6)
   have hA1 := AeF.own_set ha1 hlo (.slice b6 (J + 1) c6)
   have hA2 := AeF.own_set ha2 hlo (.slice b6 (J + 1) c6)
   have hrel : Rel w n SZ (.slice y1 n.acl.length z1) (.slice y2 n.dflt.length z2) (j + 1) (w6.setCell ⟨w.heap.size, 7, none⟩ (.slice b6 (J + 1) c6)) := by
    unfold Rel
    rw [<- HN.out, show N + (j + 1) = J + 1 from by have := HJ.out; omega, grown_succ]
    exact ⟨b6, c6, hX, hO, hR, hA1, hA2, hB⟩
   have HRN := Lib.hid hrel
   have HLN := Lib.hid (len_of hrel)
   clear hX hR hB hO hA1 hA2 hrel hown1 hg1 hx1 hr1 hb1 ha1 ha2 c7 f7
   go_wp2
   go_roundw
   case rel => exact ⟨j + 1, by have := HJ.out; omega, HRN.out⟩
   case measure => rw [HLEN.out, HLN.out]; have := HJ.out; have := HN.out; omega
  ·have hlt2 : ¬ ((J : Int) < m) := by omega
   have hmc : m <= c := Nat.le_trans (show m <= J by omega) (row_wide HO.out)
   have hm0 : (0 : Int) <= m := by omega
   obtain ⟨x0, x1, x2, x3, x4, x5, x6, x7, x8, x9⟩ := Bk.c10 HX.out
   clear c7 f7
   have f0 := HX.out.free 0
   have f1 := HX.out.free 1
   have f2 := HX.out.free 2
   have f3 := HX.out.free 3
   have f4 := HX.out.free 4
   have f5 := HX.out.free 5
   have f6 := HX.out.free 6
   have f7 := HX.out.free 7
   have f8 := HX.out.free 8
   have f9 := HX.out.free 9
   obtain ⟨r0, r1, r2, r3, r4, r5, r6, r7, r8, r9⟩ := Bk.c10 HR.out
   have g0 := HR.out.free 0
   have g1 := HR.out.free 1
   have g2 := HR.out.free 2
   have g3 := HR.out.free 3
   have g4 := HR.out.free 4
   have g5 := HR.out.free 5
   have g6 := HR.out.free 6
   have g7 := HR.out.free 7
   have g8 := HR.out.free 8
   have g9 := HR.out.free 9
   go_wp2
   have hC1 := FoB.chg_set wr ⟨w.heap.size, 7, none⟩ (.slice a m m)
   have hR1 := FoB.Bk.chg HR.out hC1 (by simp)
   have hF := FoB.box10_bk hR1 (.int .i64 n.kind) (.int .i64 n.mode) (.int .i64 n.uid) (.int .i64 n.gid) (.int .i64 n.links) (.int .i64 SZ) (.int .i64 n.tick) (.slice a m m) (.slice y1 n.acl.length z1) (.slice y2 n.dflt.length z2)
   have hC2 := FoB.box10_chg (wr.setCell ⟨w.heap.size, 7, none⟩ (.slice a m m)) (w.heap.size + 1) (.int .i64 n.kind) (.int .i64 n.mode) (.int .i64 n.uid) (.int .i64 n.gid) (.int .i64 n.links) (.int .i64 SZ) (.int .i64 n.tick) (.slice a m m) (.slice y1 n.acl.length z1) (.slice y2 n.dflt.length z2)
   have hC : Foot.Chg wr (FoB.box10 (wr.setCell ⟨w.heap.size, 7, none⟩ (.slice a m m)) (w.heap.size + 1) (.int .i64 n.kind) (.int .i64 n.mode) (.int .i64 n.uid) (.int .i64 n.gid) (.int .i64 n.links) (.int .i64 SZ) (.int .i64 n.tick) (.slice a m m) (.slice y1 n.acl.length z1) (.slice y2 n.dflt.length z2)) [w.heap.size, w.heap.size + 1] := (hC1.more (fun k hk => by simp at hk; simp [hk])).trans (hC2.more (fun k hk => by simp at hk; simp [hk]))
   unfold FoB.box10 at hF hC
   clear hC1 hC2 hR1
   generalize (((((((((((wr.setCell ⟨w.heap.size, 7, none⟩ (.slice a m m)).setCell ⟨w.heap.size + 1, 0, none⟩ (.int .i64 n.kind)).setCell ⟨w.heap.size + 1, 1, none⟩ (.int .i64 n.mode)).setCell ⟨w.heap.size + 1, 2, none⟩ (.int .i64 n.uid)).setCell ⟨w.heap.size + 1, 3, none⟩ (.int .i64 n.gid)).setCell ⟨w.heap.size + 1, 4, none⟩ (.int .i64 n.links)).setCell ⟨w.heap.size + 1, 5, none⟩ (.int .i64 SZ)).setCell ⟨w.heap.size + 1, 6, none⟩ (.int .i64 n.tick)).setCell ⟨w.heap.size + 1, 7, none⟩ (.slice a m m)).setCell ⟨w.heap.size + 1, 8, none⟩ (.slice y1 n.acl.length z1)).setCell ⟨w.heap.size + 1, 9, none⟩ (.slice y2 n.dflt.length z2)) = w9 at hF hC ⊢
   obtain ⟨e0, e1, e2, e3, e4, e5, e6, e7, e8, e9⟩ := Bk.c10 hF
   have hcut := own_cut (m := m) (c1 := m) HO.out (by omega) (Nat.le_refl _) hmc
   rw [grown_holes (show n.blocks.length + j = max n.blocks.length m by have := HJ.out; have := HN.out; omega)] at hcut
   have hlo : ∀ k, k ∈ [w.heap.size, w.heap.size + 1] -> k < w.heap.size + 1 + 1 := fun k hk => by simp at hk; omega
   have o0 := NiF.own_mono (NiF.own_chg hcut hC (fun k hk hh => by have h1 := (NiF.own_lies hcut k hk).1; have h2 := hlo k hh; omega)) (show w.heap.size <= w.heap.size + 1 + 1 by omega)
   have o1 := AeF.own_mono (AeF.own_chg HA1.out hC (fun k hk hh => by have h1 := (AeF.own_lies HA1.out k hk).1; have h2 := hlo k hh; omega)) (show w.heap.size <= w.heap.size + 1 + 1 by omega)
   have o2 := AeF.own_mono (AeF.own_chg HA2.out hC (fun k hk hh => by have h1 := (AeF.own_lies HA2.out k hk).1; have h2 := hlo k hh; omega)) (show w.heap.size <= w.heap.size + 1 + 1 by omega)
   have hnd : (fpR (.slice a m m) ++ fpR (.slice y1 n.acl.length z1) ++ fpR (.slice y2 n.dflt.length z2)).Nodup := nodup_app (nodup_app (fpR_nodup _) (fpR_nodup _) (by rw [NiF.fpR_slice a m m J c]; exact FsM.rows_apart HO.out HA1.out.1 (by decide))) (fpR_nodup _) (apart_app.2 ⟨by rw [NiF.fpR_slice a m m J c]; exact FsM.rows_apart HO.out HA2.out.1 (by decide), HA12.out⟩)
   have hbel := HB.out.trans (hC.below hsz (fun k hk => by simp at hk; omega))
   have hres : In.Own w9 w.heap.size (.agg #[.int .i64 n.kind, .int .i64 n.mode, .int .i64 n.uid, .int .i64 n.gid, .int .i64 n.links, .int .i64 SZ, .int .i64 n.tick, .slice a m m, .slice y1 n.acl.length z1, .slice y2 n.dflt.length z2]) (sized n SZ) (fpR (.slice a m m) ++ fpR (.slice y1 n.acl.length z1) ++ fpR (.slice y2 n.dflt.length z2)) := by
    have hbl : (sized n SZ).blocks = holes n.blocks m := by unfold sized; rw [HMM.out]; rfl
    exact ⟨_, _, _, _, _, _, rfl, rfl, hnd, by rw [hbl]; exact o0, o1, o2⟩
   refine bodyPost_ret (v := .agg #[.int .i64 n.kind, .int .i64 n.mode, .int .i64 n.uid, .int .i64 n.gid, .int .i64 n.links, .int .i64 SZ, .int .i64 n.tick, .slice a m m, .slice y1 n.acl.length z1, .slice y2 n.dflt.length z2]) (by simp [results, Tryz.results118, go_sem, e0, e1, e2, e3, e4, e5, e6, e7, e8, e9]) rfl ⟨_, rfl, ⟨_, hres⟩, hbel⟩
end Go.Proofs.YthppbcnejapbiaaGreatDoor.CoW

-- YthppbcnejapbiaaGreatDoorCoRs
/- A part. -/
namespace Go.Proofs.YthppbcnejapbiaaGreatDoor.CoRs
open Go.ChangeShapes Go.WideShapes Go.ChangeAt Go.RowKit
open Foot Bx
open InoV (I usedV needV)
open FsV (F okF e0 z32)
open FsY FsZ FoB CoN
open RowG (cellsB cellsB_length)
set_option linter.unusedVariables false
open CoFr (good_of)
end Go.Proofs.YthppbcnejapbiaaGreatDoor.CoRs

-- YthppbcnejapbiaaGreatDoorFsWm
/- A part. -/
namespace Go.Proofs.YthppbcnejapbiaaGreatDoor.FsWm
open InoV (I okI usedV hasB needV)
open FsV FsX FsY FsZ FsZw
open CoR (mid mid_zero mid_len mid_at mid_set mid_skip)
set_option linter.unusedVariables false
def Don (a : Nat) (q : Int) (ch s0 s : Int -> Bool) (done pre : List Int) : Prop := ∀ r, renew a q ch s0 (done ++ r) = (pre ++ (renew a q ch s r).1, (renew a q ch s r).2)
theorem don_zero (a : Nat) (q : Int) (ch s0 : Int -> Bool) : Don a q ch s0 s0 [] [] := fun r => rfl
theorem don_skip {a : Nat} {q : Int} {ch s0 s : Int -> Bool} {done pre : List Int} {b : Int} (h : Don a q ch s0 s done pre) (hc : ch b = false) : Don a q ch s0 s (done ++ [b]) (pre ++ [b]) := fun r => by
 rw [List.append_assoc, h, List.singleton_append, renew_skip hc]; simp
theorem don_new {a : Nat} {q : Int} {ch s0 s : Int -> Bool} {done pre : List Int} {b x : Int} (h : Don a q ch s0 s done pre) (hc : ch b = true) (hp : pk a q s = (x, 0)) : Don a q ch s0 (more s x) (done ++ [b]) (pre ++ [x]) := fun r => by
 rw [List.append_assoc, h, List.singleton_append, renew_new hc hp]; simp
theorem don_fail {a : Nat} {q : Int} {ch s0 s : Int -> Bool} {done pre r : List Int} {b x c : Int} (h : Don a q ch s0 s done pre) (hc : ch b = true) (hp : pk a q s = (x, c)) (h0 : c ≠ 0) : (renew a q ch s0 (done ++ b :: r)).2 = c := by
 rw [h, renew_fail hc hp h0]
theorem don_all {a : Nat} {q : Int} {ch s0 s : Int -> Bool} {done pre : List Int} (h : Don a q ch s0 s done pre) : renew a q ch s0 done = (pre, 0) := by
 have := h []
 rw [List.append_nil, renew_nil, List.append_nil] at this
 exact this
theorem don_len {a : Nat} {q : Int} {ch s0 s : Int -> Bool} {done pre : List Int} (h : Don a q ch s0 s done pre) : pre.length = done.length := by
 have := renew_len a q ch done s0
 rw [don_all h] at this
 exact this
theorem take_next {l : List Int} {j : Nat} (h : j < l.length) : l.take (j + 1) = l.take j ++ [l.getD j 0] := by
 rw [List.take_succ_eq_append_getElem h, getD_at h]
theorem take_split {l : List Int} {j : Nat} (h : j < l.length) : l = l.take j ++ l.getD j 0 :: l.drop (j + 1) := by
 rw [getD_at h]; simp
theorem mid_get {l0 pre : List Int} {o t : Nat} (ho : o + pre.length <= l0.length) (ht : t < l0.length) : (mid l0 o pre)[t]? = if h : o <= t /\ t < o + pre.length then some (pre[t - o]'(by omega)) else l0[t]? := by
 have h1 : (l0.take o).length = o := by rw [List.length_take]; omega
 unfold mid
 split
 ·rename_i h
  rw [List.getElem?_append_left (by rw [List.length_append]; omega), List.getElem?_append_right (by omega), h1, List.getElem?_eq_getElem (by omega)]
 ·rename_i h
  by_cases c : t < o
  ·rw [List.getElem?_append_left (by rw [List.length_append]; omega), List.getElem?_append_left (by omega), List.getElem?_take, if_pos c]
  ·rw [List.getElem?_append_right (by rw [List.length_append]; omega), List.length_append, h1, List.getElem?_drop]
   congr 1; omega
structure Fil (u : Nat) (us l0 : List Int) (o : Nat) (pre : List Int) : Prop where
 fit : o + pre.length <= l0.length
 old : ∀ t (h : t < pre.length), l0.getD (o + t) 0 ≠ -1 -> pre[t] = l0.getD (o + t) 0
 new : ∀ t (h : t < pre.length), l0.getD (o + t) 0 = -1 -> ∃ k, k < 14 /\ pre[t] = ((14 * u + k : Nat) : Int) /\ pre[t] ∉ us
 one : ∀ t t' (h : t < pre.length) (h' : t' < pre.length), t < t' -> l0.getD (o + t) 0 = -1 -> l0.getD (o + t') 0 = -1 -> pre[t] ≠ pre[t']
theorem fil_of {u : Nat} {q : Int} {us l0 : List Int} {o L : Nat} {s : Int -> Bool} {pre : List Int} {j : Nat} (ho : o <= l0.length) (hj : j <= ((l0.take L).drop o).length) (h : Don (14 * u) q isHole (hasB us) s (((l0.take L).drop o).take j) pre) : Fil u us l0 o pre := by
 have hlen := don_len h
 have hall := don_all h
 rw [List.length_drop, List.length_take] at hj
 rw [List.length_take, List.length_drop, List.length_take] at hlen
 have hat : ∀ t, t < pre.length -> ∃ h : t < (((l0.take L).drop o).take j).length, (((l0.take L).drop o).take j)[t] = l0.getD (o + t) 0 := fun t ht => by
  have h1 : o + t < l0.length := by omega
  refine ⟨by rw [List.length_take, List.length_drop, List.length_take]; omega, ?_⟩
  rw [getD_at h1]
  simp
 obtain ⟨r1, r2⟩ := renew_facts _ _ _ _ _ (show (renew (14 * u) q isHole (hasB us) (((l0.take L).drop o).take j)).2 = 0 by rw [hall])
 rw [hall] at r1 r2
 dsimp only at r1 r2
 refine ⟨by omega, fun t ht hne => ?_, fun t ht he => ?_, fun t t' ht ht' hlt e1 e2 => ?_⟩
 ·obtain ⟨h1, e⟩ := hat t ht
  rw [(r1 t h1 ht).1 (by rw [e]; simpa [isHole] using hne), e]
 ·obtain ⟨h1, e⟩ := hat t ht
  obtain ⟨k, hk, e2, hf⟩ := (r1 t h1 ht).2 (by rw [e, he]; rfl)
  refine ⟨k, hk, e2, fun hm => ?_⟩
  rw [e2] at hm
  rw [has_mem.2 hm] at hf
  cases hf
 ·obtain ⟨h1, e⟩ := hat t ht
  obtain ⟨h1', e'⟩ := hat t' ht'
  exact r2 t t' h1 h1' ht ht' hlt (by rw [e, e1]; rfl) (by rw [e', e2]; rfl)
theorem fil_mem {u : Nat} {us l0 : List Int} {o : Nat} {pre : List Int} (h : Fil u us l0 o pre) {z : Int} (hz : z ≠ -1) : z ∈ mid l0 o pre ↔ z ∈ l0 \/ z ∈ pre := by
 constructor
 ·intro hm
  unfold mid at hm
  simp only [List.mem_append] at hm
  rcases hm with (hm | hm) | hm
  ·exact .inl (List.mem_of_mem_take hm)
  ·exact .inr hm
  ·exact .inl (List.mem_of_mem_drop hm)
 ·rintro (hm | hm)
  ·obtain ⟨t, ht, rfl⟩ := List.mem_iff_getElem.1 hm
   have hl : t < (mid l0 o pre).length := by rw [mid_len h.fit]; exact ht
   have hg := mid_get h.fit ht
   by_cases c : o <= t /\ t < o + pre.length
   ·rw [dif_pos c] at hg
    have := h.old (t - o) (by omega) (by rw [show o + (t - o) = t from by omega, getD_at ht]; exact hz)
    rw [show o + (t - o) = t from by omega, getD_at ht] at this
    rw [<- this]
    unfold mid
    simp
   ·rw [dif_neg c, List.getElem?_eq_getElem ht] at hg
    exact List.mem_of_getElem? hg
  ·unfold mid; simp [hm]
theorem pre_in {u : Nat} {us l0 : List Int} {o : Nat} {pre : List Int} (h : Fil u us l0 o pre) {z : Int} (hz : z ∈ pre) : (∃ t, ∃ ht : t < pre.length, pre[t] = z /\ z ∈ l0 /\ z ≠ -1) \/ (∃ t, ∃ ht : t < pre.length, pre[t] = z /\ l0.getD (o + t) 0 = -1 /\ z ∉ us /\ ∃ k, k < 14 /\ z = ((14 * u + k : Nat) : Int)) := by
 obtain ⟨t, ht, rfl⟩ := List.mem_iff_getElem.1 hz
 have hf := h.fit
 by_cases c : l0.getD (o + t) 0 = -1
 ·obtain ⟨k, hk, e, hn⟩ := h.new t ht c
  exact .inr ⟨t, ht, rfl, c, hn, k, hk, e⟩
 ·exact .inl ⟨t, ht, rfl, by rw [h.old t ht c]; exact mem_getD (by omega), by rw [h.old t ht c]; exact c⟩
theorem fil_dis {u : Nat} {us l0 : List Int} {o : Nat} {pre : List Int} (h : Fil u us l0 o pre) (hd : Dis l0) (hu : ∀ b ∈ usedV l0, b ∈ us) : Dis (mid l0 o pre) := by
 rw [dis_iff]
 intro t t' ht ht' hlt hne e
 rw [mid_len h.fit] at ht ht'
 have hf := h.fit
 have h1 := mid_get h.fit ht
 have h2 := mid_get h.fit ht'
 rw [List.getElem?_eq_getElem (by rw [mid_len h.fit]; exact ht)] at h1
 rw [List.getElem?_eq_getElem (by rw [mid_len h.fit]; exact ht')] at h2
 have hold : ∀ s (hs : s < l0.length), l0[s] ≠ -1 -> l0[s] ∈ us := fun s hs hn => hu _ (List.mem_filter.2 ⟨List.getElem_mem hs, by simpa using hn⟩)
 have key : ∀ s (hs : s < l0.length) (z : Int), some z = (if h : o <= s /\ s < o + pre.length then some (pre[s - o]'(by omega)) else l0[s]?) -> (z = l0[s] /\ (l0[s] ≠ -1 \/ ¬ (o <= s /\ s < o + pre.length))) \/ (l0[s] = -1 /\ z ∉ us /\ z ≠ -1 /\ ∃ (h3 : o <= s) (h4 : s - o < pre.length), z = pre[s - o]) := fun s hs z hz => by
  by_cases c : o <= s /\ s < o + pre.length
  ·rw [dif_pos c, Option.some.injEq] at hz
   by_cases c2 : l0[s] = -1
   ·obtain ⟨k, hk, e, hn⟩ := h.new (s - o) (by omega) (by rw [show o + (s - o) = s from by omega, getD_at hs]; exact c2)
    exact .inr ⟨c2, by rw [hz]; exact hn, by rw [hz, e]; omega, c.1, by omega, hz⟩
   ·have := h.old (s - o) (by omega) (by rw [show o + (s - o) = s from by omega, getD_at hs]; exact c2)
    rw [show o + (s - o) = s from by omega, getD_at hs] at this
    exact .inl ⟨by rw [hz, this], .inl c2⟩
  ·rw [dif_neg c, List.getElem?_eq_getElem hs, Option.some.injEq] at hz
   exact .inl ⟨hz, .inr c⟩
 rcases key t ht _ h1 with ⟨a1, a2⟩ | ⟨a1, a2, a3, a4, a5, a6⟩
 ·rcases key t' ht' _ h2 with ⟨b1, b2⟩ | ⟨b1, b2, b3, b4, b5, b6⟩
  ·exact dis_iff.1 hd t t' ht ht' hlt (by rw [<- a1]; exact hne) (by rw [<- a1, <- b1]; exact e)
  ·refine b2 ?_
   rw [<- e, a1]
   exact hold t ht (by rw [<- a1]; exact hne)
 ·rcases key t' ht' _ h2 with ⟨b1, b2⟩ | ⟨b1, b2, b3, b4, b5, b6⟩
  ·refine a2 ?_
   rw [e, b1]
   exact hold t' ht' (by rw [<- b1, <- e]; exact hne)
  ·refine h.one (t - o) (t' - o) (by omega) (by omega) (by omega) ?_ ?_ ?_
   ·rw [show o + (t - o) = t from by omega, getD_at ht]; exact a1
   ·rw [show o + (t' - o) = t' from by omega, getD_at ht']; exact b1
   ·rw [<- a6, <- b6]; exact e
theorem usedV_of {bs : List Int} {z : Int} : z ∈ usedV bs ↔ z ∈ bs /\ z ≠ -1 := by rw [usedV, List.mem_filter]; simp
theorem holes_used {bs : List Int} {m : Nat} (hm : bs.length <= m) {z : Int} (hz : z ≠ -1) : z ∈ holes bs m ↔ z ∈ bs := by
 rw [holes, List.take_of_length_le (by rw [List.length_append, List.length_replicate]; omega), List.mem_append, List.mem_replicate]
 exact ⟨fun h => h.elim id (fun h => absurd h.2 hz), .inl⟩
theorem fil_half {f : F} {i : Nat} {n' : I} {u : Nat} {l0 : List Int} {o : Nat} {pre : List Int} {m : Nat} (g : GoodF f i) (hu : (ino f i).uid = u) (hl : l0 = holes (ino f i).blocks m) (hm : (ino f i).blocks.length <= m) (h : Fil u (allB f.inodes) l0 o pre) (hn : n'.uid = u) (hb : n'.blocks = mid l0 o pre) (d : List ByteArray) (hd : d.length = 56) : Half { f with inodes := f.inodes.set i n', data := d } /\ ∀ z : Int, hasB (allB (f.inodes.set i n')) z = (hasB (allB f.inodes) z || hasB pre z) := by
 obtain ⟨q1, q2, q3, q4, q5⟩ := half_of g.ok
 have hi : i < f.inodes.length := by have := g.lt; omega
 have hmem : ∀ z : Int, z ≠ -1 -> (z ∈ l0 ↔ z ∈ (ino f i).blocks) := fun z hz => by rw [hl]; exact holes_used hm hz
 have hold : ∀ b ∈ usedV l0, b ∈ allB f.inodes := fun b hb => by
  rw [usedV_of] at hb
  exact g.used (usedV_of.2 ⟨(hmem b hb.2).1 hb.1, hb.2⟩)
 have hdis : Dis l0 := by rw [hl]; exact FsZr.holes_dis g.dis
 have hus : ∀ b ∈ usedV n'.blocks, (b ∈ l0 /\ b ≠ -1) \/ (b ∈ pre /\ b ∉ allB f.inodes /\ ∃ k, k < 14 /\ b = ((14 * u + k : Nat) : Int)) := fun b hbb => by
  rw [hb, usedV_of] at hbb
  rcases (fil_mem h hbb.2).1 hbb.1 with c | c
  ·exact .inl ⟨c, hbb.2⟩
  ·rcases pre_in h c with ⟨t, ht, e, c1, c2⟩ | ⟨t, ht, e, c1, c2, c3⟩
   ·exact .inl ⟨c1, c2⟩
   ·exact .inr ⟨c, c2, c3⟩
 have huid := g.uid
 have hown := own_set (n := n') q5 hi (fun b hbb => ?_) (by rw [hb]; exact dis_used.1 (fil_dis h hdis hold)) (fun b hbb => ?_)
 ·refine ⟨⟨q1, by simpa using q2, hd, fun x hx => ?_, hown⟩, fun z => ?_⟩
  ·rcases List.mem_or_eq_of_mem_set hx with hx | rfl
   ·exact q4 x hx
   ·rw [hn, <- hu]; exact huid
  ·rw [Bool.eq_iff_iff, Bool.or_eq_true, has_mem, has_mem, has_mem, all_set _ _ _ hi, all_split f.inodes i hi]
   simp only [List.mem_append]
   rw [show f.inodes.getD i InoV.zero = ino f i from rfl]
   constructor
   ·rintro (c | c | c)
    ·exact .inl (.inl c)
    ·rcases hus z c with ⟨c1, c2⟩ | ⟨c1, _⟩
     ·exact .inl (.inr (.inl (usedV_of.2 ⟨(hmem z c2).1 c1, c2⟩)))
     ·exact .inr c1
    ·exact .inl (.inr (.inr c))
   ·rintro ((c | c | c) | c)
    ·exact .inl c
    ·rw [usedV_of] at c
     exact .inr (.inl (usedV_of.2 ⟨by rw [hb]; exact (fil_mem h c.2).2 (.inl ((hmem z c.2).2 c.1)), c.2⟩))
    ·exact .inr (.inr c)
    ·rcases pre_in h c with ⟨t, ht, e, c1, c2⟩ | ⟨t, ht, e, c1, c2, k, hk, c3⟩
     ·exact .inr (.inl (usedV_of.2 ⟨by rw [hb]; exact (fil_mem h c2).2 (.inr c), c2⟩))
     ·exact .inr (.inl (usedV_of.2 ⟨by rw [hb]; exact (fil_mem h (by omega)).2 (.inr c), by omega⟩))
 ·rcases hus b hbb with ⟨c1, c2⟩ | ⟨_, _, k, hk, c3⟩
  ·rw [hn, <- hu]
   exact g.own (usedV_of.2 ⟨(hmem b c2).1 c1, c2⟩)
  ·rw [hn, c3]; unfold ownerV; split <;> omega
 ·rcases hus b hbb with ⟨c1, c2⟩ | ⟨_, c2, _⟩
  ·exact .inl (usedV_of.2 ⟨(hmem b c2).1 c1, c2⟩)
  ·exact .inr c2
theorem segD_snoc (a : Nat) (s : List UInt8) (b : Int) : ∀ (bs : List Int) (k : Nat) (d : List ByteArray), segD a s k (bs ++ [b]) d = (segD a s k bs d).set b.toNat (putB (dat (segD a s k bs d) b) (segO a (k + bs.length)) (segS a s (k + bs.length))) := by
 intro bs
 induction bs with
 | nil => intro k d; rfl
 | cons x r ih =>
  intro k d
  rw [List.cons_append, segD, segD, ih, List.length_cons, show k + 1 + r.length = k + (r.length + 1) from by omega]
theorem segD_size (a : Nat) (s : List UInt8) : ∀ (bs : List Int) (k : Nat) (d : List ByteArray), (∀ x ∈ d, x.size = 32) -> (∀ t, t < bs.length -> segO a (k + t) + (segS a s (k + t)).length <= 32) -> (∀ b ∈ bs, b.toNat < d.length) -> ∀ x ∈ segD a s k bs d, x.size = 32 := by
 intro bs
 induction bs with
 | nil => intro k d h _ _ x hx; exact h x hx
 | cons b r ih =>
  intro k d h hs hb x hx
  have hb0 := hb b (by simp)
  rw [segD] at hx
  refine ih (k + 1) _ (fun y hy => ?_) (fun t ht => ?_) (fun y hy => by rw [List.length_set]; exact hb y (by simp [hy])) x hx
  ·rcases List.mem_or_eq_of_mem_set hy with hy | rfl
   ·exact h y hy
   ·have h1 := h (dat d b) (mem_getD hb0)
    have h0 := hs 0 (by simp)
    rw [Nat.add_zero] at h0
    have h2 : (dat d b).data.toList.length = 32 := by simpa using h1
    show (splice _ _ _).toArray.size = 32
    rw [List.size_toArray, splice_len (by rw [h2]; exact h0), h2]
  ·have := hs (t + 1) (by simpa using ht)
   rw [show k + 1 + t = k + (t + 1) from by omega]; exact this
theorem seg_fit {a k : Nat} {s : List UInt8} (h1 : a / 32 <= k) (h2 : 32 * k < a + s.length) : segO a k + (segS a s k).length <= 32 /\ (segS a s k).length = min (a + s.length) (32 * k + 32) - max a (32 * k) /\ segO a k < 32 := by
 have e1 : (segS a s k).length = min (a + s.length) (32 * k + 32) - max a (32 * k) := by
  rw [segS, List.length_drop, List.length_take]; omega
 exact ⟨by rw [e1]; unfold segO; omega, e1, by unfold segO; omega⟩
end Go.Proofs.YthppbcnejapbiaaGreatDoor.FsWm

-- YthppbcnejapbiaaGreatDoorCoWb
/- A part. -/
namespace Go.Proofs.YthppbcnejapbiaaGreatDoor.CoWb
set_option maxHeartbeats 12800000
set_option maxRecDepth 100000
open Go.ChangeShapes Go.WideShapes Go.ChangeAt Go.RowKit
open Foot Bx
open InoV (I usedV needV)
open FsV (F okF e0 z32)
open FsY FsZ FoB CoN
open RowG (cellsB cellsB_length)
set_option linter.unusedVariables false
open CoFr (good_of)
def codeV (f : F) (i a : Int) (n : Nat) : Int := if !(hasObjB f i && decide (0 <= a)) then 1 else if 256 - (n : Int) < a then 9 else 0
theorem ret_int {a b : Int} (h : a = b) : Ending.returned (.int .i64 a) = .returned (.int .i64 b) := by rw [h]
theorem code_impl (w : World) (v : Value) (f : F) (i a : Int) (n : Nat) (hn : n <= 1073741824) (hc : FsF.cost f <= 1073741824) (hl : FsF.Lim f) (hv : InOk.Vars w) (h : FsF.Holds w v f) :
  Calls Tryz.prog 117 #[v, .int .i64 i, .int .i64 a, .int .i64 n] w fun e w' => e = .returned (.int .i64 (codeV f i a n)) /\ Below w.heap.size w w' := by
 have HFS := Lib.hid h
 have HCC := Lib.hid hc
 have HLM := Lib.hid hl
 have HV := Lib.hid hv
 obtain ⟨r0, r1, r2, rfl, g0, g1, g2⟩ := h
 obtain ⟨qa, qc, rfl⟩ := QF.form g0
 obtain ⟨ia, ic, rfl⟩ := IF.form g1
 obtain ⟨da, dc, rfl⟩ := SF.form g2
 clear g0 g1 g2 hc hl hv
 obtain ⟨T, hT⟩ : ∃ T, T = f.tick := ⟨_, rfl⟩
 obtain ⟨Q, hQ⟩ : ∃ Q, Q = f.quotas.length := ⟨_, rfl⟩
 obtain ⟨M, hM⟩ : ∃ M, M = f.inodes.length := ⟨_, rfl⟩
 obtain ⟨D, hD⟩ : ∃ D, D = f.data.length := ⟨_, rfl⟩
 rw [<- hT, <- hQ, <- hM, <- hD] at HFS ⊢
 clear hT hQ hM hD
 have HB0 := Lib.hid ((Below.refl w.heap.size w).alloc (Nat.le_refl _) (.cells #[.int .i64 T, .slice qa Q qc, .slice ia M ic, .slice da D dc] 33))
 obtain ⟨C, hC⟩ : ∃ C, C = hasObjB f i := ⟨_, rfl⟩
 have HHA := Lib.hid (fun W (hw : Below w.heap.size w W) => show Calls Tryz.prog 80 #[.agg #[.int .i64 T, .slice qa Q qc, .slice ia M ic, .slice da D dc], .int .i64 i] W fun e w' => e = .returned (.bool C) /\ Below W.heap.size W w' from by rw [hC]; exact has_impl W _ f i HCC.out HLM.out (HV.out.all hw) (FsF.holds_below HFS.out hw))
 have HCE := Lib.hid hC
 cases C
 ·have HVV := Lib.hid (show codeV f i a n = 1 from by unfold codeV; rw [<- hC]; rfl)
  clear hC
  go_enter Tryz.func117, Tryz.ntmps117
  go_wp2_with fail
  refine (HHA.out _ HB0.out).mono ?_
  rintro e w1 ⟨rfl, hb⟩
  have HB1 := Lib.hid (HB0.out.trans (hb.mono HB0.out.size))
  clear hb
  go_wp2
  go_ret
  exact ⟨ret_int HVV.out.symm, HB1.out⟩
 ·by_cases ha : 0 <= a
  ·have q0 : decide (a < 0) = false := decide_eq_false (by omega)
   by_cases hm : 256 - (n : Int) < a
   ·have HVV := Lib.hid (show codeV f i a n = 9 from by unfold codeV; rw [<- hC, decide_eq_true ha, if_pos hm]; rfl)
    have q1 : decide (256 - (n : Int) < a) = true := decide_eq_true hm
    clear hC ha hm
    go_enter Tryz.func117, Tryz.ntmps117
    go_wp2_with fail
    refine (HHA.out _ HB0.out).mono ?_
    rintro e w1 ⟨rfl, hb⟩
    have HB1 := Lib.hid (HB0.out.trans (hb.mono HB0.out.size))
    clear hb
    go_wp2
    go_ret
    exact ⟨ret_int HVV.out.symm, HB1.out⟩
   ·have HVV := Lib.hid (show codeV f i a n = 0 from by unfold codeV; rw [<- hC, decide_eq_true ha, if_neg hm]; rfl)
    have q1 : decide (256 - (n : Int) < a) = false := decide_eq_false hm
    clear hC ha hm
    go_enter Tryz.func117, Tryz.ntmps117
    go_wp2_with fail
    refine (HHA.out _ HB0.out).mono ?_
    rintro e w1 ⟨rfl, hb⟩
    have HB1 := Lib.hid (HB0.out.trans (hb.mono HB0.out.size))
    clear hb
    go_wp2
    go_ret
    exact ⟨ret_int HVV.out.symm, HB1.out⟩
  ·have HVV := Lib.hid (show codeV f i a n = 1 from by unfold codeV; rw [decide_eq_false ha, Bool.and_false]; rfl)
   have q0 : decide (a < 0) = true := decide_eq_true (by omega)
   clear hC ha
   go_enter Tryz.func117, Tryz.ntmps117
   go_wp2_with fail
   refine (HHA.out _ HB0.out).mono ?_
   rintro e w1 ⟨rfl, hb⟩
   have HB1 := Lib.hid (HB0.out.trans (hb.mono HB0.out.size))
   clear hb
   go_wp2
   go_ret
   exact ⟨ret_int HVV.out.symm, HB1.out⟩
theorem own_shape {w : World} {base : Nat} {v : Value} {n : I} {S : List Nat} (h : In.Own w base v n S) : ∃ (a0 : Option Addr) (c0 : Nat) (a1 : Option Addr) (c1 : Nat) (a2 : Option Addr) (c2 : Nat), v = .agg #[.int .i64 n.kind, .int .i64 n.mode, .int .i64 n.uid, .int .i64 n.gid, .int .i64 n.links, .int .i64 n.size, .int .i64 n.tick, .slice a0 n.blocks.length c0, .slice a1 n.acl.length c1, .slice a2 n.dflt.length c2] := by
 obtain ⟨r0, r1, r2, S0, S1, S2, rfl, _, _, h0, h1, h2⟩ := h
 obtain ⟨x0, c0, rfl⟩ := NiF.own_form h0
 obtain ⟨x1, c1, rfl⟩ := AeF.own_form h1
 obtain ⟨x2, c2, rfl⟩ := AeF.own_form h2
 exact ⟨_, _, _, _, _, _, rfl⟩
def Nx (w : World) (cs : Array Value) (n : I) (p : Value) (W : World) : Prop :=
 ∃ (nb : Nat) (a0 : Option Addr) (c0 : Nat) (a1 : Option Addr) (c1 : Nat) (a2 : Option Addr) (c2 : Nat) (S : List Nat), p = .pointer (some ⟨nb, 0, none⟩) /\ Bk W nb #[.int .i64 n.kind, .int .i64 n.mode, .int .i64 n.uid, .int .i64 n.gid, .int .i64 n.links, .int .i64 n.size, .int .i64 n.tick, .slice a0 n.blocks.length c0, .slice a1 n.acl.length c1, .slice a2 n.dflt.length c2] 89 /\ In.Own W (w.heap.size + 1 + 1) (.agg #[.int .i64 n.kind, .int .i64 n.mode, .int .i64 n.uid, .int .i64 n.gid, .int .i64 n.links, .int .i64 n.size, .int .i64 n.tick, .slice a0 n.blocks.length c0, .slice a1 n.acl.length c1, .slice a2 n.dflt.length c2]) n S /\ nb ∉ S /\ w.heap.size + 1 < nb /\ Bk W w.heap.size cs 33 /\ Bk W (w.heap.size + 1) #[.int .i64 0, .slice none 0 0, .slice none 0 0, .slice none 0 0] 33 /\ Below w.heap.size w W
theorem write_impl (w : World) (v : Value) (f : F) (i a : Int) (s : ByteArray) (hc : FsF.cost f <= 1073741824) (hl : FsF.Lim f) (hv : InOk.Vars w) (hs : s.size <= 1073741824) (h : FsF.Holds w v f) :
    Calls Tryz.prog 65 #[v, .int .i64 i, .int .i64 a, .string s] w fun e w' => ∃ v' S, e = .returned (.tuple #[v', .int .i64 (writeV f i a s).2]) /\ FsF.Own w' w.heap.size v' (writeV f i a s).1 S /\ Below w.heap.size w w' := by
  have HFS := Lib.hid h
  have HCC := Lib.hid hc
  have HLM := Lib.hid hl
  have HV := Lib.hid hv
  obtain ⟨r0, r1, r2, rfl, g0, g1, g2⟩ := h
  have HI1 := Lib.hid g1
  obtain ⟨qa, qc, rfl⟩ := QF.form g0
  obtain ⟨ia, ic, rfl⟩ := IF.form g1
  obtain ⟨da, dc, rfl⟩ := SF.form g2
  clear g0 g1 g2 hc hl hv
  obtain ⟨T, hT⟩ : ∃ T, T = f.tick := ⟨_, rfl⟩
  obtain ⟨Q, hQ⟩ : ∃ Q, Q = f.quotas.length := ⟨_, rfl⟩
  obtain ⟨M, hM⟩ : ∃ M, M = f.inodes.length := ⟨_, rfl⟩
  obtain ⟨D, hD⟩ : ∃ D, D = f.data.length := ⟨_, rfl⟩
  rw [<- hT, <- hQ, <- hM, <- hD] at HFS ⊢
  rw [<- hM] at HI1
  have HM := Lib.hid hM
  clear hT hQ hM hD
  have HB0 := Lib.hid (((Below.refl w.heap.size w).alloc (Nat.le_refl _) (.cells #[.int .i64 T, .slice qa Q qc, .slice ia M ic, .slice da D dc] 33)).alloc (by simp) (.cells #[.int .i64 0, .slice none 0 0, .slice none 0 0, .slice none 0 0] 33))
  have HX0 := Lib.hid ((new w #[.int .i64 T, .slice qa Q qc, .slice ia M ic, .slice da D dc] 33).alloc (.cells #[.int .i64 0, .slice none 0 0, .slice none 0 0, .slice none 0 0] 33))
  have HR0 := Lib.hid (new_at (w.alloc (.cells #[.int .i64 T, .slice qa Q qc, .slice ia M ic, .slice da D dc] 33)) #[.int .i64 0, .slice none 0 0, .slice none 0 0, .slice none 0 0] 33 (w.heap.size + 1) (by simp))
  have HS0 := Lib.hid (show w.heap.size + 1 + 1 <= ((w.alloc (.cells #[.int .i64 T, .slice qa Q qc, .slice ia M ic, .slice da D dc] 33)).alloc (.cells #[.int .i64 0, .slice none 0 0, .slice none 0 0, .slice none 0 0] 33)).heap.size by simp)
  have HCP := Lib.hid (fun (W : World) (hb : Below w.heap.size w W) => CpG.copy_impl W _ f HCC.out HLM.out (FsF.holds_below HFS.out hb))
  obtain ⟨C, hC⟩ : ∃ C, C = codeV f i a s.size := ⟨_, rfl⟩
  have HWC := Lib.hid (fun W (hw : Below w.heap.size w W) => show Calls Tryz.prog 117 #[.agg #[.int .i64 T, .slice qa Q qc, .slice ia M ic, .slice da D dc], .int .i64 i, .int .i64 a, .int .i64 s.size] W fun e w' => e = .returned (.int .i64 C) /\ Below W.heap.size W w' from by rw [hC]; exact code_impl W _ f i a s.size hs HCC.out HLM.out (HV.out.all hw) (FsF.holds_below HFS.out hw))
  by_cases hb1 : (hasObjB f i && decide (0 <= a)) = false
  · obtain rfl : C = 1 := by rw [hC]; unfold codeV; rw [hb1]; rfl
    have HVV := Lib.hid (show writeV f i a s = (f, 1) from by unfold writeV; rw [hb1]; rfl)
    clear hC hb1
    go_enter Tryz.func65, Tryz.ntmps65
    go_wp2_with fail
    refine (HWC.out _ HB0.out).mono ?_
    rintro e w1 ⟨rfl, hb⟩
    have HB1 := Lib.hid (HB0.out.trans (hb.mono HB0.out.size))
    have HX1 := Lib.hid (HX0.out.all hb)
    have HR1 := Lib.hid (HR0.out.all hb)
    have HS1 := Lib.hid (Nat.le_trans HS0.out hb.size)
    clear hb
    obtain ⟨x0, x1, x2, x3⟩ := Bk.c4 HX1.out
    go_wp2_with fail
    refine (HCP.out _ HB1.out).mono ?_
    rintro e w2 ⟨y, S, rfl, hown, hb⟩
    obtain ⟨z0, z1a, z1n, z1c, z2a, z2n, z2c, z3a, z3n, z3c, rfl⟩ := FsF.own_form hown
    have HB2 := Lib.hid (HB1.out.trans (hb.mono HB1.out.size))
    have HR2 := Lib.hid (HR1.out.all hb)
    have HNS := Lib.hid (show w.heap.size + 1 ∉ S from fun hh => by have h1 := (FsF.own_lies hown _ hh).1; have h2 := HS1.out; omega)
    have HOW := Lib.hid (FsF.own_mono hown HB1.out.size)
    clear hb hown
    obtain ⟨r0, r1, r2, r3⟩ := Bk.c4 HR2.out
    have f0 := HR2.out.free 0
    have f1 := HR2.out.free 1
    have f2 := HR2.out.free 2
    have f3 := HR2.out.free 3
    go_wp2
    have hF := FoB.box4_bk HR2.out (.int .i64 z0) (.slice z1a z1n z1c) (.slice z2a z2n z2c) (.slice z3a z3n z3c)
    have hC9 := FoB.box4_chg w2 (w.heap.size + 1) (.int .i64 z0) (.slice z1a z1n z1c) (.slice z2a z2n z2c) (.slice z3a z3n z3c)
    unfold FoB.box4 at hF hC9
    generalize ((((w2.setCell ⟨w.heap.size + 1, 0, none⟩ (.int .i64 z0)).setCell ⟨w.heap.size + 1, 1, none⟩ (.slice z1a z1n z1c)).setCell ⟨w.heap.size + 1, 2, none⟩ (.slice z2a z2n z2c)).setCell ⟨w.heap.size + 1, 3, none⟩ (.slice z3a z3n z3c)) = w9 at hF hC9 ⊢
    obtain ⟨e0, e1, e2, e3⟩ := Bk.c4 hF
    have hres := FsF.own_mono (FsF.own_chg HOW.out hC9 (fun x hx hh => by rw [List.mem_singleton] at hh; subst hh; exact HNS.out hx)) (show w.heap.size <= w.heap.size from Nat.le_refl _)
    refine bodyPost_ret (v := .tuple #[.agg #[.int .i64 z0, .slice z1a z1n z1c, .slice z2a z2n z2c, .slice z3a z3n z3c], .int .i64 1]) (by simp [results, Tryz.results65, go_sem, e0, e1, e2, e3]) rfl ?_
    exact ⟨_, S, by rw [HVV.out], by rw [HVV.out]; exact hres, HB2.out.trans (FoB.Chg.from hC9 HB2.out.size (Nat.le_succ _))⟩
  · have hb2 : (hasObjB f i && decide (0 <= a)) = true := by simpa using hb1
    clear hb1
    by_cases hm : 256 - (s.size : Int) < a
    · obtain rfl : C = 9 := by rw [hC]; unfold codeV; rw [hb2, if_pos hm]; rfl
      have HVV := Lib.hid (show writeV f i a s = (f, 9) from by unfold writeV; rw [hb2, if_pos hm]; rfl)
      clear hC hb2 hm
      go_enter Tryz.func65, Tryz.ntmps65
      go_wp2_with fail
      refine (HWC.out _ HB0.out).mono ?_
      rintro e w1 ⟨rfl, hb⟩
      have HB1 := Lib.hid (HB0.out.trans (hb.mono HB0.out.size))
      have HX1 := Lib.hid (HX0.out.all hb)
      have HR1 := Lib.hid (HR0.out.all hb)
      have HS1 := Lib.hid (Nat.le_trans HS0.out hb.size)
      clear hb
      obtain ⟨x0, x1, x2, x3⟩ := Bk.c4 HX1.out
      go_wp2_with fail
      refine (HCP.out _ HB1.out).mono ?_
      rintro e w2 ⟨y, S, rfl, hown, hb⟩
      obtain ⟨z0, z1a, z1n, z1c, z2a, z2n, z2c, z3a, z3n, z3c, rfl⟩ := FsF.own_form hown
      have HB2 := Lib.hid (HB1.out.trans (hb.mono HB1.out.size))
      have HR2 := Lib.hid (HR1.out.all hb)
      have HNS := Lib.hid (show w.heap.size + 1 ∉ S from fun hh => by have h1 := (FsF.own_lies hown _ hh).1; have h2 := HS1.out; omega)
      have HOW := Lib.hid (FsF.own_mono hown HB1.out.size)
      clear hb hown
      obtain ⟨r0, r1, r2, r3⟩ := Bk.c4 HR2.out
      have f0 := HR2.out.free 0
      have f1 := HR2.out.free 1
      have f2 := HR2.out.free 2
      have f3 := HR2.out.free 3
      go_wp2
      have hF := FoB.box4_bk HR2.out (.int .i64 z0) (.slice z1a z1n z1c) (.slice z2a z2n z2c) (.slice z3a z3n z3c)
      have hC9 := FoB.box4_chg w2 (w.heap.size + 1) (.int .i64 z0) (.slice z1a z1n z1c) (.slice z2a z2n z2c) (.slice z3a z3n z3c)
      unfold FoB.box4 at hF hC9
      generalize ((((w2.setCell ⟨w.heap.size + 1, 0, none⟩ (.int .i64 z0)).setCell ⟨w.heap.size + 1, 1, none⟩ (.slice z1a z1n z1c)).setCell ⟨w.heap.size + 1, 2, none⟩ (.slice z2a z2n z2c)).setCell ⟨w.heap.size + 1, 3, none⟩ (.slice z3a z3n z3c)) = w9 at hF hC9 ⊢
      obtain ⟨e0, e1, e2, e3⟩ := Bk.c4 hF
      have hres := FsF.own_mono (FsF.own_chg HOW.out hC9 (fun x hx hh => by rw [List.mem_singleton] at hh; subst hh; exact HNS.out hx)) (show w.heap.size <= w.heap.size from Nat.le_refl _)
      refine bodyPost_ret (v := .tuple #[.agg #[.int .i64 z0, .slice z1a z1n z1c, .slice z2a z2n z2c, .slice z3a z3n z3c], .int .i64 9]) (by simp [results, Tryz.results65, go_sem, e0, e1, e2, e3]) rfl ?_
      exact ⟨_, S, by rw [HVV.out], by rw [HVV.out]; exact hres, HB2.out.trans (FoB.Chg.from hC9 HB2.out.size (Nat.le_succ _))⟩
    · obtain rfl : C = 0 := by rw [hC]; unfold codeV; rw [hb2, if_neg hm]; rfl
      by_cases h0 : s.size = 0
      · have HVV := Lib.hid (show writeV f i a s = (f, 0) from by unfold writeV; rw [hb2, if_neg hm, if_pos h0]; rfl)
        have e1 := IsName.emp_true s h0
        have e2 : s.toList = [] := List.isEmpty_iff.1 e1
        clear hC hb2 hm h0
        go_enter Tryz.func65, Tryz.ntmps65
        go_wp2_with fail
        refine (HWC.out _ HB0.out).mono ?_
        rintro e w1 ⟨rfl, hb⟩
        have HB1 := Lib.hid (HB0.out.trans (hb.mono HB0.out.size))
        have HX1 := Lib.hid (HX0.out.all hb)
        have HR1 := Lib.hid (HR0.out.all hb)
        have HS1 := Lib.hid (Nat.le_trans HS0.out hb.size)
        clear hb
        obtain ⟨x0, x1, x2, x3⟩ := Bk.c4 HX1.out
        go_wp2_with fail
        refine (HCP.out _ HB1.out).mono ?_
        rintro e w2 ⟨y, S, rfl, hown, hb⟩
        obtain ⟨z0, z1a, z1n, z1c, z2a, z2n, z2c, z3a, z3n, z3c, rfl⟩ := FsF.own_form hown
        have HB2 := Lib.hid (HB1.out.trans (hb.mono HB1.out.size))
        have HR2 := Lib.hid (HR1.out.all hb)
        have HNS := Lib.hid (show w.heap.size + 1 ∉ S from fun hh => by have h1 := (FsF.own_lies hown _ hh).1; have h2 := HS1.out; omega)
        have HOW := Lib.hid (FsF.own_mono hown HB1.out.size)
        clear hb hown
        obtain ⟨r0, r1, r2, r3⟩ := Bk.c4 HR2.out
        have f0 := HR2.out.free 0
        have f1 := HR2.out.free 1
        have f2 := HR2.out.free 2
        have f3 := HR2.out.free 3
        go_wp2
        have hF := FoB.box4_bk HR2.out (.int .i64 z0) (.slice z1a z1n z1c) (.slice z2a z2n z2c) (.slice z3a z3n z3c)
        have hC9 := FoB.box4_chg w2 (w.heap.size + 1) (.int .i64 z0) (.slice z1a z1n z1c) (.slice z2a z2n z2c) (.slice z3a z3n z3c)
        unfold FoB.box4 at hF hC9
        generalize ((((w2.setCell ⟨w.heap.size + 1, 0, none⟩ (.int .i64 z0)).setCell ⟨w.heap.size + 1, 1, none⟩ (.slice z1a z1n z1c)).setCell ⟨w.heap.size + 1, 2, none⟩ (.slice z2a z2n z2c)).setCell ⟨w.heap.size + 1, 3, none⟩ (.slice z3a z3n z3c)) = w9 at hF hC9 ⊢
        obtain ⟨e0, e1, e2, e3⟩ := Bk.c4 hF
        have hres := FsF.own_mono (FsF.own_chg HOW.out hC9 (fun x hx hh => by rw [List.mem_singleton] at hh; subst hh; exact HNS.out hx)) (show w.heap.size <= w.heap.size from Nat.le_refl _)
        refine bodyPost_ret (v := .tuple #[.agg #[.int .i64 z0, .slice z1a z1n z1c, .slice z2a z2n z2c, .slice z3a z3n z3c], .int .i64 0]) (by simp [results, Tryz.results65, go_sem, e0, e1, e2, e3]) rfl ?_
        exact ⟨_, S, by rw [HVV.out], by rw [HVV.out]; exact hres, HB2.out.trans (FoB.Chg.from hC9 HB2.out.size (Nat.le_succ _))⟩
      · have e1 := IsName.emp_false s h0
        have e2 : (!s.toList.isEmpty) = true := by rw [e1]; rfl
        rw [Bool.and_eq_true, decide_eq_true_eq] at hb2
        obtain ⟨hb2, ha0⟩ := hb2
        obtain ⟨k, rfl, hg⟩ := good_of hb2
        obtain ⟨an, rfl⟩ : ∃ an : Nat, a = an := ⟨a.toNat, by omega⟩
        obtain ⟨l, hl⟩ : ∃ l, l = s.size := ⟨_, rfl⟩
        have hl0 : 0 < l := by omega
        have hal : an + l <= 256 := by omega
        have HL := Lib.hid hl
        have HG := Lib.hid hg
        obtain ⟨n, hn⟩ : ∃ n, n = ino f k := ⟨_, rfl⟩
        have HVV := Lib.hid (show writeV f k an s = if (wrR f n an l).2 = 0 then (withV f k { wrI n an l with blocks := wrB f n an l } (splice (content f.data n.blocks) an s.data.toList), 0) else (f, (wrR f n an l).2) from by
          unfold writeV
          rw [hb2, decide_eq_true ha0, if_neg hm, if_neg h0, hn, hl]; rfl)
        have HN := Lib.hid hn
        clear hC hb2 hm h0 ha0 hg hn
        have hM20 : M = 20 := by rw [HM.out]; exact (FsV.parts_of (FsV.ok_parts HG.out.ok).2.1).2.1
        subst hM20
        obtain ⟨a9, c9, e9, l9, hat⟩ := HI1.out
        rw [Value.slice.injEq] at e9
        obtain ⟨rfl, e8, rfl⟩ := e9
        clear e8 l9
        obtain ⟨b, o, rfl, hb, r0, r1, r2, hCl, hP⟩ := hat k (by rw [<- HM.out]; exact HG.out.lt)
        rw [show f.inodes.getD k IF.z0 = n from HN.out.symm] at hCl hP
        have HIN := Lib.hid (IF.parts_holds hP)
        obtain ⟨p0, p1, p2⟩ := hP
        obtain ⟨b0, e0', rfl⟩ := NiF.form p0
        obtain ⟨b1, e1', rfl⟩ := AeF.form p1
        obtain ⟨b2, e2', rfl⟩ := AeF.form p2
        have HHB := Lib.hid hb
        have HCL := Lib.hid hCl
        have hk20 := HG.out.lt
        have hk0 : (0 : Int) <= k := by omega
        have hk1 : (k : Int) < 20 := by omega
        have HCN := Lib.hid (show In.cost n <= 1073741824 from by rw [HN.out]; exact Nat.le_trans (IF.cost_at (by rw [<- HM.out]; exact hk20)) (Nat.le_trans (Nat.le_trans (Nat.le_add_left _ _) (FsF.le_inodes f)) HCC.out))
        clear hat hCl p0 p1 p2 hb
        have hgs := HG.out.size
        rw [<- HN.out] at hgs
        obtain ⟨SZ, hSZ⟩ : ∃ SZ : Int, SZ = max ((an + l : Nat) : Int) n.size := ⟨_, rfl⟩
        have hsz0 : 0 <= SZ := by omega
        have hsz1 : SZ <= 256 := by omega
        have hmx : max ((an : Int) + (l : Int)) n.size = SZ := by rw [hSZ]; push_cast; rfl
        obtain ⟨N, hN⟩ : ∃ N, N = sized n SZ := ⟨_, rfl⟩
        have HNI := Lib.hid (show N = wrI n an l from by rw [hN]; unfold wrI; rw [hSZ])
        have HNQ := Lib.hid hN
        clear hN
        have HSZ := Lib.hid hSZ
        clear hSZ hgs hl
        rw [<- HL.out] at HWC
        have hlS : s.size = l := HL.out.symm
        have HLS := Lib.hid hlS
        go_enter Tryz.func65, Tryz.ntmps65
        go_wp2_with fail
        refine (HWC.out _ HB0.out).mono ?_
        rintro e w1 ⟨rfl, hb⟩
        have HB1 := Lib.hid (HB0.out.trans (hb.mono HB0.out.size))
        have HX1 := Lib.hid (HX0.out.all hb)
        have HR1 := Lib.hid (HR0.out.all hb)
        have HS1 := Lib.hid (Nat.le_trans HS0.out hb.size)
        clear hb
        obtain ⟨x0, x1, x2, x3⟩ := Bk.c4 HX1.out
        go_upto_region 5 with (fail)
        go_cut [12] from 36 (fun p12 wc => Nx w #[.int .i64 T, .slice qa Q qc, .slice (some ⟨b, o, none⟩) 20 ic, .slice da D dc] N p12 wc)
        case first =>
          obtain ⟨d0, d1, d2, d3, d4, d5, d6, d7, d8, d9⟩ := HCL.out.below HHB.out HB1.out
          have hbl : b < w1.heap.size := Nat.lt_of_lt_of_le HHB.out HB1.out.size
          have hn1 : ¬ b = w1.heap.size := by omega
          have hn2 : ¬ w1.heap.size = b := by omega
          have hws : w.heap.size + 1 < w1.heap.size := by have := HS1.out; omega
          have hws0 : w.heap.size < w1.heap.size := by omega
          have hn3 : ¬ w.heap.size = w1.heap.size := by omega
          have hn4 : ¬ w1.heap.size = w.heap.size := by omega
          have HZ0 := Lib.hid (new w1 #[.int .i64 0, .int .i64 0, .int .i64 0, .int .i64 0, .int .i64 0, .int .i64 0, .int .i64 0, .slice none 0 0, .slice none 0 0, .slice none 0 0] 89)
          have y2 := (Bk.c4 (HX1.out.alloc (.cells #[.int .i64 0, .int .i64 0, .int .i64 0, .int .i64 0, .int .i64 0, .int .i64 0, .int .i64 0, .slice none 0 0, .slice none 0 0, .slice none 0 0] 89))).2.2.1
          obtain ⟨k0, k1, k2, k3, k4, k5, k6, k7, k8, k9⟩ := HCL.out.below HHB.out (HB1.out.alloc HB1.out.size (.cells #[.int .i64 0, .int .i64 0, .int .i64 0, .int .i64 0, .int .i64 0, .int .i64 0, .int .i64 0, .slice none 0 0, .slice none 0 0, .slice none 0 0] 89))
          have x2d : w1.drew.cell? ⟨w.heap.size, 2, none⟩ = some (.slice (some ⟨b, o, none⟩) 20 ic) := x2
          have y2d : (w1.alloc (.cells #[.int .i64 0, .int .i64 0, .int .i64 0, .int .i64 0, .int .i64 0, .int .i64 0, .int .i64 0, .slice none 0 0, .slice none 0 0, .slice none 0 0] 89)).drew.cell? ⟨w.heap.size, 2, none⟩ = some (.slice (some ⟨b, o, none⟩) 20 ic) := y2
          have dd0 : w1.drew.cell? ⟨b, o + k * 10, none⟩ = some (.int .i64 n.kind) := d0
          have kd0 : (w1.alloc (.cells #[.int .i64 0, .int .i64 0, .int .i64 0, .int .i64 0, .int .i64 0, .int .i64 0, .int .i64 0, .slice none 0 0, .slice none 0 0, .slice none 0 0] 89)).drew.cell? ⟨b, o + k * 10, none⟩ = some (.int .i64 n.kind) := k0
          have dd1 : w1.drew.cell? ⟨b, o + k * 10 + 1, none⟩ = some (.int .i64 n.mode) := d1
          have kd1 : (w1.alloc (.cells #[.int .i64 0, .int .i64 0, .int .i64 0, .int .i64 0, .int .i64 0, .int .i64 0, .int .i64 0, .slice none 0 0, .slice none 0 0, .slice none 0 0] 89)).drew.cell? ⟨b, o + k * 10 + 1, none⟩ = some (.int .i64 n.mode) := k1
          have dd2 : w1.drew.cell? ⟨b, o + k * 10 + 2, none⟩ = some (.int .i64 n.uid) := d2
          have kd2 : (w1.alloc (.cells #[.int .i64 0, .int .i64 0, .int .i64 0, .int .i64 0, .int .i64 0, .int .i64 0, .int .i64 0, .slice none 0 0, .slice none 0 0, .slice none 0 0] 89)).drew.cell? ⟨b, o + k * 10 + 2, none⟩ = some (.int .i64 n.uid) := k2
          have dd3 : w1.drew.cell? ⟨b, o + k * 10 + 3, none⟩ = some (.int .i64 n.gid) := d3
          have kd3 : (w1.alloc (.cells #[.int .i64 0, .int .i64 0, .int .i64 0, .int .i64 0, .int .i64 0, .int .i64 0, .int .i64 0, .slice none 0 0, .slice none 0 0, .slice none 0 0] 89)).drew.cell? ⟨b, o + k * 10 + 3, none⟩ = some (.int .i64 n.gid) := k3
          have dd4 : w1.drew.cell? ⟨b, o + k * 10 + 4, none⟩ = some (.int .i64 n.links) := d4
          have kd4 : (w1.alloc (.cells #[.int .i64 0, .int .i64 0, .int .i64 0, .int .i64 0, .int .i64 0, .int .i64 0, .int .i64 0, .slice none 0 0, .slice none 0 0, .slice none 0 0] 89)).drew.cell? ⟨b, o + k * 10 + 4, none⟩ = some (.int .i64 n.links) := k4
          have dd5 : w1.drew.cell? ⟨b, o + k * 10 + 5, none⟩ = some (.int .i64 n.size) := d5
          have kd5 : (w1.alloc (.cells #[.int .i64 0, .int .i64 0, .int .i64 0, .int .i64 0, .int .i64 0, .int .i64 0, .int .i64 0, .slice none 0 0, .slice none 0 0, .slice none 0 0] 89)).drew.cell? ⟨b, o + k * 10 + 5, none⟩ = some (.int .i64 n.size) := k5
          have dd6 : w1.drew.cell? ⟨b, o + k * 10 + 6, none⟩ = some (.int .i64 n.tick) := d6
          have kd6 : (w1.alloc (.cells #[.int .i64 0, .int .i64 0, .int .i64 0, .int .i64 0, .int .i64 0, .int .i64 0, .int .i64 0, .slice none 0 0, .slice none 0 0, .slice none 0 0] 89)).drew.cell? ⟨b, o + k * 10 + 6, none⟩ = some (.int .i64 n.tick) := k6
          have dd7 : w1.drew.cell? ⟨b, o + k * 10 + 7, none⟩ = some (.slice b0 n.blocks.length e0') := d7
          have kd7 : (w1.alloc (.cells #[.int .i64 0, .int .i64 0, .int .i64 0, .int .i64 0, .int .i64 0, .int .i64 0, .int .i64 0, .slice none 0 0, .slice none 0 0, .slice none 0 0] 89)).drew.cell? ⟨b, o + k * 10 + 7, none⟩ = some (.slice b0 n.blocks.length e0') := k7
          have dd8 : w1.drew.cell? ⟨b, o + k * 10 + 8, none⟩ = some (.slice b1 n.acl.length e1') := d8
          have kd8 : (w1.alloc (.cells #[.int .i64 0, .int .i64 0, .int .i64 0, .int .i64 0, .int .i64 0, .int .i64 0, .int .i64 0, .slice none 0 0, .slice none 0 0, .slice none 0 0] 89)).drew.cell? ⟨b, o + k * 10 + 8, none⟩ = some (.slice b1 n.acl.length e1') := k8
          have dd9 : w1.drew.cell? ⟨b, o + k * 10 + 9, none⟩ = some (.slice b2 n.dflt.length e2') := d9
          have kd9 : (w1.alloc (.cells #[.int .i64 0, .int .i64 0, .int .i64 0, .int .i64 0, .int .i64 0, .int .i64 0, .int .i64 0, .slice none 0 0, .slice none 0 0, .slice none 0 0] 89)).drew.cell? ⟨b, o + k * 10 + 9, none⟩ = some (.slice b2 n.dflt.length e2') := k9
          have HSA := Lib.hid (CoW.size_impl w1.drew _ n SZ hsz0 hsz1 HCN.out (In.holds_below HIN.out HB1.out.drew))
          rw [<- HNQ.out] at HSA
          have HSB := Lib.hid (CoW.size_impl (w1.alloc (.cells #[.int .i64 0, .int .i64 0, .int .i64 0, .int .i64 0, .int .i64 0, .int .i64 0, .int .i64 0, .slice none 0 0, .slice none 0 0, .slice none 0 0] 89)).drew _ n SZ hsz0 hsz1 HCN.out (In.holds_below HIN.out (HB1.out.alloc HB1.out.size (.cells #[.int .i64 0, .int .i64 0, .int .i64 0, .int .i64 0, .int .i64 0, .int .i64 0, .int .i64 0, .slice none 0 0, .slice none 0 0, .slice none 0 0] 89)).drew))
          rw [<- HNQ.out] at HSB
          go_region_held3 (fun w' => w'.cell? ⟨w.heap.size, 2, none⟩ = some (.slice (some ⟨b, o, none⟩) 20 ic) /\ w'.cell? ⟨b, o + k * 10, none⟩ = some (.int .i64 n.kind) /\ w'.cell? ⟨b, o + k * 10 + 1, none⟩ = some (.int .i64 n.mode) /\ w'.cell? ⟨b, o + k * 10 + 2, none⟩ = some (.int .i64 n.uid) /\ w'.cell? ⟨b, o + k * 10 + 3, none⟩ = some (.int .i64 n.gid) /\ w'.cell? ⟨b, o + k * 10 + 4, none⟩ = some (.int .i64 n.links) /\ w'.cell? ⟨b, o + k * 10 + 5, none⟩ = some (.int .i64 n.size) /\ w'.cell? ⟨b, o + k * 10 + 6, none⟩ = some (.int .i64 n.tick) /\ w'.cell? ⟨b, o + k * 10 + 7, none⟩ = some (.slice b0 n.blocks.length e0') /\ w'.cell? ⟨b, o + k * 10 + 8, none⟩ = some (.slice b1 n.acl.length e1') /\ w'.cell? ⟨b, o + k * 10 + 9, none⟩ = some (.slice b2 n.dflt.length e2')) (first | with_reducible exact ⟨x2, d0, d1, d2, d3, d4, d5, d6, d7, d8, d9⟩ | with_reducible exact ⟨x2d, dd0, dd1, dd2, dd3, dd4, dd5, dd6, dd7, dd8, dd9⟩ | with_reducible exact ⟨y2, k0, k1, k2, k3, k4, k5, k6, k7, k8, k9⟩ | with_reducible exact ⟨y2d, kd0, kd1, kd2, kd3, kd4, kd5, kd6, kd7, kd8, kd9⟩ | with_reducible exact ⟨v2, l0, l1, l2, l3, l4, l5, l6, l7, l8, l9⟩ | with_reducible exact ⟨hq2 _, hqa _, hqb _, hqc _, hqd _, hqe _, hqf _, hqg _, hqh _, hqi _, hqj _⟩ | with_reducible exact ⟨hp2 _ _ _ _ _ _ _ _ _ _, hpa _ _ _ _ _ _ _ _ _ _, hpb _ _ _ _ _ _ _ _ _ _, hpc _ _ _ _ _ _ _ _ _ _, hpd _ _ _ _ _ _ _ _ _ _, hpe _ _ _ _ _ _ _ _ _ _, hpf _ _ _ _ _ _ _ _ _ _, hpg _ _ _ _ _ _ _ _ _ _, hph _ _ _ _ _ _ _ _ _ _, hpi _ _ _ _ _ _ _ _ _ _, hpj _ _ _ _ _ _ _ _ _ _⟩ | go_keep)
            ((go_at_call 118; (first | ((with_reducible refine HSA.out.mono ?_); rintro e w5 ⟨y5, S5, rfl, hown, hb⟩; have HO5 := Lib.hid (In.own_mono hown HS1.out); have HLT := Lib.hid (show ∀ x ∈ S5, w1.heap.size <= x /\ x < w5.heap.size from In.own_lies hown); obtain ⟨a0, c0, a1, c1, a2, c2, rfl⟩ := own_shape hown; have HB5 := Lib.hid ((HB1.out.drew).trans (hb.mono (HB1.out.drew).size)); have HX5 := Lib.hid (Bk.all (Bk.drew HX1.out) hb); have HR5 := Lib.hid (Bk.all (Bk.drew HR1.out) hb); have hs5 := hb.size; have v2 := (Bk.c4 HX5.out).2.2.1; obtain ⟨l0, l1, l2, l3, l4, l5, l6, l7, l8, l9⟩ := HCL.out.below HHB.out HB5.out; have hq2 := fun ob : Obj => (Bk.c4 (HX5.out.alloc ob)).2.2.1; have hqa := fun ob : Obj => (HCL.out.below HHB.out (HB5.out.alloc HB5.out.size ob)).1; have hqb := fun ob : Obj => (HCL.out.below HHB.out (HB5.out.alloc HB5.out.size ob)).2.1; have hqc := fun ob : Obj => (HCL.out.below HHB.out (HB5.out.alloc HB5.out.size ob)).2.2.1; have hqd := fun ob : Obj => (HCL.out.below HHB.out (HB5.out.alloc HB5.out.size ob)).2.2.2.1; have hqe := fun ob : Obj => (HCL.out.below HHB.out (HB5.out.alloc HB5.out.size ob)).2.2.2.2.1; have hqf := fun ob : Obj => (HCL.out.below HHB.out (HB5.out.alloc HB5.out.size ob)).2.2.2.2.2.1; have hqg := fun ob : Obj => (HCL.out.below HHB.out (HB5.out.alloc HB5.out.size ob)).2.2.2.2.2.2.1; have hqh := fun ob : Obj => (HCL.out.below HHB.out (HB5.out.alloc HB5.out.size ob)).2.2.2.2.2.2.2.1; have hqi := fun ob : Obj => (HCL.out.below HHB.out (HB5.out.alloc HB5.out.size ob)).2.2.2.2.2.2.2.2.1; have hqj := fun ob : Obj => (HCL.out.below HHB.out (HB5.out.alloc HB5.out.size ob)).2.2.2.2.2.2.2.2.2; clear hown hb) | ((with_reducible refine HSB.out.mono ?_); rintro e w5 ⟨y5, S5, rfl, hown, hb⟩; have HO5 := Lib.hid (In.own_mono hown (Nat.le_trans HS1.out (by simp))); have HLT := Lib.hid (show ∀ x ∈ S5, w1.heap.size < x /\ x < w5.heap.size from fun x hx => by have := In.own_lies hown x hx; simp at this; omega); obtain ⟨a0, c0, a1, c1, a2, c2, rfl⟩ := own_shape hown; have HB5 := Lib.hid (((HB1.out.alloc HB1.out.size (.cells #[.int .i64 0, .int .i64 0, .int .i64 0, .int .i64 0, .int .i64 0, .int .i64 0, .int .i64 0, .slice none 0 0, .slice none 0 0, .slice none 0 0] 89)).drew).trans (hb.mono ((HB1.out.alloc HB1.out.size (.cells #[.int .i64 0, .int .i64 0, .int .i64 0, .int .i64 0, .int .i64 0, .int .i64 0, .int .i64 0, .slice none 0 0, .slice none 0 0, .slice none 0 0] 89)).drew).size)); have HX5 := Lib.hid (Bk.all (Bk.drew (HX1.out.alloc (.cells #[.int .i64 0, .int .i64 0, .int .i64 0, .int .i64 0, .int .i64 0, .int .i64 0, .int .i64 0, .slice none 0 0, .slice none 0 0, .slice none 0 0] 89))) hb); have HR5 := Lib.hid (Bk.all (Bk.drew (HR1.out.alloc (.cells #[.int .i64 0, .int .i64 0, .int .i64 0, .int .i64 0, .int .i64 0, .int .i64 0, .int .i64 0, .slice none 0 0, .slice none 0 0, .slice none 0 0] 89))) hb); have HZ5 := Lib.hid (Bk.all (Bk.drew HZ0.out) hb); have hs5 := hb.size; have v2 := (Bk.c4 HX5.out).2.2.1; obtain ⟨l0, l1, l2, l3, l4, l5, l6, l7, l8, l9⟩ := HCL.out.below HHB.out HB5.out; obtain ⟨r0, r1, r2, r3, r4, r5, r6, r7, r8, r9⟩ := Bk.c10 HZ5.out; have g0 := HZ5.out.free 0; have g1 := HZ5.out.free 1; have g2 := HZ5.out.free 2; have g3 := HZ5.out.free 3; have g4 := HZ5.out.free 4; have g5 := HZ5.out.free 5; have g6 := HZ5.out.free 6; have g7 := HZ5.out.free 7; have g8 := HZ5.out.free 8; have g9 := HZ5.out.free 9; have hgl : w1.heap.size < w5.heap.size := HZ5.out.lt; have hp2 := fun u0 u1 u2 u3 u4 u5 u6 u7 u8 u9 : Value => ((FoB.box10_chg w5 w1.heap.size u0 u1 u2 u3 u4 u5 u6 u7 u8 u9).cell (p := ⟨w.heap.size, 2, none⟩) (HX5.out.lt) (by simp; omega)).trans v2; have hpa := fun u0 u1 u2 u3 u4 u5 u6 u7 u8 u9 : Value => ((FoB.box10_chg w5 w1.heap.size u0 u1 u2 u3 u4 u5 u6 u7 u8 u9).cell (p := ⟨b, o + k * 10, none⟩) (show b < _ by omega) (by simp; omega)).trans l0; have hpb := fun u0 u1 u2 u3 u4 u5 u6 u7 u8 u9 : Value => ((FoB.box10_chg w5 w1.heap.size u0 u1 u2 u3 u4 u5 u6 u7 u8 u9).cell (p := ⟨b, o + k * 10 + 1, none⟩) (show b < _ by omega) (by simp; omega)).trans l1; have hpc := fun u0 u1 u2 u3 u4 u5 u6 u7 u8 u9 : Value => ((FoB.box10_chg w5 w1.heap.size u0 u1 u2 u3 u4 u5 u6 u7 u8 u9).cell (p := ⟨b, o + k * 10 + 2, none⟩) (show b < _ by omega) (by simp; omega)).trans l2; have hpd := fun u0 u1 u2 u3 u4 u5 u6 u7 u8 u9 : Value => ((FoB.box10_chg w5 w1.heap.size u0 u1 u2 u3 u4 u5 u6 u7 u8 u9).cell (p := ⟨b, o + k * 10 + 3, none⟩) (show b < _ by omega) (by simp; omega)).trans l3; have hpe := fun u0 u1 u2 u3 u4 u5 u6 u7 u8 u9 : Value => ((FoB.box10_chg w5 w1.heap.size u0 u1 u2 u3 u4 u5 u6 u7 u8 u9).cell (p := ⟨b, o + k * 10 + 4, none⟩) (show b < _ by omega) (by simp; omega)).trans l4; have hpf := fun u0 u1 u2 u3 u4 u5 u6 u7 u8 u9 : Value => ((FoB.box10_chg w5 w1.heap.size u0 u1 u2 u3 u4 u5 u6 u7 u8 u9).cell (p := ⟨b, o + k * 10 + 5, none⟩) (show b < _ by omega) (by simp; omega)).trans l5; have hpg := fun u0 u1 u2 u3 u4 u5 u6 u7 u8 u9 : Value => ((FoB.box10_chg w5 w1.heap.size u0 u1 u2 u3 u4 u5 u6 u7 u8 u9).cell (p := ⟨b, o + k * 10 + 6, none⟩) (show b < _ by omega) (by simp; omega)).trans l6; have hph := fun u0 u1 u2 u3 u4 u5 u6 u7 u8 u9 : Value => ((FoB.box10_chg w5 w1.heap.size u0 u1 u2 u3 u4 u5 u6 u7 u8 u9).cell (p := ⟨b, o + k * 10 + 7, none⟩) (show b < _ by omega) (by simp; omega)).trans l7; have hpi := fun u0 u1 u2 u3 u4 u5 u6 u7 u8 u9 : Value => ((FoB.box10_chg w5 w1.heap.size u0 u1 u2 u3 u4 u5 u6 u7 u8 u9).cell (p := ⟨b, o + k * 10 + 8, none⟩) (show b < _ by omega) (by simp; omega)).trans l8; have hpj := fun u0 u1 u2 u3 u4 u5 u6 u7 u8 u9 : Value => ((FoB.box10_chg w5 w1.heap.size u0 u1 u2 u3 u4 u5 u6 u7 u8 u9).cell (p := ⟨b, o + k * 10 + 9, none⟩) (show b < _ by omega) (by simp; omega)).trans l9; unfold FoB.box10 at hp2 hpa hpb hpc hpd hpe hpf hpg hph hpi hpj; clear hown hb))))
          rotate_left
          all_goals (first
            | (have hbk := FoB.box10_bk HZ5.out (.int .i64 N.kind) (.int .i64 N.mode) (.int .i64 N.uid) (.int .i64 N.gid) (.int .i64 N.links) (.int .i64 N.size) (.int .i64 N.tick) (.slice a0 N.blocks.length c0) (.slice a1 N.acl.length c1) (.slice a2 N.dflt.length c2)
               have hc9 := FoB.box10_chg w5 w1.heap.size (.int .i64 N.kind) (.int .i64 N.mode) (.int .i64 N.uid) (.int .i64 N.gid) (.int .i64 N.links) (.int .i64 N.size) (.int .i64 N.tick) (.slice a0 N.blocks.length c0) (.slice a1 N.acl.length c1) (.slice a2 N.dflt.length c2)
               unfold FoB.box10 at hbk hc9
               generalize ((((((((((w5.setCell ⟨w1.heap.size, 0, none⟩ (.int .i64 N.kind)).setCell ⟨w1.heap.size, 1, none⟩ (.int .i64 N.mode)).setCell ⟨w1.heap.size, 2, none⟩ (.int .i64 N.uid)).setCell ⟨w1.heap.size, 3, none⟩ (.int .i64 N.gid)).setCell ⟨w1.heap.size, 4, none⟩ (.int .i64 N.links)).setCell ⟨w1.heap.size, 5, none⟩ (.int .i64 N.size)).setCell ⟨w1.heap.size, 6, none⟩ (.int .i64 N.tick)).setCell ⟨w1.heap.size, 7, none⟩ (.slice a0 N.blocks.length c0)).setCell ⟨w1.heap.size, 8, none⟩ (.slice a1 N.acl.length c1)).setCell ⟨w1.heap.size, 9, none⟩ (.slice a2 N.dflt.length c2)) = w9 at hbk hc9 ⊢
               have hone : ∀ T : List Nat, w1.heap.size ∉ T -> Apart T [w1.heap.size] := fun T hT x hx hh => by rw [List.mem_singleton] at hh; exact hT (hh ▸ hx)
               have hnS : w1.heap.size ∉ S5 := fun hh => by have := (HLT.out _ hh).1; omega
               have HNX := Lib.hid (show Nx w #[.int .i64 T, .slice qa Q qc, .slice (some ⟨b, o, none⟩) 20 ic, .slice da D dc] N (.pointer (some ⟨w1.heap.size, 0, none⟩)) w9 from ⟨_, _, _, _, _, _, _, S5, rfl, hbk, In.own_chg HO5.out hc9 (hone _ hnS), hnS, hws, FoB.Bk.chg HX5.out hc9 (by simp; omega), FoB.Bk.chg HR5.out hc9 (by simp; omega), HB5.out.trans (FoB.Chg.from hc9 HB5.out.size (by omega))⟩)
               go_wp2
               go_meet
               exact HNX.out)
            | (have HNX := Lib.hid (show Nx w #[.int .i64 T, .slice qa Q qc, .slice (some ⟨b, o, none⟩) 20 ic, .slice da D dc] N (.pointer (some ⟨w5.heap.size, 0, none⟩)) (w5.alloc (.cells #[.int .i64 N.kind, .int .i64 N.mode, .int .i64 N.uid, .int .i64 N.gid, .int .i64 N.links, .int .i64 N.size, .int .i64 N.tick, .slice a0 N.blocks.length c0, .slice a1 N.acl.length c1, .slice a2 N.dflt.length c2] 89)) from ⟨_, _, _, _, _, _, _, S5, rfl, new _ _ _, In.own_below HO5.out ((Below.refl _ _).alloc (Nat.le_refl _) _), fun hh => by have := (HLT.out _ hh).2; omega, by have := hs5; simp at this; omega, HX5.out.alloc _, HR5.out.alloc _, HB5.out.alloc HB5.out.size _⟩)
               go_wp2
               go_meet
               exact HNX.out))
        case rest =>
          obtain ⟨nb, a0, c0, a1, c1, a2, c2, S5, rfl, hbk, hown, hnS, hlo, hx, hr, hbe⟩ := hcut
          clear x0 x1 x2 x3 hmx
          obtain ⟨L1, hL1⟩ : ∃ L1, L1 = lastB an l := ⟨_, rfl⟩
          have hne : needV ((an : Int) + (l : Int)) = (L1 : Int) := by
            rw [hL1]; unfold lastB
            have h1 := FsZw.need_nn ((an : Int) + (l : Int))
            rw [show ((an + l : Nat) : Int) = (an : Int) + (l : Int) by push_cast; rfl]; omega
          have hfl : an / 32 < L1 := by rw [hL1]; exact FsZw.first_lt hl0
          have hLe : L1 <= N.blocks.length := by rw [hL1, HNI.out]; exact FsZw.lastB_le n an l
          have hN8 : N.blocks.length <= 8 := by
            rw [HNQ.out]
            show (holes _ _).length <= 8
            rw [FsZ.holes_len]
            have h1 := FsZw.need_mono hsz1
            have h8 : needV 256 = 8 := rfl
            omega
          have hgu := HG.out.uid
          rw [<- HN.out] at hgu
          obtain ⟨uk, huk⟩ : ∃ uk : Nat, n.uid = uk := ⟨n.uid.toNat, by omega⟩
          have huk3 : uk <= 3 := by omega
          have hNu : N.uid = uk := by rw [HNQ.out]; exact huk
          have HUK := Lib.hid huk
          have HNE := Lib.hid hne
          have HL1 := Lib.hid hL1
          clear hgu huk hne hL1
          obtain ⟨r0, r1, r2, T0, T1, T2, ea, hTT, hTn, o0, o1, o2⟩ := id hown
          simp only [Value.agg.injEq, Array.mk.injEq, List.cons.injEq, true_and, and_true] at ea
          obtain ⟨rfl, rfl, rfl⟩ := ea
          obtain ⟨⟨ya, yc, yc', ey, hyc, hyc', hrow⟩, hT0⟩ := o0
          rw [Value.slice.injEq] at ey
          obtain ⟨rfl, _, rfl⟩ := ey
          obtain ⟨g, rfl⟩ : ∃ g, a0 = some ⟨g, 0, none⟩ := by
            rcases hrow.2 with ⟨hv, h0⟩ | ⟨g, cap, cur, hv, _⟩
            · omega
            · rw [Value.slice.injEq] at hv; exact ⟨g, hv.1⟩
          have hgT : T0 = [g] := by rw [hT0]; rfl
          have hgS : g ∈ S5 := by rw [hTT, hgT]; simp
          have hgnb : ¬ g = nb := fun e => hnS (e ▸ hgS)
          have hglt := In.own_lies hown g hgS
          have hnbl : nb < wc.heap.size := hbk.lt
          have HBK := Lib.hid hbk
          have HROW := Lib.hid hrow
          have HO1 := Lib.hid o1
          have HO2 := Lib.hid o2
          have HTT := Lib.hid hTT
          have HTN := Lib.hid hTn
          have HX := Lib.hid hx
          have HR := Lib.hid hr
          have HB := Lib.hid hbe
          have HYC := Lib.hid hyc
          have HYD := Lib.hid hyc'
          have HGT := Lib.hid hgT
          have HTL := Lib.hid (In.own_lies hown)
          clear hbk hown hnS hx hr hbe hTT hTn o1 o2 hrow hT0 hgT hgS hyc hyc'
          have b2 := HBK.out.cell 2
          have b7 := HBK.out.cell 7
          dsimp at b2 b7
          rw [hNu] at b2
          have HNU := Lib.hid hNu
          obtain ⟨M, hM⟩ : ∃ M, M = N.blocks.length := ⟨_, rfl⟩
          rw [<- hM] at b7 hLe hN8
          have HM2 := Lib.hid hM
          clear hNu hM
          have hb32 : an / 32 <= 8 := by omega
          obtain ⟨o6, ho6⟩ : ∃ o, o = an / 32 := ⟨_, rfl⟩
          have hod : (an : Int) / 32 = (o6 : Int) := by rw [ho6]; omega
          rw [<- ho6] at hfl hb32
          have HO6 := Lib.hid ho6
          clear ho6
          go_wp2_with fail
          refine (InEq.need_impl _ _ (by unfold Foot.Rg; omega)).mono ?_
          rintro e w6 ⟨rfl, rfl⟩
          rw [HNE.out]
          obtain ⟨x0, x1, x2, x3⟩ := Bk.c4 HX.out
          have HPL := Lib.hid (FsD.bpool_le wc.drew _ f uk huk3 HCC.out HLM.out (FsV.half_of HG.out.ok) (FsF.holds_below HFS.out HB.out.drew))
          obtain ⟨qv, hqv⟩ : ∃ q, q = (f.quotas.getD uk (0, 0)).2 := ⟨_, rfl⟩
          rw [<- hqv] at HPL
          have HQV := Lib.hid hqv
          clear hqv
          obtain ⟨A, hA⟩ : ∃ A, A = 14 * uk := ⟨_, rfl⟩
          rw [<- hA] at HPL
          have hA9 : A <= 1000 := by omega
          have HA := Lib.hid hA
          clear hA
          unfold FsC.poolV at HPL
          obtain ⟨R1, rc, hR⟩ : ∃ R1 rc, renew A qv isHole (InoV.hasB (FsV.allB f.inodes)) ((N.blocks.drop o6).take (L1 - o6)) = (R1, rc) := ⟨_, _, rfl⟩
          have HREN := Lib.hid (fun (W : World) (bm Nm : Nat) (hNm : Nm <= 1073741824) (his : MpB.Is W bm Nm (InoV.hasB (FsV.allB f.inodes))) (hrw : W.ownsRow (w.heap.size + 1 + 1) 3 1 (.slice (some ⟨g, 0, none⟩) M yc') M (NiF.cells N.blocks)) (hgb : g ≠ bm) => show Calls Tryz.prog 121 #[.agg #[.int .i64 A, .int .i64 14, .int .i64 qv, .map (some bm)], .slice (some ⟨g, o6, none⟩) (L1 - o6) (L1 - o6), .func (.func 122) #[] #[]] W fun e w' => ∃ l' : List Int, e = .returned (.int .i64 rc) /\ (rc = 0 -> l' = N.blocks.take o6 ++ R1 ++ N.blocks.drop (o6 + (L1 - o6))) /\ w'.ownsRow (w.heap.size + 1 + 1) 3 1 (.slice (some ⟨g, 0, none⟩) M yc') M (NiF.cells l') /\ Chg W w' [g, bm] from by
            have := CoR.renewH_impl W A qv bm Nm _ g o6 (L1 - o6) M yc' (L1 - o6) (w.heap.size + 1 + 1) N.blocks (some ⟨g, o6, none⟩) (by omega) hNm (by omega) (by omega) (fun _ => rfl) his hrw hgb
            rw [hR] at this
            exact this)
          have HRR := Lib.hid (show wrR f n an l = (R1, rc) from by
            unfold wrR
            rw [<- HL1.out, <- HNI.out, HUK.out, Int.toNat_natCast, <- HA.out, show quo f uk = qv from HQV.out.symm, <- HO6.out, List.drop_take]
            exact hR)
          have hL1c : L1 <= c0 := by have := HYC.out; have := HM2.out; omega
          have hoL : o6 <= L1 := by omega
          have hwl : w.heap.size < wc.heap.size := by omega
          clear hR
          go_upto_region 7 with (fail)
          have b2d : wc.drew.cell? ⟨nb, 2, none⟩ = some (.int .i64 uk) := b2
          have b7d : wc.drew.cell? ⟨nb, 7, none⟩ = some (.slice (some ⟨g, 0, none⟩) M c0) := b7
          have x0d : wc.drew.cell? ⟨w.heap.size, 0, none⟩ = some (.int .i64 T) := x0
          have x1d : wc.drew.cell? ⟨w.heap.size, 1, none⟩ = some (.slice qa Q qc) := x1
          have x2d : wc.drew.cell? ⟨w.heap.size, 2, none⟩ = some (.slice (some ⟨b, o, none⟩) 20 ic) := x2
          have x3d : wc.drew.cell? ⟨w.heap.size, 3, none⟩ = some (.slice da D dc) := x3
          go_region_held3 (fun w' => w'.cell? ⟨w.heap.size, 0, none⟩ = some (.int .i64 T) /\ w'.cell? ⟨w.heap.size, 1, none⟩ = some (.slice qa Q qc) /\ w'.cell? ⟨w.heap.size, 2, none⟩ = some (.slice (some ⟨b, o, none⟩) 20 ic) /\ w'.cell? ⟨w.heap.size, 3, none⟩ = some (.slice da D dc) /\ w'.cell? ⟨nb, 2, none⟩ = some (.int .i64 uk) /\ w'.cell? ⟨nb, 7, none⟩ = some (.slice (some ⟨g, 0, none⟩) M c0)) (first | with_reducible exact ⟨x0, x1, x2, x3, b2, b7⟩ | with_reducible exact ⟨x0d, x1d, x2d, x3d, b2d, b7d⟩ | with_reducible exact ⟨v0, v1, v2, v3, v4, v5⟩ | with_reducible exact ⟨u0, u1, u2, u3, u4, u5⟩ | go_keep)
            (first
              | (go_at_call 120; (with_reducible refine HPL.out.mono ?_); rintro e w7 ⟨bm, Nm, hNm, rfl, his, hbm, hb⟩; have HB7 := Lib.hid (HB.out.drew.trans (hb.mono HB.out.drew.size)); have HX7 := Lib.hid (Bk.all (Bk.drew HX.out) hb); have HR7 := Lib.hid (Bk.all (Bk.drew HR.out) hb); have HK7 := Lib.hid (Bk.all (Bk.drew HBK.out) hb); have HW7 := Lib.hid (row_below HROW.out ((Below.refl wc.heap.size wc).drew.trans hb)); have HP7 := Lib.hid (AeF.own_below HO1.out ((Below.refl wc.heap.size wc).drew.trans hb)); have HQ7 := Lib.hid (AeF.own_below HO2.out ((Below.refl wc.heap.size wc).drew.trans hb)); have HIS := Lib.hid his; have HNM := Lib.hid hNm; have HBM := Lib.hid (show wc.heap.size <= bm from hbm); have HGB := Lib.hid (show g ≠ bm from fun e => by have h9 : wc.heap.size <= bm := hbm; omega); have HIL := Lib.hid his.lt; rw [<- HM2.out] at HW7; have v0 := HX7.out.cell 0; have v1 := HX7.out.cell 1; have v2 := HX7.out.cell 2; have v3 := HX7.out.cell 3; have v4 := HK7.out.cell 2; have v5 := HK7.out.cell 7; dsimp at v0 v1 v2 v3 v4 v5; rw [HNU.out] at v4; rw [<- HM2.out] at v5; clear his hNm hbm hb)
              | (go_at_call 121; (with_reducible refine (HREN.out _ _ _ HNM.out HIS.out HW7.out HGB.out).mono ?_); rintro e w8 ⟨l', rfl, hl', hrow8, hc8⟩; have HL' := Lib.hid hl'; have HW8 := Lib.hid hrow8; have HC8 := Lib.hid hc8; have HB8 := Lib.hid (HB7.out.trans (hc8.below HB7.out.size (fun k hk => by have h9 := HBM.out; simp at hk; omega))); have HX8 := Lib.hid (FoB.Bk.chg HX7.out hc8 (by have h9 := HBM.out; simp; omega)); have HR8 := Lib.hid (FoB.Bk.chg HR7.out hc8 (by have h9 := HBM.out; simp; omega)); have HK8 := Lib.hid (FoB.Bk.chg HK7.out hc8 (by have h9 := HBM.out; simp; omega)); have u0 := HX8.out.cell 0; have u1 := HX8.out.cell 1; have u2 := HX8.out.cell 2; have u3 := HX8.out.cell 3; have u4 := HK8.out.cell 2; have u5 := HK8.out.cell 7; dsimp at u0 u1 u2 u3 u4 u5; rw [HNU.out] at u4; rw [<- HM2.out] at u5; clear hl' hrow8 hc8))
          clear b2d b7d x0d x1d x2d x3d x0 x1 x2 x3 b2 b7 v0 v1 v2 v3 v4 v5 u0 u1 u2 u3 u4 u5
          rename_i hHeld
          clear hHeld
          have HS8 := Lib.hid (show w.heap.size + 1 + 1 <= w8.heap.size from by have h1 := HX8.out.lt; have h2 := HR8.out.lt; have h3 := HC8.out.size; have h4 := HK8.out.lt; omega)
          by_cases hrc : rc = 0
          rotate_left
          · have HVE := Lib.hid (show writeV f k an s = (f, rc) from by rw [HVV.out, HRR.out]; exact if_neg hrc)
            have z1 : (rc != 0) = true := by simpa using hrc
            have z2 : (rc == 0) = false := by simpa using hrc
            obtain ⟨x0, x1, x2, x3⟩ := Bk.c4 HX8.out
            clear hrc
            go_wp2_with fail
            refine (HCP.out _ HB8.out).mono ?_
            rintro e wk ⟨y, S, rfl, hown, hb⟩
            obtain ⟨z0, z1a, z1n, z1c, z2a, z2n, z2c, z3a, z3n, z3c, rfl⟩ := FsF.own_form hown
            have HB2 := Lib.hid (HB8.out.trans (hb.mono HB8.out.size))
            have HR2 := Lib.hid (HR8.out.all hb)
            have HNS := Lib.hid (show w.heap.size + 1 ∉ S from fun hh => by have h1 := (FsF.own_lies hown _ hh).1; have h2 := HS8.out; omega)
            have HOW := Lib.hid (FsF.own_mono hown HB8.out.size)
            clear hb hown
            obtain ⟨r0, r1, r2, r3⟩ := Bk.c4 HR2.out
            have f0 := HR2.out.free 0
            have f1 := HR2.out.free 1
            have f2 := HR2.out.free 2
            have f3 := HR2.out.free 3
            go_wp2
            have hF := FoB.box4_bk HR2.out (.int .i64 z0) (.slice z1a z1n z1c) (.slice z2a z2n z2c) (.slice z3a z3n z3c)
            have hC9 := FoB.box4_chg wk (w.heap.size + 1) (.int .i64 z0) (.slice z1a z1n z1c) (.slice z2a z2n z2c) (.slice z3a z3n z3c)
            unfold FoB.box4 at hF hC9
            generalize ((((wk.setCell ⟨w.heap.size + 1, 0, none⟩ (.int .i64 z0)).setCell ⟨w.heap.size + 1, 1, none⟩ (.slice z1a z1n z1c)).setCell ⟨w.heap.size + 1, 2, none⟩ (.slice z2a z2n z2c)).setCell ⟨w.heap.size + 1, 3, none⟩ (.slice z3a z3n z3c)) = w9 at hF hC9 ⊢
            obtain ⟨e0, e1, e2, e3⟩ := Bk.c4 hF
            have hres := FsF.own_mono (FsF.own_chg HOW.out hC9 (fun x hx hh => by rw [List.mem_singleton] at hh; subst hh; exact HNS.out hx)) (show w.heap.size <= w.heap.size from Nat.le_refl _)
            refine bodyPost_ret (v := .tuple #[.agg #[.int .i64 z0, .slice z1a z1n z1c, .slice z2a z2n z2c, .slice z3a z3n z3c], .int .i64 rc]) (by simp [results, Tryz.results65, go_sem, e0, e1, e2, e3]) rfl ?_
            exact ⟨_, S, by rw [HVE.out], by rw [HVE.out]; exact hres, HB2.out.trans (FoB.Chg.from hC9 HB2.out.size (Nat.le_succ _))⟩
          · subst hrc
            have hlq : l' = wrB f n an l := by
              rw [HL'.out rfl]
              unfold wrB
              rw [HRR.out, <- HL1.out, <- HO6.out, <- HNI.out, show o6 + (L1 - o6) = L1 by omega]
            have hll : l'.length = M := by have := HW8.out.1; simpa [NiF.cells] using this
            have hapT : ∀ T, (∀ x ∈ T, x ∈ S5) -> g ∉ T -> Apart T [g, bm] := fun T h1 h2 x hx hh => by
              have h3 := (HTL.out x (h1 x hx)).2
              have h4 := HBM.out
              simp only [List.mem_cons, List.mem_nil_iff, or_false] at hh
              rcases hh with rfl | rfl
              · exact h2 hx
              · omega
            obtain ⟨n1, n2, n3⟩ := nodup_parts (HTT.out ▸ HTN.out : (T0 ++ T1 ++ T2).Nodup)
            obtain ⟨n4, n5, n6⟩ := nodup_parts n1
            have hg0 : g ∈ T0 := by rw [HGT.out]; simp
            have HP8 := Lib.hid (AeF.own_chg HP7.out HC8.out (hapT _ (fun x hx => by rw [HTT.out]; simp [hx]) (n6 g hg0)))
            have HQ8 := Lib.hid (AeF.own_chg HQ7.out HC8.out (hapT _ (fun x hx => by rw [HTT.out]; simp [hx]) (n3 g (by simp [hg0]))))
            have HOW := Lib.hid (show In.Own w8 (w.heap.size + 1 + 1) (.agg #[.int .i64 N.kind, .int .i64 N.mode, .int .i64 N.uid, .int .i64 N.gid, .int .i64 N.links, .int .i64 N.size, .int .i64 N.tick, .slice (some ⟨g, 0, none⟩) M c0, .slice a1 N.acl.length c1, .slice a2 N.dflt.length c2]) { N with blocks := l' } S5 from ⟨_, _, _, T0, T1, T2, rfl, HTT.out, HTN.out, ⟨⟨some ⟨g, 0, none⟩, c0, yc', by rw [hll], by rw [hll, HM2.out]; exact HYC.out, HYD.out, by rw [hll]; exact HW8.out⟩, HGT.out⟩, HP8.out, HQ8.out⟩)
            have HK9 := HK8
            rw [<- HM2.out] at HK9
            have HVE := Lib.hid (show writeV f k an s = (withV f k { N with blocks := l' } (splice (content f.data n.blocks) an s.data.toList), 0) from by rw [HVV.out, HRR.out, hlq, <- HNI.out]; exact if_pos rfl)
            have hinr : Inr l' := by rw [hlq, HN.out]; exact (FsZw.wr_of hl0 (by rw [<- HN.out, HRR.out])).inr HG.out
            have HINR := Lib.hid hinr
            have HLL := Lib.hid hll
            have hcl := content_len HG.out.dsz HG.out.dlen HG.out.inr HG.out.size.2.2.2
            rw [<- HN.out] at hcl
            have HCL2 := Lib.hid hcl
            clear hlq hll hapT n1 n2 n3 n4 n5 n6 hg0 hinr hcl
            obtain ⟨x0, x1, x2, x3⟩ := Bk.c4 HX8.out
            go_wp2_with fail
            refine (CoC.content_impl _ _ f k hk20 HG.out.ok (FsF.holds_below HFS.out HB8.out)).mono ?_
            rintro e wd ⟨rfl, hcb, hb⟩
            rw [<- HN.out] at hcb
            have HBd := Lib.hid (HB8.out.trans (hb.mono HB8.out.size))
            have HXd := Lib.hid (HX8.out.all hb)
            have HRd := Lib.hid (HR8.out.all hb)
            have HKd := Lib.hid (HK9.out.all hb)
            have HOd := Lib.hid (In.own_below HOW.out hb)
            have HSd := Lib.hid (Nat.le_trans HS8.out hb.size)
            have hnb8 : nb < w8.heap.size := HK8.out.lt
            have HSg := Lib.hid (fun x hx => (In.own_lies HOW.out x hx).2)
            obtain ⟨gc, hgE⟩ : ∃ gc, gc = w8.heap.size + 1 := ⟨_, rfl⟩
            rw [<- hgE] at hcb ⊢
            have hgc1 : w.heap.size + 1 < gc := by have := HS8.out; omega
            have hgnb : ¬ nb = gc := by omega
            have hgS : gc ∉ S5 := fun hh => by have := HSg.out _ hh; omega
            have HGS := Lib.hid hgS
            have HCB := Lib.hid hcb
            clear hgE hcb hb x0 x1 x2 x3 hgS
            have hend : an + l <= 256 := hal
            go_wp2_with fail
            have hcr := CoN.copy_run wd gc an l l s (content f.data n.blocks) 3 HCB.out (Nat.le_of_eq HL.out.symm) (by rw [HCL2.out, <- HL.out]; exact hal)
            rw [hcr]
            have hsb := CoN.row_set (cs' := (cellsB (splice (content f.data n.blocks) an s.data.toList)).toArray) HCB.out
            have hsc := CoN.row_chg wd gc (cellsB (splice (content f.data n.blocks) an s.data.toList)).toArray
            generalize wd.setRow gc (cellsB (splice (content f.data n.blocks) an s.data.toList)).toArray = we at hsb hsc ⊢
            have HSB := Lib.hid hsb
            have HBe := Lib.hid (HBd.out.trans (FoB.Chg.from hsc HBd.out.size (by omega)))
            have HXe := Lib.hid (FoB.Bk.chg HXd.out hsc (by simp; omega))
            have HRe := Lib.hid (FoB.Bk.chg HRd.out hsc (by simp; omega))
            have HKe := Lib.hid (FoB.Bk.chg HKd.out hsc (by simp; omega))
            have HOe := Lib.hid (In.own_chg HOd.out hsc (fun x hx hh => by rw [List.mem_singleton] at hh; exact HGS.out (hh ▸ hx)))
            have HSe := Lib.hid (Nat.le_trans HSd.out hsc.size)
            have hlS2 : s.data.toList.length = l := by rw [HL.out]; simp
            have HLS3 := Lib.hid hlS2
            clear hcr hsb hsc hlS2
            obtain ⟨x0, x1, x2, x3⟩ := Bk.c4 HXe.out
            obtain ⟨k0, k1, k2, k3, k4, k5, k6, k7, k8, k9⟩ := Bk.c10 HKe.out
            have HWI := Lib.hid (fun (W : World) => CoI.with_impl W w.heap.size (.agg #[.int .i64 T, .slice qa Q qc, .slice (some ⟨b, o, none⟩) 20 ic, .slice da D dc]) (.agg #[.int .i64 N.kind, .int .i64 N.mode, .int .i64 N.uid, .int .i64 N.gid, .int .i64 N.links, .int .i64 N.size, .int .i64 N.tick, .slice (some ⟨g, 0, none⟩) M c0, .slice a1 N.acl.length c1, .slice a2 N.dflt.length c2]) (.slice (some ⟨gc, 0, none⟩) 256 256) f k { N with blocks := l' } (splice (content f.data n.blocks) an s.data.toList) gc S5 HG.out)
            go_wp2_with fail
            refine (HWI.out _ HBe.out.size HCC.out HLM.out HINR.out (by show l'.length <= 8; rw [HLL.out]; exact hN8) (fun _ => ⟨by first | rfl | trivial, by rw [splice_len (by rw [HLS3.out, HCL2.out]; exact hal)]; exact HCL2.out, HSB.out⟩) ⟨_, _, _, rfl⟩ (FsF.holds_below HFS.out HBe.out) (In.own_mono HOe.out (by omega))).mono ?_
            rintro e wk ⟨y, S, rfl, hown, hsub, hb⟩
            obtain ⟨z0, z1a, z1n, z1c, z2a, z2n, z2c, z3a, z3n, z3c, rfl⟩ := FsF.own_form hown
            have HB2 := Lib.hid (HBe.out.trans (hb.mono HBe.out.size))
            have HR2 := Lib.hid (HRe.out.all hb)
            have HNS := Lib.hid (show w.heap.size + 1 ∉ S from fun hh => (hsub _ hh).elim (fun h1 => by have h2 := (HTL.out _ h1).1; omega) (fun h1 => by have h2 := HSe.out; omega))
            have HOW := Lib.hid hown
            clear hb hown hsub
            obtain ⟨r0, r1, r2, r3⟩ := Bk.c4 HR2.out
            have f0 := HR2.out.free 0
            have f1 := HR2.out.free 1
            have f2 := HR2.out.free 2
            have f3 := HR2.out.free 3
            go_wp2
            have hF := FoB.box4_bk HR2.out (.int .i64 z0) (.slice z1a z1n z1c) (.slice z2a z2n z2c) (.slice z3a z3n z3c)
            have hC9 := FoB.box4_chg wk (w.heap.size + 1) (.int .i64 z0) (.slice z1a z1n z1c) (.slice z2a z2n z2c) (.slice z3a z3n z3c)
            unfold FoB.box4 at hF hC9
            generalize ((((wk.setCell ⟨w.heap.size + 1, 0, none⟩ (.int .i64 z0)).setCell ⟨w.heap.size + 1, 1, none⟩ (.slice z1a z1n z1c)).setCell ⟨w.heap.size + 1, 2, none⟩ (.slice z2a z2n z2c)).setCell ⟨w.heap.size + 1, 3, none⟩ (.slice z3a z3n z3c)) = w9 at hF hC9 ⊢
            obtain ⟨e0, e1, e2, e3⟩ := Bk.c4 hF
            have hres := FsF.own_mono (FsF.own_chg HOW.out hC9 (fun x hx hh => by rw [List.mem_singleton] at hh; subst hh; exact HNS.out hx)) (show w.heap.size <= w.heap.size from Nat.le_refl _)
            refine bodyPost_ret (v := .tuple #[.agg #[.int .i64 z0, .slice z1a z1n z1c, .slice z2a z2n z2c, .slice z3a z3n z3c], .int .i64 0]) (by simp [results, Tryz.results65, go_sem, e0, e1, e2, e3]) rfl ?_
            exact ⟨_, S, by rw [HVE.out], by rw [HVE.out]; exact hres, HB2.out.trans (FoB.Chg.from hC9 HB2.out.size (Nat.le_succ _))⟩
end Go.Proofs.YthppbcnejapbiaaGreatDoor.CoWb

-- YthppbcnejapbiaaGreatDoorFsOk
/- A part. -/
namespace Go.Proofs.YthppbcnejapbiaaGreatDoor.FsOk
open InoV (I okI usedV hasB needV)
open FsV FsX FsY FsZ FsZw FsZr FsWm
set_option linter.unusedVariables false
theorem inode_cost {n : I} (h : okI n = true) : In.cost n <= 20 := by
 have h1 := (InoV.ok_blocks h).2
 have h2 := AclV.ok_len (InoV.ok_acls h).1
 have h3 := AclV.ok_len (InoV.ok_acls h).2
 unfold In.cost NiF.cost AeF.cost
 omega
theorem csum_ok (l : List I) (h : ∀ n ∈ l, okI n = true) : IF.csum l <= 20 * l.length := by
 induction l with
 | nil => exact Nat.le_refl _
 | cons n r ih =>
  have h1 := inode_cost (h n (by simp))
  have h2 := ih fun x hx => h x (by simp [hx])
  have e : IF.csum (n :: r) = In.cost n + IF.csum r := by simp [IF.csum]
  rw [e, List.length_cons]; omega
theorem data_cost (l : List ByteArray) (h : ∀ s ∈ l, s.size = 32) : SF.cost l = 33 * l.length := by
 have : ∀ l : List ByteArray, (∀ s ∈ l, s.size = 32) -> Strs.total l = 32 * l.length := by
  intro l
  induction l with
  | nil => intro _; rfl
  | cons a r ih =>
   intro h
   have e : Strs.total (a :: r) = a.size + Strs.total r := by simp [Strs.total]
   rw [e, ih fun x hx => h x (by simp [hx]), h a (by simp), List.length_cons]; omega
 show l.length + Strs.total l = _
 rw [this l h]; omega
theorem ok_cost {f : F} (h : okF f = true) : FsF.cost f <= 4096 := by
 obtain ⟨h1, h2, h3, _, h5, h6⟩ := parts_of (ok_parts h).2.1
 have e1 := csum_ok _ h5
 have e2 := data_cost _ h6
 unfold FsF.cost IF.cost
 have e3 : QF.cost f.quotas = f.quotas.length := rfl
 omega
theorem ok_both {f : F} (h : okF f = true) : FsF.cost f <= 1073741824 /\ 1 + FsF.wid f <= 1073741824 := by
 have h1 := ok_cost h
 have h2 := FsF.wid_cost f
 omega
theorem same_both {f : F} (h : FsF.cost f <= 1048576) : FsF.cost f <= 1073741824 /\ 1 + FsF.wid f <= 1073741824 := ⟨by omega, FsF.wid_le h⟩
theorem inode_mk {n n' : I} (h : okI n = true) (hk : n.kind ≠ 0) (e1 : n'.kind = n.kind) (e2 : n'.mode = n.mode) (hu : 0 <= n'.uid /\ n'.uid <= 3) (e4 : n'.gid = n.gid) (e5 : n'.links = n.links) (hs : 0 <= n'.size /\ n'.size <= 256) (e7 : n'.tick = n.tick) (hb : InoV.blksB n'.blocks n'.blocks.length = true) (hl : (n'.blocks.length : Int) = needV n'.size) (e9 : n'.acl = n.acl) (e10 : n'.dflt = n.dflt) : okI n' = true := by
 have hg := h
 rw [okI, if_neg hk, Bool.and_eq_true] at h
 rw [okI, if_neg (by rw [e1]; exact hk), Bool.and_eq_true]
 obtain ⟨h1, h2⟩ := h
 refine ⟨?_, ?_⟩
 ·simp only [InoV.numsB, Bool.and_eq_true, Bool.or_eq_true, decide_eq_true_eq, CredV.user_iff] at h1 ⊢
  rw [e1, e2, e4, e5, e7]
  obtain ⟨⟨⟨⟨⟨⟨⟨a1, a2⟩, a3⟩, a4⟩, a5⟩, a6⟩, a7⟩, a8⟩ := h1
  exact ⟨⟨⟨⟨⟨⟨⟨a1, a2⟩, hu⟩, a4⟩, a5⟩, hs⟩, a7⟩, hl⟩
 ·simp only [InoV.restB, Bool.and_eq_true] at h2 ⊢
  obtain ⟨⟨a1, a2⟩, a3⟩ := h2
  have e : InoV.fileB n' = InoV.fileB n := by unfold InoV.fileB; rw [e1, e2, e10]
  rw [e, e9, e10]
  exact ⟨⟨hb, a2⟩, a3⟩
theorem blkAt_size {c : List UInt8} {k : Nat} (hc : c.length = 256) (hk : k < 8) : (blkAt c k).size = 32 := by
 show ((c.drop (32 * k)).take 32).toArray.size = 32
 rw [List.size_toArray, List.length_take, List.length_drop]; omega
theorem putD_size {c : List UInt8} (hc : c.length = 256) : ∀ (bs : List Int) (k : Nat) (d : List ByteArray), k + bs.length <= 8 -> (∀ s ∈ d, s.size = 32) -> ∀ s ∈ putD c k bs d, s.size = 32 := by
 intro bs
 induction bs with
 | nil => intro k d _ h s hs; exact h s hs
 | cons b r ih =>
  intro k d hk h s hs
  rw [List.length_cons] at hk
  rw [putD] at hs
  refine ih (k + 1) _ (by omega) (fun y hy => ?_) s hs
  split at hy
  ·exact h y hy
  ·rcases List.mem_or_eq_of_mem_set hy with hy | rfl
   ·exact h y hy
   ·exact blkAt_size hc (by omega)
theorem zeroD_size (bs : List Int) : ∀ d : List ByteArray, (∀ s ∈ d, s.size = 32) -> ∀ s ∈ zeroD d bs, s.size = 32 := by
 induction bs with
 | nil => intro d h s hs; exact h s hs
 | cons b r ih =>
  intro d h s hs
  rw [zeroD_cons] at hs
  refine ih _ (fun y hy => ?_) s hs
  rcases List.mem_or_eq_of_mem_set hy with hy | rfl
  ·exact h y hy
  ·rfl
theorem z32_zero : zB z32 = true := by decide
theorem ok_with {f : F} {i : Nat} {n : I} {c : List UInt8} (g : GoodF f i) (hn : okI n = true) (hk : i = 0 -> n.kind = 2) (h1 : ∀ b ∈ usedV n.blocks, ownerV b = n.uid) (h2 : Dis n.blocks) (hr : Inr n.blocks) (h3 : ∀ b ∈ usedV n.blocks, b ∈ usedV (ino f i).blocks \/ b ∉ allB f.inodes) (hc : c.length = 256) (hz : ∀ j : Nat, n.size <= (j : Int) -> j < 256 -> c[j]? = some 0) : okF (withV f i n c) = true := by
 have h8 := (InoV.ok_blocks hn).2
 have hnum := InoV.ok_nums hn
 have hlen : (n.blocks.length : Int) = needV n.size := hnum.2.2.2.2.2.2.2.2.2.2.2.2.2.2
 have hsz : 0 <= n.size /\ n.size <= 256 := by omega
 have hown : ∀ b ∈ usedV (ino f i).blocks, 0 <= b /\ b <= 55 := fun b hb => (own_facts g.ok).2 b (g.used hb)
 have hzl : (zeroD f.data (usedV (ino f i).blocks)).length = 56 := by rw [zeroD_len]; exact g.dlen
 unfold withV
 refine ok_set g.ok g.lt hn hk h1 (dis_used.1 h2) h3 (by rw [putD_len]; exact hzl) (putD_size hc _ _ _ (by omega) (zeroD_size _ _ g.dsz)) (fun b hb hbo hbn => ?_) (fun b hb hbo hbn => ?_) ?_
 ·rw [putD_out _ _ 0 _ hr hzl b (fun hh => hbn (usedV_of.2 ⟨hh, by omega⟩)), zeroD_get _ _ hown g.dlen]
  exact if_neg hbo
 ·rw [putD_out _ _ 0 _ hr hzl b (fun hh => hbn (usedV_of.2 ⟨hh, by omega⟩)), zeroD_get _ _ hown g.dlen]
  rw [show (if (b : Int) ∈ usedV (ino f i).blocks then z32 else f.data.getD b e0) = z32 from if_pos hbo]
  exact z32_zero
 ·unfold beyond
  by_cases h0 : n.blocks.length = 0
  ·rw [if_pos h0]; rfl
  ·by_cases hl : n.blocks.getD (n.blocks.length - 1) 0 = -1
   ·rw [if_neg h0, if_pos hl]; rfl
   ·rw [if_neg h0, if_neg hl]
    have hlt : n.blocks.length - 1 < n.blocks.length := by omega
    rw [getD_at hlt] at hl ⊢
    have hin := hr _ (List.getElem_mem hlt)
    have he : n.blocks[n.blocks.length - 1]? = some ((n.blocks[n.blocks.length - 1].toNat : Nat) : Int) := by
     rw [List.getElem?_eq_getElem hlt]
     congr 1; omega
    show zB (((putD c 0 n.blocks (zeroD f.data (usedV (ino f i).blocks))).getD n.blocks[n.blocks.length - 1].toNat e0).extract _ 32) = true
    rw [putD_in c n.blocks 0 _ hr h2 hzl _ _ he, Nat.zero_add]
    unfold zB
    rw [List.all_eq_true]
    intro x hx
    rw [ByteArray.data_extract, Array.toList_extract, List.extract_eq_take_drop, List.mem_iff_getElem] at hx
    obtain ⟨j, hj, e⟩ := hx
    have hbl : (blkAt c (n.blocks.length - 1)).data.toList = (c.drop (32 * (n.blocks.length - 1))).take 32 := rfl
    simp only [hbl, List.length_take, List.length_drop, List.getElem_take, List.getElem_drop] at hj e
    have hneed : 32 * (n.blocks.length - 1) < n.size /\ n.size <= 32 * n.blocks.length := by
     unfold needV at hlen
     split at hlen <;> omega
    have := hz (32 * (n.blocks.length - 1) + ((n.size - ((n.blocks.length : Int) - 1) * 32).toNat + j)) (by omega) (by omega)
    rw [List.getElem?_eq_getElem (by omega), Option.some.injEq] at this
    rw [<- e, this]; rfl
theorem has_kind {f : F} {k : Nat} (h : hasObjB f k = true) : GoodF f k /\ (ino f k).kind ≠ 0 := by
 unfold hasObjB at h
 simp only [Bool.and_eq_true, decide_eq_true_eq, Bool.not_eq_true', decide_eq_false_iff_not] at h
 obtain ⟨⟨⟨h0, h19⟩, hok⟩, hk⟩ := h
 exact ⟨⟨hok, by omega⟩, hk⟩
theorem root_dir {f : F} {i : Nat} (g : GoodF f i) : i = 0 -> (ino f i).kind = 2 := by
 rintro rfl
 have := (ok_parts g.ok).2.2.1
 unfold rootB at this
 exact of_decide_eq_true this
theorem take_Z_len {c : List UInt8} {z : Nat} (hc : c.length = 256) (hz : z <= 256) : (c.take z ++ Z (256 - z)).length = 256 := by
 rw [List.length_append, List.length_take, Z_len]; omega
theorem ok_resize {f : F} {i : Nat} {z : Int} (g : GoodF f i) (hk : (ino f i).kind ≠ 0) (h0 : 0 <= z) (h1 : z <= 256) : okF (withV f i (sized (ino f i) z) ((content f.data (ino f i).blocks).take z.toNat ++ Z (256 - z.toNat))) = true := by
 have hsz := g.size
 have hc := content_len g.dsz g.dlen g.inr hsz.2.2.2
 have hnd := need_nn z
 have hH : (sized (ino f i) z).blocks = holes (ino f i).blocks (needV z).toNat := rfl
 have hU : ∀ b ∈ usedV (sized (ino f i) z).blocks, b ∈ usedV (ino f i).blocks := fun b hb => by
  rw [hH, usedV_of] at hb
  refine usedV_of.2 ⟨?_, hb.2⟩
  have := List.mem_of_mem_take hb.1
  rcases List.mem_append.1 this with h | h
  ·exact h
  ·rw [List.mem_replicate] at h; exact absurd h.2 hb.2
 refine ok_with g (inode_mk g.inode hk rfl rfl g.uid rfl rfl ⟨h0, h1⟩ rfl (blks_of (holes_inr g.inr) (holes_dis g.dis)) ?_ rfl rfl) (root_dir g) (fun b hb => g.own (hU b hb)) (holes_dis g.dis) (holes_inr g.inr) (fun b hb => .inl (hU b hb)) (take_Z_len hc (by omega)) (fun j h3 h4 => ?_)
 ·rw [hH, holes_len]
  show ((needV z).toNat : Int) = needV z
  omega
 ·rw [take_Z_at hc (by omega) h4, if_neg (by have : z <= j := h3; omega)]
def wrN (f : F) (n : I) (a l : Nat) : I := { wrI n a l with blocks := wrB f n a l }
theorem ok_written {f : F} {i a : Nat} {s : List UInt8} (g : GoodF f i) (hk : (ino f i).kind ≠ 0) (hl : 0 < s.length) (hm : a + s.length <= 256) (h0 : (wrR f (ino f i) a s.length).2 = 0) : okF (withV f i (wrN f (ino f i) a s.length) (splice (content f.data (ino f i).blocks) a s)) = true := by
 have w := wr_of (a := a) hl h0
 have hsz := g.size
 have hc := content_len g.dsz g.dlen g.inr hsz.2.2.2
 have hu := g.uid
 have hS : (wrN f (ino f i) a s.length).size = max (((a + s.length : Nat) : Int)) (ino f i).size := rfl
 have key : ∀ b ∈ usedV (wrB f (ino f i) a s.length), b ∈ usedV (ino f i).blocks \/ (b ∉ allB f.inodes /\ ownerV b = (ino f i).uid) := fun b hb => by
  rw [usedV_of] at hb
  obtain ⟨t, ht, rfl⟩ := List.mem_iff_getElem.1 hb.1
  rcases w.at_ t ht with ⟨e, _⟩ | ⟨_, _, _, k, hk, e, hf⟩
  ·rw [e] at hb ⊢
   exact .inl (used_at hb.2)
  ·refine .inr ⟨fun hh => ?_, ?_⟩
   ·rw [e, <- has_mem, hf] at hh; cases hh
   ·rw [e]; unfold ownerV; split <;> omega
 refine ok_with g (inode_mk g.inode hk rfl rfl hu rfl rfl (by rw [hS]; omega) rfl (blks_of (w.inr g) (w.dis g)) ?_ rfl rfl) (root_dir g) (fun b hb => ?_) (w.dis g) (w.inr g) (fun b hb => ?_) (by rw [splice_len (by rw [hc]; exact hm), hc]) (fun j h3 h4 => ?_)
 ·show ((wrB f (ino f i) a s.length).length : Int) = _
  rw [w.len, w.need, hS]
 ·rcases key b hb with h | h
  ·exact g.own h
  ·exact h.2
 ·rcases key b hb with h | h
  ·exact .inl h
  ·exact .inr h.1
 ·rw [hS] at h3
  rw [splice_at (by rw [hc]; exact hm), if_neg (by omega), if_neg (by omega)]
  exact beyond_zero g (by omega) h4
theorem resize_both {f : F} {i z : Int} (h : FsF.cost f <= 1048576) : FsF.cost (resizeV f i z).1 <= 1073741824 /\ 1 + FsF.wid (resizeV f i z).1 <= 1073741824 := by
 unfold resizeV
 split
 ·exact same_both h
 ·split
  ·exact same_both h
  ·rename_i h1 h2
   simp only [Bool.not_eq_true', Bool.and_eq_false_iff, decide_eq_false_iff_not, not_or, Bool.not_eq_false] at h1
   obtain ⟨ho, hz⟩ := h1
   obtain ⟨k, rfl⟩ : ∃ k : Nat, i = k := ⟨i.toNat, by unfold hasObjB at ho; simp only [Bool.and_eq_true, decide_eq_true_eq] at ho; omega⟩
   obtain ⟨g, hk⟩ := has_kind ho
   exact ok_both (ok_resize g hk (by omega) (by omega))
theorem write_both {f : F} {i a : Int} {s : ByteArray} (h : FsF.cost f <= 1048576) : FsF.cost (writeV f i a s).1 <= 1073741824 /\ 1 + FsF.wid (writeV f i a s).1 <= 1073741824 := by
 unfold writeV
 split
 ·exact same_both h
 ·split
  ·exact same_both h
  ·split
   ·exact same_both h
   ·split
    ·rename_i h1 h2 h3 h4
     simp only [Bool.not_eq_true', Bool.and_eq_false_iff, decide_eq_false_iff_not, not_or, Bool.not_eq_false] at h1
     obtain ⟨ho, hz⟩ := h1
     obtain ⟨k, rfl⟩ : ∃ k : Nat, i = k := ⟨i.toNat, by unfold hasObjB at ho; simp only [Bool.and_eq_true, decide_eq_true_eq] at ho; omega⟩
     obtain ⟨g, hk⟩ := has_kind ho
     have hsl : s.data.toList.length = s.size := by simp
     have := ok_written (a := a.toNat) (s := s.data.toList) g hk (by omega) (by omega) (by rw [hsl]; exact h4)
     rw [hsl] at this
     exact ok_both this
    ·exact same_both h
end Go.Proofs.YthppbcnejapbiaaGreatDoor.FsOk
