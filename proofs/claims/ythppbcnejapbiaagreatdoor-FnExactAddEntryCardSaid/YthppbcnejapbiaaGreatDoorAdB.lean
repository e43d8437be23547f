/- Helper texts joined, one behind another (a claim has at most 60 files): what each proves, its own head says: YthppbcnejapbiaaGreatDoorIn, YthppbcnejapbiaaGreatDoorIF, YthppbcnejapbiaaGreatDoorFsF. -/
import Derived.Test.YthppbcnejapbiaaGreatDoorInoV
import Derived.Test.YthppbcnejapbiaaGreatDoorAdA
import Derived.Deep.RegionHeld3

-- YthppbcnejapbiaaGreatDoorIn
/- A part. -/
namespace Go.Proofs.YthppbcnejapbiaaGreatDoor.In
set_option maxHeartbeats 1600000
set_option maxRecDepth 100000
open Go.ChangeShapes Go.WideShapes Go.ChangeAt Go.RowKit Go.Deep
open Foot Bx
open Strs (ret_int)
set_option linter.unusedVariables false
abbrev L := InoV.I
def Holds (w : World) (v : Value) (n : L) : Prop := ∃ r0 r1 r2 : Value, v = .agg #[.int .i64 n.kind, .int .i64 n.mode, .int .i64 n.uid, .int .i64 n.gid, .int .i64 n.links, .int .i64 n.size, .int .i64 n.tick, r0, r1, r2] /\ NiF.Holds w r0 n.blocks /\ AeF.Holds w r1 n.acl /\ AeF.Holds w r2 n.dflt
theorem holds_below {w w' : World} {v : Value} {n : L} (h : Holds w v n) (hb : Below w.heap.size w w') : Holds w' v n := by
 obtain ⟨r0, r1, r2, e, h0, h1, h2⟩ := h
 exact ⟨r0, r1, r2, e, NiF.holds_below h0 hb, AeF.holds_below h1 hb, AeF.holds_below h2 hb⟩
def Own (w : World) (base : Nat) (v : Value) (n : L) (S : List Nat) : Prop := ∃ (r0 r1 r2 : Value) (S0 S1 S2 : List Nat), v = .agg #[.int .i64 n.kind, .int .i64 n.mode, .int .i64 n.uid, .int .i64 n.gid, .int .i64 n.links, .int .i64 n.size, .int .i64 n.tick, r0, r1, r2] /\ S = S0 ++ S1 ++ S2 /\ S.Nodup /\ NiF.Own w base r0 n.blocks S0 /\ AeF.Own w base r1 n.acl S1 /\ AeF.Own w base r2 n.dflt S2
section
variable {w w' : World} {base : Nat} {v : Value} {n : L} {S T : List Nat}
theorem own_holds (h : Own w base v n S) : Holds w v n := by
 obtain ⟨r0, r1, r2, S0, S1, S2, rfl, rfl, hnd, h0, h1, h2⟩ := h
 exact ⟨r0, r1, r2, rfl, NiF.own_holds h0, AeF.own_holds h1, AeF.own_holds h2⟩
theorem own_chg (h : Own w base v n S) (hc : Chg w w' T) (ha : Apart S T) : Own w' base v n S := by
 obtain ⟨r0, r1, r2, S0, S1, S2, rfl, rfl, hnd, h0, h1, h2⟩ := h
 simp only [apart_app] at ha
 exact ⟨r0, r1, r2, S0, S1, S2, rfl, rfl, hnd, NiF.own_chg h0 hc ha.1.1, AeF.own_chg h1 hc ha.1.2, AeF.own_chg h2 hc ha.2⟩
theorem own_below (h : Own w base v n S) (hb : Below w.heap.size w w') : Own w' base v n S := own_chg h (Chg.of_below hb (Nat.le_refl _) []) (fun k _ hh => by cases hh)
theorem own_mono {base' : Nat} (h : Own w base v n S) (hb : base' <= base) : Own w base' v n S := by
 obtain ⟨r0, r1, r2, S0, S1, S2, rfl, rfl, hnd, h0, h1, h2⟩ := h
 exact ⟨r0, r1, r2, S0, S1, S2, rfl, rfl, hnd, NiF.own_mono h0 hb, AeF.own_mono h1 hb, AeF.own_mono h2 hb⟩
theorem own_lies (h : Own w base v n S) : Lies S base w.heap.size := by
 obtain ⟨r0, r1, r2, S0, S1, S2, rfl, rfl, hnd, h0, h1, h2⟩ := h
 exact (((NiF.own_lies h0).app (AeF.own_lies h1)).app (AeF.own_lies h2))
theorem own_nodup (h : Own w base v n S) : S.Nodup := by
 obtain ⟨r0, r1, r2, S0, S1, S2, rfl, rfl, hnd, h0, h1, h2⟩ := h
 exact hnd
theorem own_set (h : Own w base v n S) {a : Addr} (ha : a.block < base) (u : Value) : Own (w.setCell a u) base v n S := by
 obtain ⟨r0, r1, r2, S0, S1, S2, rfl, rfl, hnd, h0, h1, h2⟩ := h
 exact ⟨r0, r1, r2, S0, S1, S2, rfl, rfl, hnd, NiF.own_set h0 ha u, AeF.own_set h1 ha u, AeF.own_set h2 ha u⟩
end
structure Lim (n : L) : Prop where
 kind : Rg n.kind
 mode : Rg n.mode
 uid : Rg n.uid
 gid : Rg n.gid
 links : Rg n.links
 size : Rg n.size
 tick : Rg n.tick
 blocks : NiF.Lim n.blocks
 acl : AeF.Lim n.acl
 dflt : AeF.Lim n.dflt
def cost (n : L) : Nat := NiF.cost n.blocks + AeF.cost n.acl + AeF.cost n.dflt
theorem le_blocks (n : L) : NiF.cost n.blocks <= cost n := by unfold cost; omega
theorem le_acl (n : L) : AeF.cost n.acl <= cost n := by unfold cost; omega
theorem le_dflt (n : L) : AeF.cost n.dflt <= cost n := by unfold cost; omega
theorem sz_any (w : World) (v : Value) (n : L) (left : Nat) (hleft : left <= 1073741824) (hl : Lim n) (h : Holds w v n) :
  Calls Tryz.prog 92 #[v, .int .i64 left] w fun e w' => e = .returned (.int .i64 (costOf (cost n) left)) /\ Below w.heap.size w w' := by
 obtain ⟨r0, r1, r2, rfl, g0, g1, g2⟩ := h
 have H0 := Lib.hid g0
 have H1 := Lib.hid g1
 have H2 := Lib.hid g2
 have HL := Lib.hid hl
 have HC := Lib.hid (show cost n = NiF.cost n.blocks + AeF.cost n.acl + AeF.cost n.dflt from rfl)
 have HB := Lib.hid ((Below.refl w.heap.size w).alloc (Nat.le_refl _) (.cells #[.int .i64 n.kind, .int .i64 n.mode, .int .i64 n.uid, .int .i64 n.gid, .int .i64 n.links, .int .i64 n.size, .int .i64 n.tick, r0, r1, r2] 111))
 have HX := Lib.hid (new w #[.int .i64 n.kind, .int .i64 n.mode, .int .i64 n.uid, .int .i64 n.gid, .int .i64 n.links, .int .i64 n.size, .int .i64 n.tick, r0, r1, r2] 111)
 clear g0 g1 g2 hl
 by_cases hc0 : NiF.cost n.blocks <= left
 ·obtain ⟨q0, hq0⟩ : ∃ x, x = left - NiF.cost n.blocks := ⟨_, rfl⟩
  have HZ0 := Lib.hid (show costOf (NiF.cost n.blocks) left = (q0 : Int) by rw [hq0]; exact cost_pos hc0)
  have hle0 : q0 <= 1073741824 := by omega
  by_cases hc1 : AeF.cost n.acl <= q0
  ·obtain ⟨q1, hq1⟩ : ∃ x, x = q0 - AeF.cost n.acl := ⟨_, rfl⟩
   have HZ1 := Lib.hid (show costOf (AeF.cost n.acl) q0 = (q1 : Int) by rw [hq1]; exact cost_pos hc1)
   have hle1 : q1 <= 1073741824 := by omega
   by_cases hc2 : AeF.cost n.dflt <= q1
   ·obtain ⟨q2, hq2⟩ : ∃ x, x = q1 - AeF.cost n.dflt := ⟨_, rfl⟩
    have HZ2 := Lib.hid (show costOf (AeF.cost n.dflt) q1 = (q2 : Int) by rw [hq2]; exact cost_pos hc2)
    have hle2 : q2 <= 1073741824 := by omega
    have HV := Lib.hid (show costOf (cost n) left = (q2 : Int) by rw [cost_pos (by rw [HC.out]; omega), HC.out]; omega)
    clear hc0 hq0 hc1 hq1 hc2 hq2
    go_enter Tryz.func92, Tryz.ntmps92
    go_wp2_with fail
    refine (NiF.sz_any _ r0 n.blocks left (by omega) HL.out.blocks (NiF.holds_below H0.out HB.out)).mono ?_
    rintro e w1 ⟨rfl, hb⟩
    rw [HZ0.out]
    have HXN := Lib.hid (HX.out.all hb)
    replace HB := Lib.hid (HB.out.trans (hb.mono HB.out.size))
    clear hb HX
    have HX := HXN
    clear HXN
    have c0 := HX.out.cell 8
    simp only [List.getElem?_toArray, List.getElem?_cons_succ, List.getElem?_cons_zero] at c0
    go_wp2_with fail
    refine (AeF.sz_any _ r1 n.acl q0 (by omega) HL.out.acl (AeF.holds_below H1.out HB.out)).mono ?_
    rintro e w1 ⟨rfl, hb⟩
    rw [HZ1.out]
    have HXN := Lib.hid (HX.out.all hb)
    replace HB := Lib.hid (HB.out.trans (hb.mono HB.out.size))
    clear hb HX
    have HX := HXN
    clear HXN
    have c1 := HX.out.cell 9
    simp only [List.getElem?_toArray, List.getElem?_cons_succ, List.getElem?_cons_zero] at c1
    go_wp2_with fail
    refine (AeF.sz_any _ r2 n.dflt q1 (by omega) HL.out.dflt (AeF.holds_below H2.out HB.out)).mono ?_
    rintro e w1 ⟨rfl, hb⟩
    rw [HZ2.out]
    have HXN := Lib.hid (HX.out.all hb)
    replace HB := Lib.hid (HB.out.trans (hb.mono HB.out.size))
    clear hb HX
    have HX := HXN
    clear HXN
    go_wp2
    go_ret
    exact ⟨ret_int (by rw [HV.out]), HB.out⟩
   ·have HZ2 := Lib.hid (cost_neg hc2)
    have HV := Lib.hid (show costOf (cost n) left = -1 from cost_neg (by rw [HC.out]; omega))
    clear hc0 hc1 hc2 hq0 hq1
    go_enter Tryz.func92, Tryz.ntmps92
    go_wp2_with fail
    refine (NiF.sz_any _ r0 n.blocks left (by omega) HL.out.blocks (NiF.holds_below H0.out HB.out)).mono ?_
    rintro e w1 ⟨rfl, hb⟩
    rw [HZ0.out]
    have HXN := Lib.hid (HX.out.all hb)
    replace HB := Lib.hid (HB.out.trans (hb.mono HB.out.size))
    clear hb HX
    have HX := HXN
    clear HXN
    have c0 := HX.out.cell 8
    simp only [List.getElem?_toArray, List.getElem?_cons_succ, List.getElem?_cons_zero] at c0
    go_wp2_with fail
    refine (AeF.sz_any _ r1 n.acl q0 (by omega) HL.out.acl (AeF.holds_below H1.out HB.out)).mono ?_
    rintro e w1 ⟨rfl, hb⟩
    rw [HZ1.out]
    have HXN := Lib.hid (HX.out.all hb)
    replace HB := Lib.hid (HB.out.trans (hb.mono HB.out.size))
    clear hb HX
    have HX := HXN
    clear HXN
    have c1 := HX.out.cell 9
    simp only [List.getElem?_toArray, List.getElem?_cons_succ, List.getElem?_cons_zero] at c1
    go_wp2_with fail
    refine (AeF.sz_any _ r2 n.dflt q1 (by omega) HL.out.dflt (AeF.holds_below H2.out HB.out)).mono ?_
    rintro e w1 ⟨rfl, hb⟩
    rw [HZ2.out]
    have HXN := Lib.hid (HX.out.all hb)
    replace HB := Lib.hid (HB.out.trans (hb.mono HB.out.size))
    clear hb HX
    have HX := HXN
    clear HXN
    go_wp2
    go_ret
    exact ⟨ret_int (by rw [HV.out]), HB.out⟩
  ·have HZ1 := Lib.hid (cost_neg hc1)
   have HV := Lib.hid (show costOf (cost n) left = -1 from cost_neg (by rw [HC.out]; omega))
   clear hc0 hc1 hq0
   go_enter Tryz.func92, Tryz.ntmps92
   go_wp2_with fail
   refine (NiF.sz_any _ r0 n.blocks left (by omega) HL.out.blocks (NiF.holds_below H0.out HB.out)).mono ?_
   rintro e w1 ⟨rfl, hb⟩
   rw [HZ0.out]
   have HXN := Lib.hid (HX.out.all hb)
   replace HB := Lib.hid (HB.out.trans (hb.mono HB.out.size))
   clear hb HX
   have HX := HXN
   clear HXN
   have c0 := HX.out.cell 8
   simp only [List.getElem?_toArray, List.getElem?_cons_succ, List.getElem?_cons_zero] at c0
   go_wp2_with fail
   refine (AeF.sz_any _ r1 n.acl q0 (by omega) HL.out.acl (AeF.holds_below H1.out HB.out)).mono ?_
   rintro e w1 ⟨rfl, hb⟩
   rw [HZ1.out]
   have HXN := Lib.hid (HX.out.all hb)
   replace HB := Lib.hid (HB.out.trans (hb.mono HB.out.size))
   clear hb HX
   have HX := HXN
   clear HXN
   go_wp2
   go_ret
   exact ⟨ret_int (by rw [HV.out]), HB.out⟩
 ·have HZ0 := Lib.hid (cost_neg hc0)
  have HV := Lib.hid (show costOf (cost n) left = -1 from cost_neg (by rw [HC.out]; omega))
  clear hc0
  go_enter Tryz.func92, Tryz.ntmps92
  go_wp2_with fail
  refine (NiF.sz_any _ r0 n.blocks left (by omega) HL.out.blocks (NiF.holds_below H0.out HB.out)).mono ?_
  rintro e w1 ⟨rfl, hb⟩
  rw [HZ0.out]
  have HXN := Lib.hid (HX.out.all hb)
  replace HB := Lib.hid (HB.out.trans (hb.mono HB.out.size))
  clear hb HX
  have HX := HXN
  clear HXN
  go_wp2
  go_ret
  exact ⟨ret_int (by rw [HV.out]), HB.out⟩
theorem to_any (w : World) (v : Value) (n : L) (hc : cost n <= 1073741824) (h : Holds w v n) :
  Calls Tryz.prog 94 #[v] w fun e w' => ∃ v' S, e = .returned v' /\ Own w' w.heap.size v' n S /\ Below w.heap.size w w' := by
 obtain ⟨r0, r1, r2, rfl, g0, g1, g2⟩ := h
 have H0 := Lib.hid g0
 have H1 := Lib.hid g1
 have H2 := Lib.hid g2
 have hcc : NiF.cost n.blocks + AeF.cost n.acl + AeF.cost n.dflt <= 1073741824 := hc
 clear g0 g1 g2 hc
 go_enter Tryz.func94, Tryz.ntmps94
 go_wp2_with fail
 have hb0 := (((Below.refl w.heap.size w).alloc (Nat.le_refl _) (.cells #[.int .i64 n.kind, .int .i64 n.mode, .int .i64 n.uid, .int .i64 n.gid, .int .i64 n.links, .int .i64 n.size, .int .i64 n.tick, r0, r1, r2] 111)).alloc (by simp) (.cells #[.int .i64 0, .int .i64 0, .int .i64 0, .int .i64 0, .int .i64 0, .int .i64 0, .int .i64 0, .slice none 0 0, .slice none 0 0, .slice none 0 0] 89)).alloc (by simp; omega) (.cells #[.int .i64 n.kind, .int .i64 n.mode, .int .i64 n.uid, .int .i64 n.gid, .int .i64 n.links, .int .i64 n.size, .int .i64 n.tick, .slice none 0 0, .slice none 0 0, .slice none 0 0] 89)
 have hA := ((new w #[.int .i64 n.kind, .int .i64 n.mode, .int .i64 n.uid, .int .i64 n.gid, .int .i64 n.links, .int .i64 n.size, .int .i64 n.tick, r0, r1, r2] 111).alloc (.cells #[.int .i64 0, .int .i64 0, .int .i64 0, .int .i64 0, .int .i64 0, .int .i64 0, .int .i64 0, .slice none 0 0, .slice none 0 0, .slice none 0 0] 89)).alloc (.cells #[.int .i64 n.kind, .int .i64 n.mode, .int .i64 n.uid, .int .i64 n.gid, .int .i64 n.links, .int .i64 n.size, .int .i64 n.tick, .slice none 0 0, .slice none 0 0, .slice none 0 0] 89)
 have hR := (new_at (w.alloc (.cells #[.int .i64 n.kind, .int .i64 n.mode, .int .i64 n.uid, .int .i64 n.gid, .int .i64 n.links, .int .i64 n.size, .int .i64 n.tick, r0, r1, r2] 111)) #[.int .i64 0, .int .i64 0, .int .i64 0, .int .i64 0, .int .i64 0, .int .i64 0, .int .i64 0, .slice none 0 0, .slice none 0 0, .slice none 0 0] 89 (w.heap.size + 1) (by simp)).alloc (.cells #[.int .i64 n.kind, .int .i64 n.mode, .int .i64 n.uid, .int .i64 n.gid, .int .i64 n.links, .int .i64 n.size, .int .i64 n.tick, .slice none 0 0, .slice none 0 0, .slice none 0 0] 89)
 have hO := new_at ((w.alloc (.cells #[.int .i64 n.kind, .int .i64 n.mode, .int .i64 n.uid, .int .i64 n.gid, .int .i64 n.links, .int .i64 n.size, .int .i64 n.tick, r0, r1, r2] 111)).alloc (.cells #[.int .i64 0, .int .i64 0, .int .i64 0, .int .i64 0, .int .i64 0, .int .i64 0, .int .i64 0, .slice none 0 0, .slice none 0 0, .slice none 0 0] 89)) #[.int .i64 n.kind, .int .i64 n.mode, .int .i64 n.uid, .int .i64 n.gid, .int .i64 n.links, .int .i64 n.size, .int .i64 n.tick, .slice none 0 0, .slice none 0 0, .slice none 0 0] 89 (w.heap.size + 1 + 1) (by simp)
 generalize hW0 : ((w.alloc (.cells #[.int .i64 n.kind, .int .i64 n.mode, .int .i64 n.uid, .int .i64 n.gid, .int .i64 n.links, .int .i64 n.size, .int .i64 n.tick, r0, r1, r2] 111)).alloc (.cells #[.int .i64 0, .int .i64 0, .int .i64 0, .int .i64 0, .int .i64 0, .int .i64 0, .int .i64 0, .slice none 0 0, .slice none 0 0, .slice none 0 0] 89)).alloc (.cells #[.int .i64 n.kind, .int .i64 n.mode, .int .i64 n.uid, .int .i64 n.gid, .int .i64 n.links, .int .i64 n.size, .int .i64 n.tick, .slice none 0 0, .slice none 0 0, .slice none 0 0] 89) = w0 at hb0 hA hR hO ⊢
 have hsz : w0.heap.size = w.heap.size + 1 + 1 + 1 := by rw [<- hW0]; simp
 have hs0 := Nat.le_of_eq hsz.symm
 clear hW0 hsz
 have HB := Lib.hid hb0
 have HA := Lib.hid hA
 have HR := Lib.hid hR
 have HQ := Lib.hid hO
 clear hb0 hA hR hO
 refine (NiF.to_any _ r0 n.blocks (by omega) (NiF.holds_below H0.out HB.out)).mono ?_
 rintro e w1 ⟨y0, S0, rfl, hown, hb⟩
 obtain ⟨a0, d0, rfl⟩ := NiF.own_form hown
 have hs1 := hb.size
 replace HA := Lib.hid (HA.out.all hb)
 replace HR := Lib.hid (HR.out.all hb)
 replace HQ := Lib.hid (HQ.out.all hb)
 replace HB := Lib.hid (HB.out.trans (hb.mono HB.out.size))
 have hlow0 := NiF.own_lies hown
 have HO0 := Lib.hid hown
 have HL0 := Lib.hid hlow0
 clear hown hb hlow0
 have hq0 : w1.cell? ⟨w.heap.size + 1 + 1, 7, none⟩ = some (.slice none 0 0) := HQ.out.cell 7
 have hf0 := HQ.out.free 7
 have hB2 := HB.out.setCell (p := ⟨w.heap.size + 1 + 1, 7, none⟩) (by simp; omega) (.slice a0 n.blocks.length d0)
 have hA2 := HA.out.far (p := ⟨w.heap.size + 1 + 1, 7, none⟩) (by simp; omega) (.slice a0 n.blocks.length d0)
 have hR2 := HR.out.far (p := ⟨w.heap.size + 1 + 1, 7, none⟩) (by simp) (.slice a0 n.blocks.length d0)
 have hQ2 : Bk _ _ #[.int .i64 n.kind, .int .i64 n.mode, .int .i64 n.uid, .int .i64 n.gid, .int .i64 n.links, .int .i64 n.size, .int .i64 n.tick, .slice a0 n.blocks.length d0, .slice none 0 0, .slice none 0 0] _ := HQ.out.put 7 (.slice a0 n.blocks.length d0)
 have hO20 := NiF.own_set HO0.out (a := ⟨w.heap.size + 1 + 1, 7, none⟩) (by simp; omega) (.slice a0 n.blocks.length d0)
 have hn0 := hA2.cell 8
 simp only [List.getElem?_toArray, List.getElem?_cons_succ, List.getElem?_cons_zero] at hn0
 replace HB := Lib.hid hB2
 replace HA := Lib.hid hA2
 replace HR := Lib.hid hR2
 replace HQ := Lib.hid hQ2
 replace HO0 := Lib.hid hO20
 clear hB2 hA2 hR2 hQ2 hO20
 go_wp2_with fail
 clear hq0 hf0 hn0
 refine (AeF.to_any _ r1 n.acl (by omega) (AeF.holds_below H1.out HB.out)).mono ?_
 rintro e w2 ⟨y1, S1, rfl, hown, hb⟩
 obtain ⟨a1, d1, rfl⟩ := AeF.own_form hown
 have hs2 := hb.size
 simp only [World.size_setCell] at hs2
 replace HA := Lib.hid (HA.out.all hb)
 replace HR := Lib.hid (HR.out.all hb)
 replace HQ := Lib.hid (HQ.out.all hb)
 replace HB := Lib.hid (HB.out.trans (hb.mono HB.out.size))
 replace HO0 := Lib.hid (NiF.own_below HO0.out hb)
 have hlow1 := AeF.own_lies hown
 simp only [World.size_setCell] at hown hlow1
 have HO1 := Lib.hid hown
 have HL1 := Lib.hid hlow1
 clear hown hb hlow1
 have hq1 : w2.cell? ⟨w.heap.size + 1 + 1, 8, none⟩ = some (.slice none 0 0) := HQ.out.cell 8
 have hf1 := HQ.out.free 8
 have hB2 := HB.out.setCell (p := ⟨w.heap.size + 1 + 1, 8, none⟩) (by simp; omega) (.slice a1 n.acl.length d1)
 have hA2 := HA.out.far (p := ⟨w.heap.size + 1 + 1, 8, none⟩) (by simp; omega) (.slice a1 n.acl.length d1)
 have hR2 := HR.out.far (p := ⟨w.heap.size + 1 + 1, 8, none⟩) (by simp) (.slice a1 n.acl.length d1)
 have hQ2 : Bk _ _ #[.int .i64 n.kind, .int .i64 n.mode, .int .i64 n.uid, .int .i64 n.gid, .int .i64 n.links, .int .i64 n.size, .int .i64 n.tick, .slice a0 n.blocks.length d0, .slice a1 n.acl.length d1, .slice none 0 0] _ := HQ.out.put 8 (.slice a1 n.acl.length d1)
 have hO20 := NiF.own_set HO0.out (a := ⟨w.heap.size + 1 + 1, 8, none⟩) (by simp; omega) (.slice a1 n.acl.length d1)
 have hO21 := AeF.own_set HO1.out (a := ⟨w.heap.size + 1 + 1, 8, none⟩) (by simp; omega) (.slice a1 n.acl.length d1)
 have hn1 := hA2.cell 9
 simp only [List.getElem?_toArray, List.getElem?_cons_succ, List.getElem?_cons_zero] at hn1
 replace HB := Lib.hid hB2
 replace HA := Lib.hid hA2
 replace HR := Lib.hid hR2
 replace HQ := Lib.hid hQ2
 replace HO0 := Lib.hid hO20
 replace HO1 := Lib.hid hO21
 clear hB2 hA2 hR2 hQ2 hO20 hO21
 go_wp2_with fail
 clear hq1 hf1 hn1
 refine (AeF.to_any _ r2 n.dflt (by omega) (AeF.holds_below H2.out HB.out)).mono ?_
 rintro e w3 ⟨y2, S2, rfl, hown, hb⟩
 obtain ⟨a2, d2, rfl⟩ := AeF.own_form hown
 have hs3 := hb.size
 simp only [World.size_setCell] at hs3
 replace HA := Lib.hid (HA.out.all hb)
 replace HR := Lib.hid (HR.out.all hb)
 replace HQ := Lib.hid (HQ.out.all hb)
 replace HB := Lib.hid (HB.out.trans (hb.mono HB.out.size))
 replace HO0 := Lib.hid (NiF.own_below HO0.out hb)
 replace HO1 := Lib.hid (AeF.own_below HO1.out hb)
 have hlow2 := AeF.own_lies hown
 simp only [World.size_setCell] at hown hlow2
 have HO2 := Lib.hid hown
 have HL2 := Lib.hid hlow2
 clear hown hb hlow2
 have hq2 : w3.cell? ⟨w.heap.size + 1 + 1, 9, none⟩ = some (.slice none 0 0) := HQ.out.cell 9
 have hf2 := HQ.out.free 9
 have rz := HR.out.cell
 have rc0 := rz 0
 have rf0 := HR.out.free 0
 have qc0 := HQ.out.cell 0
 have rc1 := rz 1
 have rf1 := HR.out.free 1
 have qc1 := HQ.out.cell 1
 have rc2 := rz 2
 have rf2 := HR.out.free 2
 have qc2 := HQ.out.cell 2
 have rc3 := rz 3
 have rf3 := HR.out.free 3
 have qc3 := HQ.out.cell 3
 have rc4 := rz 4
 have rf4 := HR.out.free 4
 have qc4 := HQ.out.cell 4
 have rc5 := rz 5
 have rf5 := HR.out.free 5
 have qc5 := HQ.out.cell 5
 have rc6 := rz 6
 have rf6 := HR.out.free 6
 have qc6 := HQ.out.cell 6
 have rc7 := rz 7
 have rf7 := HR.out.free 7
 have qc7 := HQ.out.cell 7
 have rc8 := rz 8
 have rf8 := HR.out.free 8
 have qc8 := HQ.out.cell 8
 have rc9 := rz 9
 have rf9 := HR.out.free 9
 clear rz
 dsimp at rc0 rc1 rc2 rc3 rc4 rc5 rc6 rc7 rc8 rc9 qc0 qc1 qc2 qc3 qc4 qc5 qc6 qc7 qc8
 go_wp2_with fail
 have hF0 := HR.out.far (p := ⟨w.heap.size + 1 + 1, 9, none⟩) (by simp) (.slice a2 n.dflt.length d2)
 have hF1 : Bk _ _ #[.int .i64 n.kind, .int .i64 0, .int .i64 0, .int .i64 0, .int .i64 0, .int .i64 0, .int .i64 0, .slice none 0 0, .slice none 0 0, .slice none 0 0] _ := hF0.put 0 (.int .i64 n.kind)
 clear hF0
 have hF2 : Bk _ _ #[.int .i64 n.kind, .int .i64 n.mode, .int .i64 0, .int .i64 0, .int .i64 0, .int .i64 0, .int .i64 0, .slice none 0 0, .slice none 0 0, .slice none 0 0] _ := hF1.put 1 (.int .i64 n.mode)
 clear hF1
 have hF3 : Bk _ _ #[.int .i64 n.kind, .int .i64 n.mode, .int .i64 n.uid, .int .i64 0, .int .i64 0, .int .i64 0, .int .i64 0, .slice none 0 0, .slice none 0 0, .slice none 0 0] _ := hF2.put 2 (.int .i64 n.uid)
 clear hF2
 have hF4 : Bk _ _ #[.int .i64 n.kind, .int .i64 n.mode, .int .i64 n.uid, .int .i64 n.gid, .int .i64 0, .int .i64 0, .int .i64 0, .slice none 0 0, .slice none 0 0, .slice none 0 0] _ := hF3.put 3 (.int .i64 n.gid)
 clear hF3
 have hF5 : Bk _ _ #[.int .i64 n.kind, .int .i64 n.mode, .int .i64 n.uid, .int .i64 n.gid, .int .i64 n.links, .int .i64 0, .int .i64 0, .slice none 0 0, .slice none 0 0, .slice none 0 0] _ := hF4.put 4 (.int .i64 n.links)
 clear hF4
 have hF6 : Bk _ _ #[.int .i64 n.kind, .int .i64 n.mode, .int .i64 n.uid, .int .i64 n.gid, .int .i64 n.links, .int .i64 n.size, .int .i64 0, .slice none 0 0, .slice none 0 0, .slice none 0 0] _ := hF5.put 5 (.int .i64 n.size)
 clear hF5
 have hF7 : Bk _ _ #[.int .i64 n.kind, .int .i64 n.mode, .int .i64 n.uid, .int .i64 n.gid, .int .i64 n.links, .int .i64 n.size, .int .i64 n.tick, .slice none 0 0, .slice none 0 0, .slice none 0 0] _ := hF6.put 6 (.int .i64 n.tick)
 clear hF6
 have hF8 : Bk _ _ #[.int .i64 n.kind, .int .i64 n.mode, .int .i64 n.uid, .int .i64 n.gid, .int .i64 n.links, .int .i64 n.size, .int .i64 n.tick, .slice a0 n.blocks.length d0, .slice none 0 0, .slice none 0 0] _ := hF7.put 7 (.slice a0 n.blocks.length d0)
 clear hF7
 have hF9 : Bk _ _ #[.int .i64 n.kind, .int .i64 n.mode, .int .i64 n.uid, .int .i64 n.gid, .int .i64 n.links, .int .i64 n.size, .int .i64 n.tick, .slice a0 n.blocks.length d0, .slice a1 n.acl.length d1, .slice none 0 0] _ := hF8.put 8 (.slice a1 n.acl.length d1)
 clear hF8
 have hF10 : Bk _ _ #[.int .i64 n.kind, .int .i64 n.mode, .int .i64 n.uid, .int .i64 n.gid, .int .i64 n.links, .int .i64 n.size, .int .i64 n.tick, .slice a0 n.blocks.length d0, .slice a1 n.acl.length d1, .slice a2 n.dflt.length d2] _ := hF9.put 9 (.slice a2 n.dflt.length d2)
 clear hF9
 have hF := hF10
 clear hF10
 have hB4 := (((((((((((HB.out.setCell (p := ⟨w.heap.size + 1 + 1, 9, none⟩) (by first | (simp; done) | (simp; omega)) (.slice a2 n.dflt.length d2)).setCell (p := ⟨w.heap.size + 1, 0, none⟩) (by first | (simp; done) | (simp; omega)) (.int .i64 n.kind)).setCell (p := ⟨w.heap.size + 1, 1, none⟩) (by first | (simp; done) | (simp; omega)) (.int .i64 n.mode)).setCell (p := ⟨w.heap.size + 1, 2, none⟩) (by first | (simp; done) | (simp; omega)) (.int .i64 n.uid)).setCell (p := ⟨w.heap.size + 1, 3, none⟩) (by first | (simp; done) | (simp; omega)) (.int .i64 n.gid)).setCell (p := ⟨w.heap.size + 1, 4, none⟩) (by first | (simp; done) | (simp; omega)) (.int .i64 n.links)).setCell (p := ⟨w.heap.size + 1, 5, none⟩) (by first | (simp; done) | (simp; omega)) (.int .i64 n.size)).setCell (p := ⟨w.heap.size + 1, 6, none⟩) (by first | (simp; done) | (simp; omega)) (.int .i64 n.tick)).setCell (p := ⟨w.heap.size + 1, 7, none⟩) (by first | (simp; done) | (simp; omega)) (.slice a0 n.blocks.length d0)).setCell (p := ⟨w.heap.size + 1, 8, none⟩) (by first | (simp; done) | (simp; omega)) (.slice a1 n.acl.length d1)).setCell (p := ⟨w.heap.size + 1, 9, none⟩) (by first | (simp; done) | (simp; omega)) (.slice a2 n.dflt.length d2))
 have hO40 := (NiF.own_set (NiF.own_set (NiF.own_set (NiF.own_set (NiF.own_set (NiF.own_set (NiF.own_set (NiF.own_set (NiF.own_set (NiF.own_set (NiF.own_set HO0.out (a := ⟨w.heap.size + 1 + 1, 9, none⟩) (by first | (simp; done) | (simp; omega)) (.slice a2 n.dflt.length d2)) (a := ⟨w.heap.size + 1, 0, none⟩) (by first | (simp; done) | (simp; omega)) (.int .i64 n.kind)) (a := ⟨w.heap.size + 1, 1, none⟩) (by first | (simp; done) | (simp; omega)) (.int .i64 n.mode)) (a := ⟨w.heap.size + 1, 2, none⟩) (by first | (simp; done) | (simp; omega)) (.int .i64 n.uid)) (a := ⟨w.heap.size + 1, 3, none⟩) (by first | (simp; done) | (simp; omega)) (.int .i64 n.gid)) (a := ⟨w.heap.size + 1, 4, none⟩) (by first | (simp; done) | (simp; omega)) (.int .i64 n.links)) (a := ⟨w.heap.size + 1, 5, none⟩) (by first | (simp; done) | (simp; omega)) (.int .i64 n.size)) (a := ⟨w.heap.size + 1, 6, none⟩) (by first | (simp; done) | (simp; omega)) (.int .i64 n.tick)) (a := ⟨w.heap.size + 1, 7, none⟩) (by first | (simp; done) | (simp; omega)) (.slice a0 n.blocks.length d0)) (a := ⟨w.heap.size + 1, 8, none⟩) (by first | (simp; done) | (simp; omega)) (.slice a1 n.acl.length d1)) (a := ⟨w.heap.size + 1, 9, none⟩) (by first | (simp; done) | (simp; omega)) (.slice a2 n.dflt.length d2))
 have hO41 := (AeF.own_set (AeF.own_set (AeF.own_set (AeF.own_set (AeF.own_set (AeF.own_set (AeF.own_set (AeF.own_set (AeF.own_set (AeF.own_set (AeF.own_set HO1.out (a := ⟨w.heap.size + 1 + 1, 9, none⟩) (by first | (simp; done) | (simp; omega)) (.slice a2 n.dflt.length d2)) (a := ⟨w.heap.size + 1, 0, none⟩) (by first | (simp; done) | (simp; omega)) (.int .i64 n.kind)) (a := ⟨w.heap.size + 1, 1, none⟩) (by first | (simp; done) | (simp; omega)) (.int .i64 n.mode)) (a := ⟨w.heap.size + 1, 2, none⟩) (by first | (simp; done) | (simp; omega)) (.int .i64 n.uid)) (a := ⟨w.heap.size + 1, 3, none⟩) (by first | (simp; done) | (simp; omega)) (.int .i64 n.gid)) (a := ⟨w.heap.size + 1, 4, none⟩) (by first | (simp; done) | (simp; omega)) (.int .i64 n.links)) (a := ⟨w.heap.size + 1, 5, none⟩) (by first | (simp; done) | (simp; omega)) (.int .i64 n.size)) (a := ⟨w.heap.size + 1, 6, none⟩) (by first | (simp; done) | (simp; omega)) (.int .i64 n.tick)) (a := ⟨w.heap.size + 1, 7, none⟩) (by first | (simp; done) | (simp; omega)) (.slice a0 n.blocks.length d0)) (a := ⟨w.heap.size + 1, 8, none⟩) (by first | (simp; done) | (simp; omega)) (.slice a1 n.acl.length d1)) (a := ⟨w.heap.size + 1, 9, none⟩) (by first | (simp; done) | (simp; omega)) (.slice a2 n.dflt.length d2))
 have hO42 := (AeF.own_set (AeF.own_set (AeF.own_set (AeF.own_set (AeF.own_set (AeF.own_set (AeF.own_set (AeF.own_set (AeF.own_set (AeF.own_set (AeF.own_set HO2.out (a := ⟨w.heap.size + 1 + 1, 9, none⟩) (by first | (simp; done) | (simp; omega)) (.slice a2 n.dflt.length d2)) (a := ⟨w.heap.size + 1, 0, none⟩) (by first | (simp; done) | (simp; omega)) (.int .i64 n.kind)) (a := ⟨w.heap.size + 1, 1, none⟩) (by first | (simp; done) | (simp; omega)) (.int .i64 n.mode)) (a := ⟨w.heap.size + 1, 2, none⟩) (by first | (simp; done) | (simp; omega)) (.int .i64 n.uid)) (a := ⟨w.heap.size + 1, 3, none⟩) (by first | (simp; done) | (simp; omega)) (.int .i64 n.gid)) (a := ⟨w.heap.size + 1, 4, none⟩) (by first | (simp; done) | (simp; omega)) (.int .i64 n.links)) (a := ⟨w.heap.size + 1, 5, none⟩) (by first | (simp; done) | (simp; omega)) (.int .i64 n.size)) (a := ⟨w.heap.size + 1, 6, none⟩) (by first | (simp; done) | (simp; omega)) (.int .i64 n.tick)) (a := ⟨w.heap.size + 1, 7, none⟩) (by first | (simp; done) | (simp; omega)) (.slice a0 n.blocks.length d0)) (a := ⟨w.heap.size + 1, 8, none⟩) (by first | (simp; done) | (simp; omega)) (.slice a1 n.acl.length d1)) (a := ⟨w.heap.size + 1, 9, none⟩) (by first | (simp; done) | (simp; omega)) (.slice a2 n.dflt.length d2))
 generalize (((((((((((w3.setCell ⟨w.heap.size + 1 + 1, 9, none⟩ (.slice a2 n.dflt.length d2)).setCell ⟨w.heap.size + 1, 0, none⟩ (.int .i64 n.kind)).setCell ⟨w.heap.size + 1, 1, none⟩ (.int .i64 n.mode)).setCell ⟨w.heap.size + 1, 2, none⟩ (.int .i64 n.uid)).setCell ⟨w.heap.size + 1, 3, none⟩ (.int .i64 n.gid)).setCell ⟨w.heap.size + 1, 4, none⟩ (.int .i64 n.links)).setCell ⟨w.heap.size + 1, 5, none⟩ (.int .i64 n.size)).setCell ⟨w.heap.size + 1, 6, none⟩ (.int .i64 n.tick)).setCell ⟨w.heap.size + 1, 7, none⟩ (.slice a0 n.blocks.length d0)).setCell ⟨w.heap.size + 1, 8, none⟩ (.slice a1 n.acl.length d1)).setCell ⟨w.heap.size + 1, 9, none⟩ (.slice a2 n.dflt.length d2)) = w9 at hF hB4 hO40 hO41 hO42 ⊢
 have fc0 : w9.cell? ⟨w.heap.size + 1, 0, none⟩ = some (.int .i64 n.kind) := hF.cell 0
 have fc1 : w9.cell? ⟨w.heap.size + 1, 1, none⟩ = some (.int .i64 n.mode) := hF.cell 1
 have fc2 : w9.cell? ⟨w.heap.size + 1, 2, none⟩ = some (.int .i64 n.uid) := hF.cell 2
 have fc3 : w9.cell? ⟨w.heap.size + 1, 3, none⟩ = some (.int .i64 n.gid) := hF.cell 3
 have fc4 : w9.cell? ⟨w.heap.size + 1, 4, none⟩ = some (.int .i64 n.links) := hF.cell 4
 have fc5 : w9.cell? ⟨w.heap.size + 1, 5, none⟩ = some (.int .i64 n.size) := hF.cell 5
 have fc6 : w9.cell? ⟨w.heap.size + 1, 6, none⟩ = some (.int .i64 n.tick) := hF.cell 6
 have fc7 : w9.cell? ⟨w.heap.size + 1, 7, none⟩ = some (.slice a0 n.blocks.length d0) := hF.cell 7
 have fc8 : w9.cell? ⟨w.heap.size + 1, 8, none⟩ = some (.slice a1 n.acl.length d1) := hF.cell 8
 have fc9 : w9.cell? ⟨w.heap.size + 1, 9, none⟩ = some (.slice a2 n.dflt.length d2) := hF.cell 9
 have hnd : (S0 ++ S1 ++ S2).Nodup := (nodup_app (nodup_app (NiF.own_nodup hO40) (AeF.own_nodup hO41) (Lies.apart HL0.out HL1.out (by omega))) (AeF.own_nodup hO42) (apart_app.2 ⟨(Lies.apart HL0.out HL2.out (by omega)), Lies.apart HL1.out HL2.out (by omega)⟩))
 exact bodyPost_ret (v := .agg #[.int .i64 n.kind, .int .i64 n.mode, .int .i64 n.uid, .int .i64 n.gid, .int .i64 n.links, .int .i64 n.size, .int .i64 n.tick, (.slice a0 n.blocks.length d0), (.slice a1 n.acl.length d1), (.slice a2 n.dflt.length d2)]) (by simp [results, Tryz.results94, go_sem, fc0, fc1, fc2, fc3, fc4, fc5, fc6, fc7, fc8, fc9]) rfl ⟨_, _, rfl, ⟨_, _, _, S0, S1, S2, rfl, rfl, hnd, NiF.own_mono hO40 (by omega), AeF.own_mono hO41 (by omega), AeF.own_mono hO42 (by omega)⟩, hB4⟩
theorem eq_any (w : World) (va vb : Value) (n : L) (hc : cost n <= 1073741824) (h : Holds w va n) (h' : Holds w vb n) :
  Calls Tryz.prog 100 #[va, vb] w fun e w' => e = .returned (.bool true) /\ Below w.heap.size w w' := by
 obtain ⟨x0, x1, x2, rfl, g0, g1, g2⟩ := h
 obtain ⟨y0, y1, y2, rfl, k0, k1, k2⟩ := h'
 have H0 := Lib.hid g0
 have K0 := Lib.hid k0
 have H1 := Lib.hid g1
 have K1 := Lib.hid k1
 have H2 := Lib.hid g2
 have K2 := Lib.hid k2
 have hcc : NiF.cost n.blocks + AeF.cost n.acl + AeF.cost n.dflt <= 1073741824 := hc
 clear g0 k0 g1 k1 g2 k2 hc
 have HB := Lib.hid (((Below.refl w.heap.size w).alloc (Nat.le_refl _) (.cells #[.int .i64 n.kind, .int .i64 n.mode, .int .i64 n.uid, .int .i64 n.gid, .int .i64 n.links, .int .i64 n.size, .int .i64 n.tick, x0, x1, x2] 89)).alloc (by simp) (.cells #[.int .i64 n.kind, .int .i64 n.mode, .int .i64 n.uid, .int .i64 n.gid, .int .i64 n.links, .int .i64 n.size, .int .i64 n.tick, y0, y1, y2] 89))
 have HX := Lib.hid ((new w #[.int .i64 n.kind, .int .i64 n.mode, .int .i64 n.uid, .int .i64 n.gid, .int .i64 n.links, .int .i64 n.size, .int .i64 n.tick, x0, x1, x2] 89).alloc (.cells #[.int .i64 n.kind, .int .i64 n.mode, .int .i64 n.uid, .int .i64 n.gid, .int .i64 n.links, .int .i64 n.size, .int .i64 n.tick, y0, y1, y2] 89))
 have HY := Lib.hid (new_at (w.alloc (.cells #[.int .i64 n.kind, .int .i64 n.mode, .int .i64 n.uid, .int .i64 n.gid, .int .i64 n.links, .int .i64 n.size, .int .i64 n.tick, x0, x1, x2] 89)) #[.int .i64 n.kind, .int .i64 n.mode, .int .i64 n.uid, .int .i64 n.gid, .int .i64 n.links, .int .i64 n.size, .int .i64 n.tick, y0, y1, y2] 89 (w.heap.size + 1) (by simp))
 go_enter Tryz.func100, Tryz.ntmps100
 go_wp2_with fail
 refine (NiF.eq_any _ x0 y0 n.blocks (by omega) (NiF.holds_below H0.out HB.out) (NiF.holds_below K0.out HB.out)).mono ?_
 rintro e w1 ⟨rfl, hb⟩
 replace HX := Lib.hid (HX.out.all hb)
 replace HY := Lib.hid (HY.out.all hb)
 replace HB := Lib.hid (HB.out.trans (hb.mono HB.out.size))
 clear hb
 have cx08 := HX.out.cell 8
 have cy08 := HY.out.cell 8
 have cx09 := HX.out.cell 9
 have cy09 := HY.out.cell 9
 dsimp at cx08 cy08 cx09 cy09
 go_wp2_with fail
 refine (AeF.eq_any _ x1 y1 n.acl (by omega) (AeF.holds_below H1.out HB.out) (AeF.holds_below K1.out HB.out)).mono ?_
 rintro e w2 ⟨rfl, hb⟩
 replace HX := Lib.hid (HX.out.all hb)
 replace HY := Lib.hid (HY.out.all hb)
 replace HB := Lib.hid (HB.out.trans (hb.mono HB.out.size))
 clear hb
 have cx19 := HX.out.cell 9
 have cy19 := HY.out.cell 9
 dsimp at cx19 cy19
 go_wp2_with fail
 refine (AeF.eq_any _ x2 y2 n.dflt (by omega) (AeF.holds_below H2.out HB.out) (AeF.holds_below K2.out HB.out)).mono ?_
 rintro e w3 ⟨rfl, hb⟩
 replace HX := Lib.hid (HX.out.all hb)
 replace HY := Lib.hid (HY.out.all hb)
 replace HB := Lib.hid (HB.out.trans (hb.mono HB.out.size))
 clear hb
 go_wp2
 go_ret
 exact ⟨rfl, HB.out⟩
theorem in_cells {H : Type} {enc : TypeId × Value -> H} {W : World} {fuel : Nat} {cs : List Value} {x : DataW H × List MemPlace} (hf : DataW.trod enc Tryz.prog W 0 (fun _ => true) true fuel 111 cs = some x) :
  ∃ (n : L) (r0 r1 r2 : Value), cs = [.int .i64 n.kind, .int .i64 n.mode, .int .i64 n.uid, .int .i64 n.gid, .int .i64 n.links, .int .i64 n.size, .int .i64 n.tick, r0, r1, r2] /\ Lim n /\ NiF.Holds W r0 n.blocks /\ AeF.Holds W r1 n.acl /\ AeF.Holds W r2 n.dflt := by
 obtain ⟨xs, fu, _, rfl, hl, hlen, hfs⟩ := DataW.trod_struct Tryz.underlying111 hf
 rw [show Tryz.prog.cellsOf 111 = 10 from by kernel_rfl] at hl
 obtain ⟨c0, c1, c2, c3, c4, c5, c6, c7, c8, c9, rfl⟩ : ∃ c0 c1 c2 c3 c4 c5 c6 c7 c8 c9, cs = [c0, c1, c2, c3, c4, c5, c6, c7, c8, c9] := by
  match cs, hl with
  | [c0, c1, c2, c3, c4, c5, c6, c7, c8, c9], _ => exact ⟨_, _, _, _, _, _, _, _, _, _, rfl⟩
 obtain ⟨z0, z1, z2, z3, z4, z5, z6, z7, z8, z9, rfl⟩ : ∃ z0 z1 z2 z3 z4 z5 z6 z7 z8 z9, xs = [z0, z1, z2, z3, z4, z5, z6, z7, z8, z9] := by
  match xs, hlen with
  | [c0, c1, c2, c3, c4, c5, c6, c7, c8, c9], _ => exact ⟨_, _, _, _, _, _, _, _, _, _, rfl⟩
 have hc_7 : Tryz.prog.cellsOf 49 = 1 := by kernel_rfl
 have hc_8 : Tryz.prog.cellsOf 109 = 1 := by kernel_rfl
 have hc_0 : Tryz.prog.cellsOf 3 = 1 := by kernel_rfl
 have e0 : DataW.trod enc Tryz.prog W 0 (fun _ => true) true fu 3 [c0] = some z0 := by simpa [hc_0] using hfs 0 _ rfl
 have e1 : DataW.trod enc Tryz.prog W 0 (fun _ => true) true fu 3 [c1] = some z1 := by simpa [hc_0] using hfs 1 _ rfl
 have e2 : DataW.trod enc Tryz.prog W 0 (fun _ => true) true fu 3 [c2] = some z2 := by simpa [hc_0] using hfs 2 _ rfl
 have e3 : DataW.trod enc Tryz.prog W 0 (fun _ => true) true fu 3 [c3] = some z3 := by simpa [hc_0] using hfs 3 _ rfl
 have e4 : DataW.trod enc Tryz.prog W 0 (fun _ => true) true fu 3 [c4] = some z4 := by simpa [hc_0] using hfs 4 _ rfl
 have e5 : DataW.trod enc Tryz.prog W 0 (fun _ => true) true fu 3 [c5] = some z5 := by simpa [hc_0] using hfs 5 _ rfl
 have e6 : DataW.trod enc Tryz.prog W 0 (fun _ => true) true fu 3 [c6] = some z6 := by simpa [hc_0] using hfs 6 _ rfl
 have e7 : DataW.trod enc Tryz.prog W 0 (fun _ => true) true fu 49 [c7] = some z7 := by simpa [hc_7] using hfs 7 _ rfl
 have e8 : DataW.trod enc Tryz.prog W 0 (fun _ => true) true fu 109 [c8] = some z8 := by simpa [hc_8] using hfs 8 _ rfl
 have e9 : DataW.trod enc Tryz.prog W 0 (fun _ => true) true fu 109 [c9] = some z9 := by simpa [hc_8] using hfs 9 _ rfl
 obtain ⟨i0, hi0, _, m0⟩ := DataW.trod_int Tryz.underlying3 e0
 obtain rfl : c0 = .int .i64 i0 := by simpa using hi0
 obtain ⟨i1, hi1, _, m1⟩ := DataW.trod_int Tryz.underlying3 e1
 obtain rfl : c1 = .int .i64 i1 := by simpa using hi1
 obtain ⟨i2, hi2, _, m2⟩ := DataW.trod_int Tryz.underlying3 e2
 obtain rfl : c2 = .int .i64 i2 := by simpa using hi2
 obtain ⟨i3, hi3, _, m3⟩ := DataW.trod_int Tryz.underlying3 e3
 obtain rfl : c3 = .int .i64 i3 := by simpa using hi3
 obtain ⟨i4, hi4, _, m4⟩ := DataW.trod_int Tryz.underlying3 e4
 obtain rfl : c4 = .int .i64 i4 := by simpa using hi4
 obtain ⟨i5, hi5, _, m5⟩ := DataW.trod_int Tryz.underlying3 e5
 obtain rfl : c5 = .int .i64 i5 := by simpa using hi5
 obtain ⟨i6, hi6, _, m6⟩ := DataW.trod_int Tryz.underlying3 e6
 obtain rfl : c6 = .int .i64 i6 := by simpa using hi6
 obtain ⟨l7, m7, h7⟩ := NiF.in_cell e7
 obtain ⟨l8, m8, h8⟩ := AeF.in_cell e8
 obtain ⟨l9, m9, h9⟩ := AeF.in_cell e9
 exact ⟨⟨i0, i1, i2, i3, i4, i5, i6, l7, l8, l9⟩, c7, c8, c9, rfl, ⟨rg_of m0, rg_of m1, rg_of m2, rg_of m3, rg_of m4, rg_of m5, rg_of m6, m7, m8, m9⟩, h7, h8, h9⟩
end Go.Proofs.YthppbcnejapbiaaGreatDoor.In

-- YthppbcnejapbiaaGreatDoorIF
/- A part. -/
namespace Go.Proofs.YthppbcnejapbiaaGreatDoor.IF
set_option maxHeartbeats 6400000
set_option maxRecDepth 100000
open Go.ChangeShapes Go.WideShapes Go.ChangeAt Go.RowKit Go.Deep
open Foot Bx
open Strs (ret_int grow_trans below_of_drew)
set_option linter.unusedVariables false
abbrev L := List In.L
def z0 : In.L := InoV.zero
def Cell (w : World) (b o : Nat) (n : In.L) (r0 r1 r2 : Value) : Prop := w.cell? ⟨b, o, none⟩ = some (.int .i64 n.kind) /\ w.cell? ⟨b, o + 1, none⟩ = some (.int .i64 n.mode) /\ w.cell? ⟨b, o + 2, none⟩ = some (.int .i64 n.uid) /\ w.cell? ⟨b, o + 3, none⟩ = some (.int .i64 n.gid) /\ w.cell? ⟨b, o + 4, none⟩ = some (.int .i64 n.links) /\ w.cell? ⟨b, o + 5, none⟩ = some (.int .i64 n.size) /\ w.cell? ⟨b, o + 6, none⟩ = some (.int .i64 n.tick) /\ w.cell? ⟨b, o + 7, none⟩ = some (r0) /\ w.cell? ⟨b, o + 8, none⟩ = some (r1) /\ w.cell? ⟨b, o + 9, none⟩ = some (r2)
def Parts (w : World) (n : In.L) (r0 r1 r2 : Value) : Prop := NiF.Holds w r0 n.blocks /\ AeF.Holds w r1 n.acl /\ AeF.Holds w r2 n.dflt
theorem parts_below {w w' : World} {n : In.L} {r0 r1 r2 : Value} (h : Parts w n r0 r1 r2) (hb : Below w.heap.size w w') : Parts w' n r0 r1 r2 := by
 obtain ⟨h0, h1, h2⟩ := h
 exact ⟨NiF.holds_below h0 hb, AeF.holds_below h1 hb, AeF.holds_below h2 hb⟩
theorem parts_holds {w : World} {n : In.L} {r0 r1 r2 : Value} (h : Parts w n r0 r1 r2) : In.Holds w (.agg #[.int .i64 n.kind, .int .i64 n.mode, .int .i64 n.uid, .int .i64 n.gid, .int .i64 n.links, .int .i64 n.size, .int .i64 n.tick, r0, r1, r2]) n := by
 obtain ⟨h0, h1, h2⟩ := h
 exact ⟨r0, r1, r2, rfl, h0, h1, h2⟩
def Holds (w : World) (v : Value) (l : L) : Prop := ∃ (a : Option Addr) (cap : Nat), v = .slice a l.length cap /\ l.length <= cap /\ ∀ i, i < l.length -> ∃ b o, a = some ⟨b, o, none⟩ /\ b < w.heap.size /\ ∃ r0 r1 r2 : Value, Cell w b (o + i * 10) (l.getD i z0) r0 r1 r2 /\ Parts w (l.getD i z0) r0 r1 r2
theorem Cell.below {w w' : World} {b o : Nat} {n : In.L} {r0 r1 r2 : Value} (h : Cell w b o n r0 r1 r2) (hlt : b < w.heap.size) (hb : Below w.heap.size w w') : Cell w' b o n r0 r1 r2 := by
 unfold Cell at h ⊢
 rw [hb.cell (p := ⟨b, o, none⟩) hlt, hb.cell (p := ⟨b, o + 1, none⟩) hlt, hb.cell (p := ⟨b, o + 2, none⟩) hlt, hb.cell (p := ⟨b, o + 3, none⟩) hlt, hb.cell (p := ⟨b, o + 4, none⟩) hlt, hb.cell (p := ⟨b, o + 5, none⟩) hlt, hb.cell (p := ⟨b, o + 6, none⟩) hlt, hb.cell (p := ⟨b, o + 7, none⟩) hlt, hb.cell (p := ⟨b, o + 8, none⟩) hlt, hb.cell (p := ⟨b, o + 9, none⟩) hlt]
 exact h
theorem holds_below {w w' : World} {v : Value} {l : L} (h : Holds w v l) (hb : Below w.heap.size w w') : Holds w' v l := by
 obtain ⟨a, c, rfl, hle, hc⟩ := h
 refine ⟨a, c, rfl, hle, fun i hi => ?_⟩
 obtain ⟨b, o, rfl, hlt, r0, r1, r2, hC, hP⟩ := hc i hi
 exact ⟨b, o, rfl, Nat.lt_of_lt_of_le hlt hb.size, r0, r1, r2, hC.below hlt hb, parts_below hP hb⟩
theorem form {w : World} {v : Value} {l : L} (h : Holds w v l) : ∃ a c, v = .slice a l.length c := by
 obtain ⟨a, c, rfl, _⟩ := h
 exact ⟨a, c, rfl⟩
def AtL (w : World) (a : Option Addr) (l : L) : Prop := ∀ i, i < l.length -> ∃ b o, a = some ⟨b, o, none⟩ /\ b < w.heap.size /\ ∃ r0 r1 r2 : Value, Cell w b (o + i * 10) (l.getD i z0) r0 r1 r2 /\ Parts w (l.getD i z0) r0 r1 r2
theorem atL {w : World} {v : Value} {l : L} (h : Holds w v l) : ∃ a cap, v = .slice a l.length cap /\ l.length <= cap /\ AtL w a l := h
theorem AtL.below {w w' : World} {a : Option Addr} {l : L} (h : AtL w a l) (hb : Below w.heap.size w w') : AtL w' a l := by
 intro i hi
 obtain ⟨b, o, rfl, hlt, r0, r1, r2, hC, hP⟩ := h i hi
 exact ⟨b, o, rfl, Nat.lt_of_lt_of_le hlt hb.size, r0, r1, r2, hC.below hlt hb, parts_below hP hb⟩
abbrev El := In.L × Value × List Nat
def vcells : Value -> List Value
 | .agg cs => cs.toList
 | v => [v]
def cells (es : List El) : List Value := es.flatMap fun e => vcells e.2.1
def ns (es : List El) : L := es.map (·.1)
def fps (es : List El) : List Nat := es.flatMap (·.2.2)
def Own (w : World) (base : Nat) (v : Value) (l : L) (S : List Nat) : Prop := ∃ es : List El, ns es = l /\ w.ownsRow base 89 10 v l.length (cells es) /\ S = fpR v ++ fps es /\ S.Nodup /\ ∀ e ∈ es, In.Own w base e.2.1 e.1 e.2.2
theorem ns_length (es : List El) : (ns es).length = es.length := by simp [ns]
theorem cells_app (es fs : List El) : cells (es ++ fs) = cells es ++ cells fs := by simp [cells]
theorem fps_app (es fs : List El) : fps (es ++ fs) = fps es ++ fps fs := by simp [fps]
theorem mem_fps {es : List El} {e : El} (h : e ∈ es) {x : Nat} (hx : x ∈ e.2.2) : x ∈ fps es := List.mem_flatMap.2 ⟨e, h, hx⟩
theorem vlen {w : World} {base : Nat} {v : Value} {n : In.L} {S : List Nat} (h : In.Own w base v n S) : (vcells v).length = 10 := by
 obtain ⟨r0, r1, r2, rfl, _⟩ := In.own_holds h
 rfl
theorem flat_len {α β : Type} (f : α -> List β) (k : Nat) : ∀ es : List α, (∀ e ∈ es, (f e).length = k) -> (es.flatMap f).length = es.length * k
 | [], _ => by simp
 | a :: r, h => by
  rw [List.flatMap_cons, List.length_append, h a (by simp), flat_len f k r (fun e he => h e (by simp [he])), List.length_cons, Nat.succ_mul]
  omega
theorem flat_at {α β : Type} (f : α -> List β) (k : Nat) : ∀ es : List α, (∀ e ∈ es, (f e).length = k) -> ∀ (i : Nat) (hi : i < es.length) (j : Nat), j < k -> (es.flatMap f)[i * k + j]? = (f es[i])[j]?
 | [], _, i, hi, _, _ => by simp at hi
 | a :: r, h, 0, _, j, hj => by
  rw [List.flatMap_cons, Nat.zero_mul, Nat.zero_add, List.getElem?_append_left (by rw [h a (by simp)]; exact hj)]
  rfl
 | a :: r, h, i + 1, hi, j, hj => by
  have hk := h a (by simp)
  rw [List.flatMap_cons, List.getElem?_append_right (by rw [hk, Nat.succ_mul]; omega), hk, show (i + 1) * k + j - k = i * k + j from by rw [Nat.succ_mul]; omega]
  exact flat_at f k r (fun e he => h e (by simp [he])) i (by simpa using hi) j hj
theorem cells_len {w : World} {base : Nat} {es : List El} (h : ∀ e ∈ es, In.Own w base e.2.1 e.1 e.2.2) : (cells es).length = es.length * 10 := flat_len _ 10 es fun e he => vlen (h e he)
theorem holds_row {w : World} {base : Nat} {v : Value} {es : List El} (hrow : w.ownsRow base 89 10 v (ns es).length (cells es)) (hel : ∀ e ∈ es, In.Own w base e.2.1 e.1 e.2.2) : Holds w v (ns es) := by
 have hl := ns_length es
 rcases hrow.2 with ⟨rfl, h0⟩ | ⟨g, cap, cur, rfl, hb, hg, hn', _, _, htake⟩
 ·have : es = [] := List.eq_nil_of_length_eq_zero (by omega)
  subst this
  exact ⟨none, 0, rfl, Nat.le_refl _, fun i hi => by simp [ns] at hi⟩
 ·refine ⟨some ⟨g, 0, none⟩, cap, rfl, hn', fun i hi => ?_⟩
  have hie : i < es.length := by omega
  have hm := hel es[i] (List.getElem_mem hie)
  have hx : (ns es).getD i z0 = es[i].1 := by
   rw [List.getD_eq_getElem?_getD, ns, List.getElem?_map, List.getElem?_eq_getElem hie]; rfl
  obtain ⟨r0, r1, r2, hv, h0, h1, h2⟩ := In.own_holds hm
  have hat : ∀ j, j < 10 -> w.cell? ⟨g, 0 + i * 10 + j, none⟩ = (vcells es[i].2.1)[j]? := fun j hj => by
   rw [Nat.zero_add, hrow.cellAt _ (by rw [hl]; have := Nat.mul_le_mul_right 10 (show i + 1 <= es.length by omega); rw [Nat.succ_mul] at this; omega)]
   exact flat_at (fun e : El => vcells e.2.1) 10 es (fun e he => vlen (hel e he)) i hie j hj
  rw [hv] at hat
  rw [hx]
  exact ⟨g, 0, rfl, (Array.getElem?_eq_some_iff.1 hg).1, r0, r1, r2, ⟨hat 0 (by omega), hat 1 (by omega), hat 2 (by omega), hat 3 (by omega), hat 4 (by omega), hat 5 (by omega), hat 6 (by omega), hat 7 (by omega), hat 8 (by omega), hat 9 (by omega)⟩, ⟨h0, h1, h2⟩⟩
section
variable {w w' : World} {base : Nat} {v : Value} {l : L} {S T : List Nat}
theorem own_holds (h : Own w base v l S) : Holds w v l := by
 obtain ⟨es, rfl, hrow, rfl, hnd, hel⟩ := h
 exact holds_row hrow hel
theorem own_chg (h : Own w base v l S) (hc : Chg w w' T) (ha : Apart S T) : Own w' base v l S := by
 obtain ⟨es, rfl, hrow, rfl, hnd, hel⟩ := h
 obtain ⟨h1, h2⟩ := apart_app.1 ha
 exact ⟨es, rfl, row_chg hrow hc h1, rfl, hnd, fun e he => In.own_chg (hel e he) hc fun x hx => h2 x (mem_fps he hx)⟩
theorem own_below (h : Own w base v l S) (hb : Below w.heap.size w w') : Own w' base v l S := own_chg h (Chg.of_below hb (Nat.le_refl _) []) (fun k _ hh => by cases hh)
theorem own_mono {base' : Nat} (h : Own w base v l S) (hb : base' <= base) : Own w base' v l S := by
 obtain ⟨es, rfl, hrow, rfl, hnd, hel⟩ := h
 exact ⟨es, rfl, row_mono hrow hb, rfl, hnd, fun e he => In.own_mono (hel e he) hb⟩
theorem fps_lies {es : List El} (hel : ∀ e ∈ es, In.Own w base e.2.1 e.1 e.2.2) : Lies (fps es) base w.heap.size := fun x hx => by
 obtain ⟨e, he, hx⟩ := List.mem_flatMap.1 hx
 exact In.own_lies (hel e he) x hx
theorem own_lies (h : Own w base v l S) : Lies S base w.heap.size := by
 obtain ⟨es, rfl, hrow, rfl, hnd, hel⟩ := h
 exact (row_lies hrow).app (fps_lies hel)
theorem own_nodup (h : Own w base v l S) : S.Nodup := by
 obtain ⟨es, rfl, hrow, rfl, hnd, hel⟩ := h
 exact hnd
theorem own_set (h : Own w base v l S) {a : Addr} (ha : a.block < base) (u : Value) : Own (w.setCell a u) base v l S := by
 obtain ⟨es, rfl, hrow, rfl, hnd, hel⟩ := h
 exact ⟨es, rfl, ownsRow_setCell_below hrow ha u, rfl, hnd, fun e he => In.own_set (hel e he) ha u⟩
theorem own_form (h : Own w base v l S) : ∃ a c, v = .slice a l.length c := form (own_holds h)
end
def csum (l : L) : Nat := (l.map In.cost).sum
def cost (l : L) : Nat := l.length + csum l
def Lim (l : L) : Prop := l.length <= maxLen /\ ∀ x ∈ l, In.Lim x
theorem csum_snoc (l : L) (i : Nat) (h : i < l.length) : csum (l.take (i + 1)) = csum (l.take i) + In.cost (l.getD i z0) := by
 unfold csum
 rw [List.take_succ_eq_append_getElem h, List.map_append, List.sum_append]
 simp [List.getD, List.getElem?_eq_getElem h]
theorem csum_le (l : L) (i : Nat) : csum (l.take i) <= csum l := by
 have : csum l = csum (l.take i) + csum (l.drop i) := by
  unfold csum
  rw [<- List.sum_append, <- List.map_append, List.take_append_drop]
 omega
theorem mem_getD {l : L} {i : Nat} (h : i < l.length) : l.getD i z0 ∈ l := by
 rw [List.getD_eq_getElem?_getD, List.getElem?_eq_getElem h]
 exact List.getElem_mem h
theorem cost_mem {l : L} {x : In.L} (h : x ∈ l) : In.cost x <= csum l := by
 unfold csum
 induction l with
 | nil => cases h
 | cons a r ih =>
  rw [List.map_cons, List.sum_cons]
  rcases List.mem_cons.1 h with rfl | h
  ·omega
  ·have := ih h; omega
theorem cost_at {l : L} {i : Nat} (h : i < l.length) : In.cost (l.getD i z0) <= csum l := cost_mem (mem_getD h)
theorem sz_any (w : World) (v : Value) (l : L) (left : Nat) (hleft : left <= 1073741824) (hl : Lim l) (h : Holds w v l) :
  Calls Tryz.prog 42 #[v, .int .i64 left] w fun e w' => e = .returned (.int .i64 (costOf (cost l) left)) /\ Below w.heap.size w w' := by
 obtain ⟨a, cap, rfl, hle, hc⟩ := atL h
 have hlen := hl.1
 unfold maxLen at hlen
 by_cases hlt0 : left < l.length
 ·have HR := Lib.hid (show costOf (cost l) left = -1 from cost_neg (by unfold cost; omega))
  clear hc hl h
  generalize l.length = M at hlt0 hlen hle ⊢
  go_enter Tryz.func42, Tryz.ntmps42
  go_wp2
  go_ret
  exact ⟨ret_int HR.out.symm, Below.refl _ _⟩
 ·have HC := Lib.hid hc
  have HLM := Lib.hid hl.2
  have HCS := Lib.hid (csum_snoc l)
  have HCL := Lib.hid (csum_le l)
  have HCD := Lib.hid (show cost l = l.length + csum l from rfl)
  obtain ⟨M, hM⟩ : ∃ M, M = l.length := ⟨_, rfl⟩
  rw [<- hM] at hlt0 hlen hle HCD ⊢
  have HM := Lib.hid hM
  clear hM hc hl h
  go_enter Tryz.func42, Tryz.ntmps42
  go_wp2
  go_loopw [1, 5] (fun lv iv wr => ∃ i r : Nat, i <= M /\ iv = .int .i64 i /\ lv = .int .i64 r /\ r + M + csum (l.take i) = left /\ Below w.heap.size w wr) (fun _ iv _ => M - (intOf iv).toNat)
  case atStart => exact ⟨0, left - M, Nat.zero_le _, rfl, by go_num, by simp [csum]; omega, Below.refl _ _⟩
  case round =>
   obtain ⟨i, r, hi, rfl, rfl, hr, hbel⟩ := hrel
   have HQ := Lib.hid hr
   have HB := Lib.hid hbel
   have hrl : r <= 1073741824 := by omega
   clear hr hbel
   by_cases hlt : i < M
   ·have hlx : i < l.length := by rw [<- HM.out]; exact hlt
    obtain ⟨b, o, rfl, hb, r0, r1, r2, hC, hP⟩ := HC.out i hlx
    have HP := Lib.hid (parts_holds (parts_below hP HB.out))
    obtain ⟨h0, h1, h2⟩ := hP
    obtain ⟨a0, d0, rfl⟩ := NiF.form h0
    obtain ⟨a1, d1, rfl⟩ := AeF.form h1
    obtain ⟨a2, d2, rfl⟩ := AeF.form h2
    obtain ⟨g0, g1, g2, g3, g4, g5, g6, g7, g8, g9⟩ := hC.below hb HB.out
    clear hC h0 h1 h2
    have HLX := Lib.hid (HLM.out _ (mem_getD hlx))
    have ht := Lib.hid (HCS.out i hlx)
    have HTS := Lib.hid (HCL.out (i + 1))
    generalize l.getD i z0 = x at g0 g1 g2 g3 g4 g5 g6 g7 g8 g9 HP HLX ht
    by_cases hq : In.cost x <= r
    ·obtain ⟨s, hs⟩ : ∃ s, s = r - In.cost x := ⟨_, rfl⟩
     have HZ := Lib.hid (show costOf (In.cost x) r = (s : Int) by rw [hs]; exact cost_pos hq)
     have HN := Lib.hid (show s + M + csum (l.take (i + 1)) = left by have := ht.out; have := HQ.out; omega)
     have hsl : s <= 1073741824 := by omega
     clear hs hq
     go_wp2_with fail
     refine (In.sz_any _ _ x r (by omega) HLX.out HP.out).mono ?_
     rintro e w1 ⟨rfl, hb1⟩
     rw [HZ.out]
     replace HB := Lib.hid (HB.out.trans (hb1.mono HB.out.size))
     clear hb1 g0 g1 g2 g3 g4 g5 g6 g7 g8 g9
     go_wp2
     go_roundw
     case rel => exact ⟨i + 1, s, by omega, by go_num, rfl, HN.out, HB.out⟩
     case measure => simp [intOf]; omega
    ·have HZ := Lib.hid (show costOf (In.cost x) r = -1 from cost_neg hq)
     have HN := Lib.hid (show costOf (cost l) left = -1 from cost_neg (by rw [HCD.out]; have := ht.out; have := HTS.out; have := HQ.out; omega))
     clear hq
     go_wp2_with fail
     refine (In.sz_any _ _ x r (by omega) HLX.out HP.out).mono ?_
     rintro e w1 ⟨rfl, hb1⟩
     rw [HZ.out]
     replace HB := Lib.hid (HB.out.trans (hb1.mono HB.out.size))
     clear hb1 g0 g1 g2 g3 g4 g5 g6 g7 g8 g9
     go_wp2
     go_ret
     exact ⟨ret_int HN.out.symm, HB.out⟩
   ·have HN := Lib.hid (show costOf (cost l) left = r by
     have h1 := HQ.out
     rw [List.take_of_length_le (by rw [<- HM.out]; omega)] at h1
     rw [cost_pos (by rw [HCD.out]; omega), HCD.out]
     omega)
    go_wp2
    go_ret
    exact ⟨ret_int HN.out.symm, HB.out⟩
def setSeq (l : List Value) (o : Nat) : List Value -> List Value
 | [] => l
 | u :: r => setSeq (l.set o u) (o + 1) r
theorem setSeq_take (us : List Value) : ∀ (l : List Value) (o : Nat), o + us.length <= l.length -> (setSeq l o us).take (o + us.length) = l.take o ++ us := by
 induction us with
 | nil => intro l o _; simp [setSeq]
 | cons u r ih =>
  intro l o h
  rw [List.length_cons] at h
  rw [setSeq, List.length_cons, show o + (r.length + 1) = (o + 1) + r.length from by omega, ih _ _ (by rw [List.length_set]; omega), List.take_succ_eq_append_getElem (by rw [List.length_set]; omega), List.take_set_of_le (Nat.le_refl _)]
  simp
theorem setSeq_drop (us : List Value) : ∀ (l : List Value) (o : Nat), (setSeq l o us).drop (o + us.length) = l.drop (o + us.length) := by
 induction us with
 | nil => intro l o; rfl
 | cons u r ih =>
  intro l o
  rw [setSeq, List.length_cons, show o + (r.length + 1) = (o + 1) + r.length from by omega, ih, List.drop_set_of_lt (by omega)]
theorem set_mid (A B C us : List Value) (h : us.length = B.length) : setSeq (A ++ B ++ C) A.length us = A ++ us ++ C := by
 have h1 := setSeq_take us (A ++ B ++ C) A.length (by simp only [List.length_append]; omega)
 have h2 := setSeq_drop us (A ++ B ++ C) A.length
 rw [<- List.take_append_drop (A.length + us.length) (setSeq (A ++ B ++ C) A.length us), h1, h2, List.append_assoc A B C, List.take_left' rfl, <- List.append_assoc A B C, List.drop_left' (by rw [List.length_append]; omega)]
theorem take_set (l : List Value) (i : Nat) (u0 u1 u2 u3 u4 u5 u6 u7 u8 u9 : Value) (h : i * 10 + 10 <= l.length) : (((((((((((l.set (i * 10) (u0)).set (i * 10 + 1) (u1)).set (i * 10 + 2) (u2)).set (i * 10 + 3) (u3)).set (i * 10 + 4) (u4)).set (i * 10 + 5) (u5)).set (i * 10 + 6) (u6)).set (i * 10 + 7) (u7)).set (i * 10 + 8) (u8)).set (i * 10 + 9) (u9))).take ((i + 1) * 10) = l.take (i * 10) ++ [u0, u1, u2, u3, u4, u5, u6, u7, u8, u9] := by
 rw [show (i + 1) * 10 = i * 10 + 10 from by omega]
 exact setSeq_take [u0, u1, u2, u3, u4, u5, u6, u7, u8, u9] l (i * 10) h
theorem info : (Tryz.prog.info? 89).map (fun i => (i.zero, i.size, i.bytes)) = some (some (.agg #[.int .i64 0, .int .i64 0, .int .i64 0, .int .i64 0, .int .i64 0, .int .i64 0, .int .i64 0, .slice none 0 0, .slice none 0 0, .slice none 0 0]), 10, 128) := by kernel_rfl
theorem to_any (w : World) (v : Value) (l : L) (hc : cost l <= 1073741824) (h : Holds w v l) :
  Calls Tryz.prog 47 #[v] w fun e w' => ∃ v' S, e = .returned v' /\ Own w' w.heap.size v' l S /\ Below w.heap.size w w' := by
 obtain ⟨i0, hi, hz0, hz1, hz2⟩ := info_parts info
 obtain ⟨a, cap, rfl, hle, hat⟩ := atL h
 have HC := Lib.hid hat
 have hlen : l.length <= 1073741824 := Nat.le_trans (Nat.le_add_right _ _) hc
 have HCA := Lib.hid (fun i (hi : i < l.length) => Nat.le_trans (cost_at hi) (Nat.le_trans (Nat.le_add_left _ l.length) hc))
 obtain ⟨M, hM⟩ : ∃ M, M = l.length := ⟨_, rfl⟩
 rw [<- hM] at hlen hle ⊢
 have HM := Lib.hid hM
 clear hM hat h hc
 have hro : i0.bytes * M <= 281474976710656 := by rw [hz2]; omega
 have HRO := Lib.hid hro
 have HBY := Lib.hid hz2
 clear hro hz2
 go_enter Tryz.func47, Tryz.ntmps47
 go_wp2_with (at_make; refine wpList_make_full _ rfl _ _ 31 rfl w.heap.size 89 i0 (.agg #[.int .i64 0, .int .i64 0, .int .i64 0, .int .i64 0, .int .i64 0, .int .i64 0, .int .i64 0, .slice none 0 0, .slice none 0 0, .slice none 0 0]) 10 Tryz.underlying31 hi hz0 hz1 .i64 .i64 _ _ M rfl rfl rfl rfl ?c1 ?c2 ?c3 ?_)
 case c1 => exact HRO.out
 case c2 => unfold maxLen; omega
 case c3 => exact Nat.le_refl _
 intro w1 hown1 hg1
 have HO1 := Lib.hid hown1
 have HB1 := Lib.hid (show Below w.heap.size w w1 from (Below.refl _ _).grown hg1 (Nat.le_refl _) (fun k hk => by cases hk))
 have hs1 : w.heap.size + 1 <= w1.heap.size := by
  rcases hown1.2 with ⟨hh, _⟩ | ⟨g, c', cur, hh, _, hg, _⟩
  ·cases hh
  ·simp only [Value.slice.injEq, Option.some.injEq, Addr.mk.injEq, and_true, true_and] at hh
   obtain ⟨rfl, _⟩ := hh
   exact (Array.getElem?_eq_some_iff.1 hg).1
 clear hown1 hg1
 go_wp2
 go_loopw [4] (fun iv wr => ∃ (i : Nat) (es : List El) (lst : List Value), i <= M /\ iv = .int .i64 i /\ es.length = i /\ ns es = l.take i /\ wr.ownsRow w.heap.size 89 10 (.slice (some ⟨w.heap.size, 0, none⟩) M M) M lst /\ lst.take (i * 10) = cells es /\ (∀ e ∈ es, In.Own wr (w.heap.size + 1) e.2.1 e.1 e.2.2) /\ (fps es).Nodup /\ w.heap.size + 1 <= wr.heap.size /\ Below w.heap.size w wr) (fun iv _ => M - (intOf iv).toNat)
 case atStart => exact ⟨0, [], _, Nat.zero_le _, rfl, rfl, by simp [ns], HO1.out, by simp [cells], (fun e he => by cases he), by simp [fps], hs1, HB1.out⟩
 case round =>
  obtain ⟨i, es, lst, hi, rfl, hel, hns, hown, htake, hes, hnd, hsz, hbel⟩ := hrel
  have HEL := Lib.hid hel
  have HNS := Lib.hid hns
  have HO := Lib.hid hown
  have HT := Lib.hid htake
  have HES := Lib.hid hes
  have HND := Lib.hid hnd
  have HB := Lib.hid hbel
  clear hel hns hown htake hes hnd hbel HO1 HB1 hs1
  by_cases hlt : i < M
  ·have hlx : i < l.length := by rw [<- HM.out]; exact hlt
   have HTK := Lib.hid (show l.take (i + 1) = l.take i ++ [l.getD i z0] from by rw [List.take_succ_eq_append_getElem hlx]; simp [List.getD, List.getElem?_eq_getElem hlx])
   have hll : i * 10 + 10 <= lst.length := by have := HO.out.1; have := Nat.mul_le_mul_right 10 (show i + 1 <= M by omega); rw [Nat.succ_mul] at this; omega
   obtain ⟨b, o, rfl, hb, r0, r1, r2, hC, hP⟩ := HC.out i hlx
   have HP := Lib.hid (parts_holds (parts_below hP HB.out))
   obtain ⟨h0, h1, h2⟩ := hP
   obtain ⟨a0, d0, rfl⟩ := NiF.form h0
   obtain ⟨a1, d1, rfl⟩ := AeF.form h1
   obtain ⟨a2, d2, rfl⟩ := AeF.form h2
   obtain ⟨g0, g1, g2, g3, g4, g5, g6, g7, g8, g9⟩ := hC.below hb HB.out
   clear hC h0 h1 h2
   have hcx := HCA.out i hlx
   generalize l.getD i z0 = x at g0 g1 g2 g3 g4 g5 g6 g7 g8 g9 HP hcx HTK
   go_wp2_with fail
   refine (In.to_any _ _ x (by omega) HP.out).mono ?_
   rintro e w2 ⟨y, Sy, rfl, hoy, hb2⟩
   have hly := In.own_lies hoy
   have hndy := In.own_nodup hoy
   have hs2 := hb2.size
   have HB2 := Lib.hid (HB.out.trans (hb2.mono HB.out.size))
   have hown := Strs.own_below HO.out hb2
   obtain ⟨r0, r1, r2, S0, S1, S2, rfl, hSy, hndS, ho0, ho1, ho2⟩ := hoy
   obtain ⟨b0, e0, rfl⟩ := NiF.own_form ho0
   obtain ⟨b1, e1, rfl⟩ := AeF.own_form ho1
   obtain ⟨b2, e2, rfl⟩ := AeF.own_form ho2
   have hoy2 : In.Own w2 wr.heap.size (.agg #[.int .i64 x.kind, .int .i64 x.mode, .int .i64 x.uid, .int .i64 x.gid, .int .i64 x.links, .int .i64 x.size, .int .i64 x.tick, .slice b0 x.blocks.length e0, .slice b1 x.acl.length e1, .slice b2 x.dflt.length e2]) x Sy := ⟨_, _, _, _, _, _, rfl, hSy, hndS, ho0, ho1, ho2⟩
   have hc0 := hown.cellAt (i * 10) (by have := HO.out.1; omega)
   rw [List.getElem?_eq_getElem (show i * 10 < lst.length by omega)] at hc0
   have hf0 := hown.frozenAt (i * 10)
   have hc1 := hown.cellAt (i * 10 + 1) (by have := HO.out.1; omega)
   rw [List.getElem?_eq_getElem (show i * 10 + 1 < lst.length by omega)] at hc1
   have hf1 := hown.frozenAt (i * 10 + 1)
   have hc2 := hown.cellAt (i * 10 + 2) (by have := HO.out.1; omega)
   rw [List.getElem?_eq_getElem (show i * 10 + 2 < lst.length by omega)] at hc2
   have hf2 := hown.frozenAt (i * 10 + 2)
   have hc3 := hown.cellAt (i * 10 + 3) (by have := HO.out.1; omega)
   rw [List.getElem?_eq_getElem (show i * 10 + 3 < lst.length by omega)] at hc3
   have hf3 := hown.frozenAt (i * 10 + 3)
   have hc4 := hown.cellAt (i * 10 + 4) (by have := HO.out.1; omega)
   rw [List.getElem?_eq_getElem (show i * 10 + 4 < lst.length by omega)] at hc4
   have hf4 := hown.frozenAt (i * 10 + 4)
   have hc5 := hown.cellAt (i * 10 + 5) (by have := HO.out.1; omega)
   rw [List.getElem?_eq_getElem (show i * 10 + 5 < lst.length by omega)] at hc5
   have hf5 := hown.frozenAt (i * 10 + 5)
   have hc6 := hown.cellAt (i * 10 + 6) (by have := HO.out.1; omega)
   rw [List.getElem?_eq_getElem (show i * 10 + 6 < lst.length by omega)] at hc6
   have hf6 := hown.frozenAt (i * 10 + 6)
   have hc7 := hown.cellAt (i * 10 + 7) (by have := HO.out.1; omega)
   rw [List.getElem?_eq_getElem (show i * 10 + 7 < lst.length by omega)] at hc7
   have hf7 := hown.frozenAt (i * 10 + 7)
   have hc8 := hown.cellAt (i * 10 + 8) (by have := HO.out.1; omega)
   rw [List.getElem?_eq_getElem (show i * 10 + 8 < lst.length by omega)] at hc8
   have hf8 := hown.frozenAt (i * 10 + 8)
   have hc9 := hown.cellAt (i * 10 + 9) (by have := HO.out.1; omega)
   rw [List.getElem?_eq_getElem (show i * 10 + 9 < lst.length by omega)] at hc9
   have hf9 := hown.frozenAt (i * 10 + 9)
   have hst := ((((((((((hown.stored (i * 10) (.int .i64 x.kind)).1.stored (i * 10 + 1) (.int .i64 x.mode)).1.stored (i * 10 + 2) (.int .i64 x.uid)).1.stored (i * 10 + 3) (.int .i64 x.gid)).1.stored (i * 10 + 4) (.int .i64 x.links)).1.stored (i * 10 + 5) (.int .i64 x.size)).1.stored (i * 10 + 6) (.int .i64 x.tick)).1.stored (i * 10 + 7) (.slice b0 x.blocks.length e0)).1.stored (i * 10 + 8) (.slice b1 x.acl.length e1)).1.stored (i * 10 + 9) (.slice b2 x.dflt.length e2))
   have hts := take_set lst i (.int .i64 x.kind) (.int .i64 x.mode) (.int .i64 x.uid) (.int .i64 x.gid) (.int .i64 x.links) (.int .i64 x.size) (.int .i64 x.tick) (.slice b0 x.blocks.length e0) (.slice b1 x.acl.length e1) (.slice b2 x.dflt.length e2) hll
   rw [HT.out] at hts
   have HST := Lib.hid hst.1
   have HBF := Lib.hid (show Below w.heap.size w ((((((((((w2.setCell ⟨w.heap.size, i * 10, none⟩ (.int .i64 x.kind)).setCell ⟨w.heap.size, i * 10 + 1, none⟩ (.int .i64 x.mode)).setCell ⟨w.heap.size, i * 10 + 2, none⟩ (.int .i64 x.uid)).setCell ⟨w.heap.size, i * 10 + 3, none⟩ (.int .i64 x.gid)).setCell ⟨w.heap.size, i * 10 + 4, none⟩ (.int .i64 x.links)).setCell ⟨w.heap.size, i * 10 + 5, none⟩ (.int .i64 x.size)).setCell ⟨w.heap.size, i * 10 + 6, none⟩ (.int .i64 x.tick)).setCell ⟨w.heap.size, i * 10 + 7, none⟩ (.slice b0 x.blocks.length e0)).setCell ⟨w.heap.size, i * 10 + 8, none⟩ (.slice b1 x.acl.length e1)).setCell ⟨w.heap.size, i * 10 + 9, none⟩ (.slice b2 x.dflt.length e2)) from ((((((((((HB2.out.setCell (Nat.le_refl _) _).setCell (Nat.le_refl _) _).setCell (Nat.le_refl _) _).setCell (Nat.le_refl _) _).setCell (Nat.le_refl _) _).setCell (Nat.le_refl _) _).setCell (Nat.le_refl _) _).setCell (Nat.le_refl _) _).setCell (Nat.le_refl _) _).setCell (Nat.le_refl _) _))
   have HEF := Lib.hid (show ∀ e ∈ es ++ [((x, .agg #[.int .i64 x.kind, .int .i64 x.mode, .int .i64 x.uid, .int .i64 x.gid, .int .i64 x.links, .int .i64 x.size, .int .i64 x.tick, .slice b0 x.blocks.length e0, .slice b1 x.acl.length e1, .slice b2 x.dflt.length e2], Sy) : El)], In.Own ((((((((((w2.setCell ⟨w.heap.size, i * 10, none⟩ (.int .i64 x.kind)).setCell ⟨w.heap.size, i * 10 + 1, none⟩ (.int .i64 x.mode)).setCell ⟨w.heap.size, i * 10 + 2, none⟩ (.int .i64 x.uid)).setCell ⟨w.heap.size, i * 10 + 3, none⟩ (.int .i64 x.gid)).setCell ⟨w.heap.size, i * 10 + 4, none⟩ (.int .i64 x.links)).setCell ⟨w.heap.size, i * 10 + 5, none⟩ (.int .i64 x.size)).setCell ⟨w.heap.size, i * 10 + 6, none⟩ (.int .i64 x.tick)).setCell ⟨w.heap.size, i * 10 + 7, none⟩ (.slice b0 x.blocks.length e0)).setCell ⟨w.heap.size, i * 10 + 8, none⟩ (.slice b1 x.acl.length e1)).setCell ⟨w.heap.size, i * 10 + 9, none⟩ (.slice b2 x.dflt.length e2)) (w.heap.size + 1) e.2.1 e.1 e.2.2 from fun e he => by
    rcases List.mem_append.1 he with he | he
    ·have := In.own_below (HES.out e he) hb2
     exact (In.own_set (In.own_set (In.own_set (In.own_set (In.own_set (In.own_set (In.own_set (In.own_set (In.own_set (In.own_set this (a := ⟨w.heap.size, i * 10, none⟩) (by first | (simp; done) | (simp; omega)) (.int .i64 x.kind)) (a := ⟨w.heap.size, i * 10 + 1, none⟩) (by first | (simp; done) | (simp; omega)) (.int .i64 x.mode)) (a := ⟨w.heap.size, i * 10 + 2, none⟩) (by first | (simp; done) | (simp; omega)) (.int .i64 x.uid)) (a := ⟨w.heap.size, i * 10 + 3, none⟩) (by first | (simp; done) | (simp; omega)) (.int .i64 x.gid)) (a := ⟨w.heap.size, i * 10 + 4, none⟩) (by first | (simp; done) | (simp; omega)) (.int .i64 x.links)) (a := ⟨w.heap.size, i * 10 + 5, none⟩) (by first | (simp; done) | (simp; omega)) (.int .i64 x.size)) (a := ⟨w.heap.size, i * 10 + 6, none⟩) (by first | (simp; done) | (simp; omega)) (.int .i64 x.tick)) (a := ⟨w.heap.size, i * 10 + 7, none⟩) (by first | (simp; done) | (simp; omega)) (.slice b0 x.blocks.length e0)) (a := ⟨w.heap.size, i * 10 + 8, none⟩) (by first | (simp; done) | (simp; omega)) (.slice b1 x.acl.length e1)) (a := ⟨w.heap.size, i * 10 + 9, none⟩) (by first | (simp; done) | (simp; omega)) (.slice b2 x.dflt.length e2))
    ·rw [List.mem_singleton] at he
     subst he
     exact In.own_mono ((In.own_set (In.own_set (In.own_set (In.own_set (In.own_set (In.own_set (In.own_set (In.own_set (In.own_set (In.own_set hoy2 (a := ⟨w.heap.size, i * 10, none⟩) (by first | (simp; done) | (simp; omega)) (.int .i64 x.kind)) (a := ⟨w.heap.size, i * 10 + 1, none⟩) (by first | (simp; done) | (simp; omega)) (.int .i64 x.mode)) (a := ⟨w.heap.size, i * 10 + 2, none⟩) (by first | (simp; done) | (simp; omega)) (.int .i64 x.uid)) (a := ⟨w.heap.size, i * 10 + 3, none⟩) (by first | (simp; done) | (simp; omega)) (.int .i64 x.gid)) (a := ⟨w.heap.size, i * 10 + 4, none⟩) (by first | (simp; done) | (simp; omega)) (.int .i64 x.links)) (a := ⟨w.heap.size, i * 10 + 5, none⟩) (by first | (simp; done) | (simp; omega)) (.int .i64 x.size)) (a := ⟨w.heap.size, i * 10 + 6, none⟩) (by first | (simp; done) | (simp; omega)) (.int .i64 x.tick)) (a := ⟨w.heap.size, i * 10 + 7, none⟩) (by first | (simp; done) | (simp; omega)) (.slice b0 x.blocks.length e0)) (a := ⟨w.heap.size, i * 10 + 8, none⟩) (by first | (simp; done) | (simp; omega)) (.slice b1 x.acl.length e1)) (a := ⟨w.heap.size, i * 10 + 9, none⟩) (by first | (simp; done) | (simp; omega)) (.slice b2 x.dflt.length e2))) hsz)
   have HTF := Lib.hid (show (((((((((((lst.set (i * 10) (.int .i64 x.kind)).set (i * 10 + 1) (.int .i64 x.mode)).set (i * 10 + 2) (.int .i64 x.uid)).set (i * 10 + 3) (.int .i64 x.gid)).set (i * 10 + 4) (.int .i64 x.links)).set (i * 10 + 5) (.int .i64 x.size)).set (i * 10 + 6) (.int .i64 x.tick)).set (i * 10 + 7) (.slice b0 x.blocks.length e0)).set (i * 10 + 8) (.slice b1 x.acl.length e1)).set (i * 10 + 9) (.slice b2 x.dflt.length e2))).take ((i + 1) * 10) = cells (es ++ [((x, .agg #[.int .i64 x.kind, .int .i64 x.mode, .int .i64 x.uid, .int .i64 x.gid, .int .i64 x.links, .int .i64 x.size, .int .i64 x.tick, .slice b0 x.blocks.length e0, .slice b1 x.acl.length e1, .slice b2 x.dflt.length e2], Sy) : El)]) from hts.trans (by rw [cells_app]; rfl))
   have HNF := Lib.hid (show ns (es ++ [((x, .agg #[.int .i64 x.kind, .int .i64 x.mode, .int .i64 x.uid, .int .i64 x.gid, .int .i64 x.links, .int .i64 x.size, .int .i64 x.tick, .slice b0 x.blocks.length e0, .slice b1 x.acl.length e1, .slice b2 x.dflt.length e2], Sy) : El)]) = l.take (i + 1) from by rw [HTK.out, <- HNS.out]; simp [ns])
   have HDF := Lib.hid (show (fps (es ++ [((x, .agg #[.int .i64 x.kind, .int .i64 x.mode, .int .i64 x.uid, .int .i64 x.gid, .int .i64 x.links, .int .i64 x.size, .int .i64 x.tick, .slice b0 x.blocks.length e0, .slice b1 x.acl.length e1, .slice b2 x.dflt.length e2], Sy) : El)])).Nodup from by
    rw [fps_app]
    refine nodup_app HND.out (by simpa [fps] using hndy) ?_
    have h1 := fps_lies HES.out
    intro z hz hz2
    have h2 : z ∈ Sy := by simpa [fps] using hz2
    have := h1 z hz
    have := hly z h2
    omega)
   have hsF : w.heap.size + 1 <= w2.heap.size := by omega
   clear hst hts hown g0 g1 g2 g3 g4 g5 g6 g7 g8 g9 hb2 hoy2 ho0 ho1 ho2 hly hndy hSy hndS
   generalize lst[i * 10] = y0 at hc0
   generalize lst[i * 10 + 1] = y1 at hc1
   generalize lst[i * 10 + 2] = y2 at hc2
   generalize lst[i * 10 + 3] = y3 at hc3
   generalize lst[i * 10 + 4] = y4 at hc4
   generalize lst[i * 10 + 5] = y5 at hc5
   generalize lst[i * 10 + 6] = y6 at hc6
   generalize lst[i * 10 + 7] = y7 at hc7
   generalize lst[i * 10 + 8] = y8 at hc8
   generalize lst[i * 10 + 9] = y9 at hc9
   go_wp2
   go_roundw
   case rel => exact ⟨i + 1, _, _, by omega, by go_num, by simp [HEL.out], HNF.out, HST.out, HTF.out, HEF.out, HDF.out, by simp; omega, HBF.out⟩
   case measure => simp [intOf]; omega
  ·obtain rfl : i = M := by omega
   go_wp2
   go_ret
   have hnl : ns es = l := by rw [HNS.out, List.take_of_length_le (by rw [<- HM.out]; exact Nat.le_refl _)]
   have hcl : lst = cells es := by rw [<- HT.out, List.take_of_length_le (by rw [HO.out.1]; exact Nat.le_refl _)]
   refine ⟨_, _, rfl, ⟨es, hnl, ?_, rfl, ?_, fun e he => In.own_mono (HES.out e he) (by omega)⟩, HB.out⟩
   ·rw [<- HM.out, <- hcl]; exact HO.out
   ·refine nodup_app (fpR_nodup _) HND.out fun x hx hx2 => ?_
    have h1 := fps_lies HES.out x hx2
    simp [fpR, Value.ownBlock] at hx
    omega
theorem eq_any (w : World) (va vb : Value) (l : L) (hc : cost l <= 1073741824) (h : Holds w va l) (h' : Holds w vb l) :
  Calls Tryz.prog 52 #[va, vb] w fun e w' => e = .returned (.bool true) /\ Below w.heap.size w w' := by
 obtain ⟨a1, c1, rfl, hle1, hat1⟩ := atL h
 obtain ⟨a2, c2, rfl, hle2, hat2⟩ := atL h'
 have HC1 := Lib.hid hat1
 have HC2 := Lib.hid hat2
 have hlen : l.length <= 1073741824 := Nat.le_trans (Nat.le_add_right _ _) hc
 have HCA := Lib.hid (fun i (hi : i < l.length) => Nat.le_trans (cost_at hi) (Nat.le_trans (Nat.le_add_left _ l.length) hc))
 obtain ⟨M, hM⟩ : ∃ M, M = l.length := ⟨_, rfl⟩
 rw [<- hM] at hlen hle1 hle2 ⊢
 have HM := Lib.hid hM
 clear hM hat1 hat2 h h' hc
 go_enter Tryz.func52, Tryz.ntmps52
 go_wp2
 go_loopw [5] (fun iv wr => ∃ i : Nat, i <= M /\ iv = .int .i64 i /\ Below w.heap.size w wr) (fun iv _ => M - (intOf iv).toNat)
 case atStart => exact ⟨0, Nat.zero_le _, rfl, Below.refl _ _⟩
 case round =>
  obtain ⟨i, hi, rfl, hbel⟩ := hrel
  have HB := Lib.hid hbel
  have hsz := hbel.size
  clear hbel
  by_cases hlt : i < M
  ·have hlx : i < l.length := by rw [<- HM.out]; exact hlt
   have hcx := HCA.out i hlx
   obtain ⟨b1, o1, rfl, hb1, r0, r1, r2, hC, hP⟩ := HC1.out i hlx
   have HP := Lib.hid (parts_holds (parts_below hP HB.out))
   obtain ⟨h0, h1, h2⟩ := hP
   obtain ⟨pa0, pd0, rfl⟩ := NiF.form h0
   obtain ⟨pa1, pd1, rfl⟩ := AeF.form h1
   obtain ⟨pa2, pd2, rfl⟩ := AeF.form h2
   obtain ⟨g0, g1, g2, g3, g4, g5, g6, g7, g8, g9⟩ := hC.below hb1 HB.out
   clear hC h0 h1 h2
   obtain ⟨b2, o2, rfl, hb2, r0, r1, r2, hC, hP⟩ := HC2.out i hlx
   have HQ := Lib.hid (parts_holds (parts_below hP HB.out))
   obtain ⟨h0, h1, h2⟩ := hP
   obtain ⟨qa0, qd0, rfl⟩ := NiF.form h0
   obtain ⟨qa1, qd1, rfl⟩ := AeF.form h1
   obtain ⟨qa2, qd2, rfl⟩ := AeF.form h2
   obtain ⟨k0, k1, k2, k3, k4, k5, k6, k7, k8, k9⟩ := hC.below hb2 HB.out
   clear hC h0 h1 h2
   generalize l.getD i z0 = x at g0 k0 g1 k1 g2 k2 g3 k3 g4 k4 g5 k5 g6 k6 g7 k7 g8 k8 g9 k9 HP HQ hcx
   have HD1 := Lib.hid (show In.Holds wr.drew _ x from HP.out)
   have HD2 := Lib.hid (show In.Holds wr.drew _ x from HQ.out)
   go_wp2
   go_region_held3 (fun w' => w'.cell? ⟨b1, o1 + i * 10, none⟩ = some (.int .i64 x.kind) /\ w'.cell? ⟨b1, o1 + i * 10 + 1, none⟩ = some (.int .i64 x.mode) /\ w'.cell? ⟨b1, o1 + i * 10 + 2, none⟩ = some (.int .i64 x.uid) /\ w'.cell? ⟨b1, o1 + i * 10 + 3, none⟩ = some (.int .i64 x.gid) /\ w'.cell? ⟨b1, o1 + i * 10 + 4, none⟩ = some (.int .i64 x.links) /\ w'.cell? ⟨b1, o1 + i * 10 + 5, none⟩ = some (.int .i64 x.size) /\ w'.cell? ⟨b1, o1 + i * 10 + 6, none⟩ = some (.int .i64 x.tick) /\ w'.cell? ⟨b1, o1 + i * 10 + 7, none⟩ = some (.slice pa0 x.blocks.length pd0) /\ w'.cell? ⟨b1, o1 + i * 10 + 8, none⟩ = some (.slice pa1 x.acl.length pd1) /\ w'.cell? ⟨b1, o1 + i * 10 + 9, none⟩ = some (.slice pa2 x.dflt.length pd2) /\ w'.cell? ⟨b2, o2 + i * 10, none⟩ = some (.int .i64 x.kind) /\ w'.cell? ⟨b2, o2 + i * 10 + 1, none⟩ = some (.int .i64 x.mode) /\ w'.cell? ⟨b2, o2 + i * 10 + 2, none⟩ = some (.int .i64 x.uid) /\ w'.cell? ⟨b2, o2 + i * 10 + 3, none⟩ = some (.int .i64 x.gid) /\ w'.cell? ⟨b2, o2 + i * 10 + 4, none⟩ = some (.int .i64 x.links) /\ w'.cell? ⟨b2, o2 + i * 10 + 5, none⟩ = some (.int .i64 x.size) /\ w'.cell? ⟨b2, o2 + i * 10 + 6, none⟩ = some (.int .i64 x.tick) /\ w'.cell? ⟨b2, o2 + i * 10 + 7, none⟩ = some (.slice qa0 x.blocks.length qd0) /\ w'.cell? ⟨b2, o2 + i * 10 + 8, none⟩ = some (.slice qa1 x.acl.length qd1) /\ w'.cell? ⟨b2, o2 + i * 10 + 9, none⟩ = some (.slice qa2 x.dflt.length qd2)) (go_keep)
    (first | (go_at_call 100; with_reducible refine (In.eq_any _ _ _ x (by omega) HD1.out HD2.out).mono ?_; rintro e w1 ⟨rfl, hbq⟩; have qp0 := (hbq.cell (p := ⟨b1, o1 + i * 10, none⟩) (by simp; omega)); have qp1 := (hbq.cell (p := ⟨b1, o1 + i * 10 + 1, none⟩) (by simp; omega)); have qp2 := (hbq.cell (p := ⟨b1, o1 + i * 10 + 2, none⟩) (by simp; omega)); have qp3 := (hbq.cell (p := ⟨b1, o1 + i * 10 + 3, none⟩) (by simp; omega)); have qp4 := (hbq.cell (p := ⟨b1, o1 + i * 10 + 4, none⟩) (by simp; omega)); have qp5 := (hbq.cell (p := ⟨b1, o1 + i * 10 + 5, none⟩) (by simp; omega)); have qp6 := (hbq.cell (p := ⟨b1, o1 + i * 10 + 6, none⟩) (by simp; omega)); have qp7 := (hbq.cell (p := ⟨b1, o1 + i * 10 + 7, none⟩) (by simp; omega)); have qp8 := (hbq.cell (p := ⟨b1, o1 + i * 10 + 8, none⟩) (by simp; omega)); have qp9 := (hbq.cell (p := ⟨b1, o1 + i * 10 + 9, none⟩) (by simp; omega)); have qq0 := (hbq.cell (p := ⟨b2, o2 + i * 10, none⟩) (by simp; omega)); have qq1 := (hbq.cell (p := ⟨b2, o2 + i * 10 + 1, none⟩) (by simp; omega)); have qq2 := (hbq.cell (p := ⟨b2, o2 + i * 10 + 2, none⟩) (by simp; omega)); have qq3 := (hbq.cell (p := ⟨b2, o2 + i * 10 + 3, none⟩) (by simp; omega)); have qq4 := (hbq.cell (p := ⟨b2, o2 + i * 10 + 4, none⟩) (by simp; omega)); have qq5 := (hbq.cell (p := ⟨b2, o2 + i * 10 + 5, none⟩) (by simp; omega)); have qq6 := (hbq.cell (p := ⟨b2, o2 + i * 10 + 6, none⟩) (by simp; omega)); have qq7 := (hbq.cell (p := ⟨b2, o2 + i * 10 + 7, none⟩) (by simp; omega)); have qq8 := (hbq.cell (p := ⟨b2, o2 + i * 10 + 8, none⟩) (by simp; omega)); have qq9 := (hbq.cell (p := ⟨b2, o2 + i * 10 + 9, none⟩) (by simp; omega))))
   go_wp2
   go_roundw
   case rel => exact ⟨i + 1, by omega, by go_num, HB.out.trans (below_of_drew hbq hsz)⟩
   case measure => simp [intOf]; omega
  ·go_wp2
   go_ret
   exact ⟨rfl, HB.out⟩
def marksE (k : Nat) (n : In.L) : In.L := { n with kind := ((k : Nat) : Int), mode := ((k + 1 : Nat) : Int), uid := ((k + 2 : Nat) : Int), gid := ((k + 3 : Nat) : Int), links := ((k + 4 : Nat) : Int), size := ((k + 5 : Nat) : Int), tick := ((k + 6 : Nat) : Int), blocks := NiF.marks (k + 7) n.blocks, acl := AeF.marks (k + 7 + NiF.wid n.blocks) n.acl, dflt := AeF.marks (k + 7 + NiF.wid n.blocks + AeF.wid n.acl) n.dflt }
def widE (n : In.L) : Nat := 7 + NiF.wid n.blocks + AeF.wid n.acl + AeF.wid n.dflt
def marks : Nat -> L -> L
 | _, [] => []
 | k, x :: r => marksE k x :: marks (k + widE x) r
def wid (l : L) : Nat := (l.map widE).sum
theorem wid_cons (x : In.L) (r : L) : wid (x :: r) = widE x + wid r := by simp [wid]
theorem wid_app (a b : L) : wid (a ++ b) = wid a + wid b := by simp [wid]
theorem wid_snoc (l : L) (i : Nat) (h : i < l.length) : wid (l.take (i + 1)) = wid (l.take i) + widE (l.getD i z0) := by
 rw [List.take_succ_eq_append_getElem h, wid_app]
 simp [wid, List.getD, List.getElem?_eq_getElem h]
theorem wid_take_le (l : L) (i : Nat) : wid (l.take i) <= wid l := by
 have : wid l = wid (l.take i) + wid (l.drop i) := by rw [<- wid_app, List.take_append_drop]
 omega
theorem widE_cost (n : In.L) : widE n <= 10 * (1 + In.cost n) := by
 unfold widE In.cost
 have h0 : NiF.wid n.blocks <= 3 * NiF.cost n.blocks := NiF.wid_cost _
 have h1 : AeF.wid n.acl <= 3 * AeF.cost n.acl := AeF.wid_cost _
 have h2 : AeF.wid n.dflt <= 3 * AeF.cost n.dflt := AeF.wid_cost _
 omega
theorem wid_cost (l : L) : wid l <= 10 * cost l := by
 induction l with
 | nil => simp [wid]
 | cons x r ih =>
  have h1 := widE_cost x
  have h2 : cost (x :: r) = 1 + In.cost x + cost r := by unfold cost csum; simp; omega
  rw [wid_cons, h2]
  omega
theorem marks_length : ∀ (k : Nat) (l : L), (marks k l).length = l.length
 | _, [] => rfl
 | k, x :: r => by rw [marks, List.length_cons, List.length_cons, marks_length]
theorem marks_app : ∀ (k : Nat) (a b : L), marks k (a ++ b) = marks k a ++ marks (k + wid a) b
 | k, [], b => by simp [marks, wid]
 | k, x :: r, b => by
  rw [List.cons_append, marks, marks, List.cons_append, marks_app, wid_cons, Nat.add_assoc]
theorem marks_snoc (k : Nat) (l : L) (i : Nat) (h : i < l.length) : marks k (l.take (i + 1)) = marks k (l.take i) ++ [marksE (k + wid (l.take i)) (l.getD i z0)] := by
 rw [List.take_succ_eq_append_getElem h, marks_app]
 simp [marks, List.getD, List.getElem?_eq_getElem h]
theorem marks_getD (k : Nat) (l : L) (i : Nat) (h : i < l.length) : (marks k l).getD i z0 = marksE (k + wid (l.take i)) (l.getD i z0) := by
 have e : l = l.take i ++ (l.getD i z0 :: l.drop (i + 1)) := by
  rw [List.getD_eq_getElem?_getD, List.getElem?_eq_getElem h]
  simp
 have hl : (marks k (l.take i)).length = i := by rw [marks_length, List.length_take]; omega
 conv => lhs; rw [e]
 rw [marks_app, marks, List.getD_eq_getElem?_getD, List.getElem?_append_right (by omega), hl, Nat.sub_self]
 rfl
theorem apart_one {S : List Nat} {g : Nat} (h : g ∉ S) : Apart S [g] := fun z hz hz2 => by
 rw [List.mem_singleton] at hz2
 subst hz2
 exact h hz
theorem own_mid {w w' : World} {base g : Nat} {done rest : List El} {e e' : El} {S : List Nat} (hS : S = fpR (.slice (some ⟨g, 0, none⟩) 0 0) ++ fps (done ++ e :: rest)) (hnd : S.Nodup) (hel : ∀ x ∈ done ++ e :: rest, In.Own w base x.2.1 x.1 x.2.2) (hc : Chg w w' (g :: e.2.2)) (he' : In.Own w' base e'.2.1 e'.1 e'.2.2) : ∀ x ∈ done ++ e' :: rest, In.Own w' base x.2.1 x.1 x.2.2 := by
 subst hS
 have hfp : fpR (.slice (some ⟨g, 0, none⟩) 0 0) = [g] := rfl
 rw [hfp, fps_app, show fps (e :: rest) = e.2.2 ++ fps rest from by simp [fps]] at hnd
 obtain ⟨_, h2, h3⟩ := nodup_parts hnd
 obtain ⟨_, h5, h6⟩ := nodup_parts h2
 obtain ⟨_, _, h9⟩ := nodup_parts h5
 have key : ∀ x : El, x ∈ done \/ x ∈ rest -> Apart x.2.2 (g :: e.2.2) := by
  intro x hx z hz hz2
  rcases List.mem_cons.1 hz2 with rfl | hz2
  ·refine h3 z (by simp) ?_
   rcases hx with hx | hx
   ·exact List.mem_append.2 (.inl (mem_fps hx hz))
   ·exact List.mem_append.2 (.inr (List.mem_append.2 (.inr (mem_fps hx hz))))
  ·rcases hx with hx | hx
   ·exact h6 z (mem_fps hx hz) (List.mem_append.2 (.inl hz2))
   ·exact h9 z hz2 (mem_fps hx hz)
 intro x hx
 rcases List.mem_append.1 hx with hx | hx
 ·exact In.own_chg (hel x (List.mem_append.2 (.inl hx))) hc (key x (.inl hx))
 ·rcases List.mem_cons.1 hx with rfl | hx
  ·exact he'
  ·exact In.own_chg (hel x (List.mem_append.2 (.inr (List.mem_cons.2 (.inr hx))))) hc (key x (.inr hx))
theorem mark_any (w : World) (base : Nat) (v : Value) (l : L) (S : List Nat) (k : Nat) (hk : 1 <= k) (hn : k + wid l <= 1073741824) (h : Own w base v l S) :
  Calls Tryz.prog 58 #[v, .int .i64 k] w fun e w' => e = .returned (.int .i64 (k + wid l : Nat)) /\ Own w' base v (marks k l) S /\ Chg w w' S := by
 obtain ⟨es, hns, hrow, hS, hnd, hel⟩ := h
 unfold Own
 rw [marks_length]
 have hesl : es.length = l.length := by rw [<- hns, ns_length]
 have HWT := Lib.hid (wid_take_le l)
 have HWS := Lib.hid (wid_snoc l)
 have HMS := Lib.hid (marks_snoc k l)
 obtain ⟨M, hM⟩ : ∃ M, M = l.length := ⟨_, rfl⟩
 rw [<- hM] at hrow hesl ⊢
 have hMl : M <= 1073741824 := by
  have : l.length <= wid l := by
   clear hM hns HWT HWS HMS hn
   induction l with
   | nil => simp
   | cons x r ih => rw [wid_cons, List.length_cons]; unfold widE; omega
  omega
 have HM := Lib.hid hM
 have HESL := Lib.hid hesl
 have HNS := Lib.hid hns
 clear hM hns hesl
 obtain ⟨N, hN⟩ : ∃ N, N = wid l := ⟨_, rfl⟩
 rw [<- hN] at hn HWT ⊢
 have HN := Lib.hid hN
 clear hN
 by_cases h0 : M = 0
 ·subst h0
  obtain rfl : es = [] := List.eq_nil_of_length_eq_zero HESL.out
  obtain rfl : l = [] := List.eq_nil_of_length_eq_zero HM.out.symm
  have hN0 : N = 0 := HN.out
  subst hN0
  have HO := Lib.hid hrow
  have HS := Lib.hid hS
  have HND := Lib.hid hnd
  obtain ⟨a, cap, rfl⟩ := Dk.slice_of hrow
  clear hrow hS hnd hel
  go_enter Tryz.func58, Tryz.ntmps58
  go_wp2
  refine wp_loop_rounds 1 ?_
  rw [rounds_succ]
  go_wp2
  go_ret
  exact ⟨by simp, ⟨[], rfl, HO.out, HS.out, HND.out, fun e he => by cases he⟩, Chg.refl _ _⟩
 ·obtain ⟨g, cap, rfl, hbg⟩ : ∃ g cap, v = .slice (some ⟨g, 0, none⟩) M cap /\ g < w.heap.size := by
   rcases hrow.2 with ⟨_, hz⟩ | ⟨g, cap, cur, rfl, _, hg, _⟩
   ·exact absurd hz h0
   ·exact ⟨g, cap, rfl, (Array.getElem?_eq_some_iff.1 hg).1⟩
  have HS := Lib.hid (show S = fpR (.slice (some ⟨g, 0, none⟩) 0 0) ++ fps es from hS)
  have HND := Lib.hid hnd
  have HO := Lib.hid hrow
  have HEL := Lib.hid hel
  clear hS hnd hrow hel h0
  go_enter Tryz.func58, Tryz.ntmps58
  go_wp2
  go_loopw [1, 5] (fun kv iv wr => ∃ (i : Nat) (done rest : List El), i <= M /\ iv = .int .i64 i /\ kv = .int .i64 ((k + wid (l.take i) : Nat)) /\ done.length = i /\ rest = es.drop i /\ ns done = marks k (l.take i) /\ fps done = fps (es.take i) /\ wr.ownsRow base 89 10 (.slice (some ⟨g, 0, none⟩) M cap) M (cells (done ++ rest)) /\ (∀ e ∈ done ++ rest, In.Own wr base e.2.1 e.1 e.2.2) /\ Chg w wr S) (fun _ iv _ => M - (intOf iv).toNat)
  case atStart => exact ⟨0, [], es, Nat.zero_le _, rfl, by simp [wid], rfl, rfl, rfl, rfl, HO.out, HEL.out, Chg.refl _ _⟩
  case round =>
   obtain ⟨i, done, rest, hi, rfl, rfl, hdl, hrest, hnsd, hfpd, hrow, hel, hchg⟩ := hrel
   have HDL := Lib.hid hdl
   have HREST := Lib.hid hrest
   have HNSD := Lib.hid hnsd
   have HFPD := Lib.hid hfpd
   have HROW := Lib.hid hrow
   have HE := Lib.hid hel
   have HCH := Lib.hid hchg
   clear hdl hrest hnsd hfpd hrow hel hchg HO HEL
   by_cases hlt : i < M
   ·have hlx : i < l.length := by rw [<- HM.out]; exact hlt
    have hle : i < es.length := by rw [HESL.out]; exact hlt
    obtain ⟨e0, hr2⟩ : ∃ e0, rest = e0 :: es.drop (i + 1) /\ e0 = es[i] := ⟨es[i], by rw [HREST.out, List.drop_eq_getElem_cons hle], rfl⟩
    obtain ⟨rfl, he0⟩ := hr2
    have hxe : l.getD i z0 = e0.1 := by
     rw [he0, <- HNS.out, List.getD_eq_getElem?_getD, ns, List.getElem?_map, List.getElem?_eq_getElem hle]; rfl
    have HTK := Lib.hid (show es.take (i + 1) = es.take i ++ [e0] from by rw [List.take_succ_eq_append_getElem hle, he0])
    have hws := HWS.out i hlx
    have hms := HMS.out i hlx
    have hwt := HWT.out (i + 1)
    rw [hxe] at hws hms
    obtain ⟨n0, y0, S00⟩ := e0
    have hme := HE.out (n0, y0, S00) (by simp)
    obtain ⟨r0, r1, r2, S0, S1, S2, hy, hSS, hndS, ho0, ho1, ho2⟩ := hme
    dsimp only at hy hSS hndS ho0 ho1 ho2 hws hms
    obtain ⟨a0, d0, rfl⟩ := NiF.own_form ho0
    obtain ⟨a1, d1, rfl⟩ := AeF.own_form ho1
    obtain ⟨a2, d2, rfl⟩ := AeF.own_form ho2
    subst hy
    obtain ⟨K, hK⟩ : ∃ K, K = k + wid (l.take i) := ⟨_, rfl⟩
    rw [<- hK] at hms ⊢
    have HK := Lib.hid (show k + wid (l.take (i + 1)) = K + widE n0 by omega)
    have HKE := Lib.hid hK
    have hKl : K + widE n0 <= 1073741824 := by omega
    unfold widE at hKl
    have hK1 : 1 <= K := by omega
    have HMS2 := Lib.hid hms
    have HXE := Lib.hid hxe
    have HHE := Lib.hid he0
    have HSS := Lib.hid hSS
    have HNDS := Lib.hid hndS
    rw [hSS] at hndS
    have HND3 := Lib.hid hndS
    clear hws hms hwt hK hxe he0 hSS hndS
    have hcd : (cells done).length = i * 10 := by rw [cells_len (w := wr) (base := base) (fun e he => HE.out e (List.mem_append.2 (.inl he))), HDL.out]
    have hsp : cells (done ++ (n0, .agg #[.int .i64 n0.kind, .int .i64 n0.mode, .int .i64 n0.uid, .int .i64 n0.gid, .int .i64 n0.links, .int .i64 n0.size, .int .i64 n0.tick, .slice a0 n0.blocks.length d0, .slice a1 n0.acl.length d1, .slice a2 n0.dflt.length d2], S00) :: es.drop (i + 1)) = cells done ++ ([.int .i64 n0.kind, .int .i64 n0.mode, .int .i64 n0.uid, .int .i64 n0.gid, .int .i64 n0.links, .int .i64 n0.size, .int .i64 n0.tick, .slice a0 n0.blocks.length d0, .slice a1 n0.acl.length d1, .slice a2 n0.dflt.length d2] : List Value) ++ cells (es.drop (i + 1)) := by
     rw [cells_app, List.append_assoc]; rfl
    have hrow := HROW.out
    rw [hsp] at hrow
    have hlenr := hrow.1
    have hlr : i * 10 + 10 <= M * 10 := by have := Nat.mul_le_mul_right 10 (show i + 1 <= M by omega); rw [Nat.succ_mul] at this; omega
    have HSP := Lib.hid (show ((((((((cells done ++ ([.int .i64 n0.kind, .int .i64 n0.mode, .int .i64 n0.uid, .int .i64 n0.gid, .int .i64 n0.links, .int .i64 n0.size, .int .i64 n0.tick, .slice a0 n0.blocks.length d0, .slice a1 n0.acl.length d1, .slice a2 n0.dflt.length d2] : List Value) ++ cells (es.drop (i + 1))).set (i * 10) (.int .i64 (K : Int))).set (i * 10 + 1) (.int .i64 ((K : Int) + 1))).set (i * 10 + 2) (.int .i64 ((K : Int) + 2))).set (i * 10 + 3) (.int .i64 ((K : Int) + 3))).set (i * 10 + 4) (.int .i64 ((K : Int) + 4))).set (i * 10 + 5) (.int .i64 ((K : Int) + 5))).set (i * 10 + 6) (.int .i64 ((K : Int) + 6))) = cells (done ++ (marksE K n0, .agg #[.int .i64 (K : Int), .int .i64 ((K : Int) + 1), .int .i64 ((K : Int) + 2), .int .i64 ((K : Int) + 3), .int .i64 ((K : Int) + 4), .int .i64 ((K : Int) + 5), .int .i64 ((K : Int) + 6), .slice a0 n0.blocks.length d0, .slice a1 n0.acl.length d1, .slice a2 n0.dflt.length d2], S00) :: es.drop (i + 1)) from by
     have h1 := set_mid (cells done) [.int .i64 n0.kind, .int .i64 n0.mode, .int .i64 n0.uid, .int .i64 n0.gid, .int .i64 n0.links, .int .i64 n0.size, .int .i64 n0.tick] (([.slice a0 n0.blocks.length d0, .slice a1 n0.acl.length d1, .slice a2 n0.dflt.length d2] : List Value) ++ cells (es.drop (i + 1))) [.int .i64 (K : Int), .int .i64 ((K : Int) + 1), .int .i64 ((K : Int) + 2), .int .i64 ((K : Int) + 3), .int .i64 ((K : Int) + 4), .int .i64 ((K : Int) + 5), .int .i64 ((K : Int) + 6)] rfl
     rw [hcd] at h1
     rw [cells_app, show cells done ++ ([.int .i64 n0.kind, .int .i64 n0.mode, .int .i64 n0.uid, .int .i64 n0.gid, .int .i64 n0.links, .int .i64 n0.size, .int .i64 n0.tick, .slice a0 n0.blocks.length d0, .slice a1 n0.acl.length d1, .slice a2 n0.dflt.length d2] : List Value) ++ cells (es.drop (i + 1)) = cells done ++ ([.int .i64 n0.kind, .int .i64 n0.mode, .int .i64 n0.uid, .int .i64 n0.gid, .int .i64 n0.links, .int .i64 n0.size, .int .i64 n0.tick] : List Value) ++ (([.slice a0 n0.blocks.length d0, .slice a1 n0.acl.length d1, .slice a2 n0.dflt.length d2] : List Value) ++ cells (es.drop (i + 1))) from by simp only [List.append_assoc, List.cons_append, List.nil_append]]
     refine h1.trans ?_
     rw [List.append_assoc]; rfl)
    generalize hLS : (cells done ++ ([.int .i64 n0.kind, .int .i64 n0.mode, .int .i64 n0.uid, .int .i64 n0.gid, .int .i64 n0.links, .int .i64 n0.size, .int .i64 n0.tick, .slice a0 n0.blocks.length d0, .slice a1 n0.acl.length d1, .slice a2 n0.dflt.length d2] : List Value) ++ cells (es.drop (i + 1))) = ls at hrow hlenr HSP
    have HROW2 := Lib.hid hrow
    have HGR := Lib.hid (World.grownBy.refl wr (some g))
    have HLEN := Lib.hid hlenr
    have HCD := Lib.hid hcd
    clear hrow hlenr hcd
    have HSD := Lib.hid (show fps es = fps (done ++ (n0, .agg #[.int .i64 n0.kind, .int .i64 n0.mode, .int .i64 n0.uid, .int .i64 n0.gid, .int .i64 n0.links, .int .i64 n0.size, .int .i64 n0.tick, .slice a0 n0.blocks.length d0, .slice a1 n0.acl.length d1, .slice a2 n0.dflt.length d2], S00) :: es.drop (i + 1)) from by rw [fps_app, HFPD.out, <- fps_app, HHE.out, <- List.drop_eq_getElem_cons hle, List.take_append_drop])
    have hfull := HND.out
    rw [HS.out, HSD.out] at hfull
    have HFULL := Lib.hid hfull
    have hgS : g ∉ S00 := by
     intro hh
     rw [fps_app] at hfull
     exact (nodup_parts hfull).2.2 g (by simp [fpR, Value.ownBlock]) (List.mem_append.2 (.inr (by simp [fps, hh])))
    have hSsub : ∀ z ∈ g :: S00, z ∈ S := by
     intro z hz
     rw [HS.out]
     rcases List.mem_cons.1 hz with rfl | hz
     ·simp [fpR, Value.ownBlock]
     ·exact List.mem_append.2 (.inr (mem_fps (e := (n0, .agg #[.int .i64 n0.kind, .int .i64 n0.mode, .int .i64 n0.uid, .int .i64 n0.gid, .int .i64 n0.links, .int .i64 n0.size, .int .i64 n0.tick, .slice a0 n0.blocks.length d0, .slice a1 n0.acl.length d1, .slice a2 n0.dflt.length d2], S00)) (by rw [HHE.out]; exact List.getElem_mem hle) hz))
    have HSUB := Lib.hid hSsub
    rw [HSS.out] at hgS
    simp only [List.mem_append, not_or] at hgS
    have HGS := Lib.hid hgS
    clear hfull hSsub hgS hLS hsp
    have hc0 := HROW2.out.cellAt (i * 10) (by omega)
    obtain ⟨y0, hy0⟩ : ∃ y, ls[i * 10]? = some y := ⟨_, List.getElem?_eq_getElem (by have := HLEN.out; omega)⟩
    rw [hy0] at hc0
    have hf0 := HROW2.out.frozenAt (i * 10)
    clear hy0
    have hc1 := HROW2.out.cellAt (i * 10 + 1) (by omega)
    obtain ⟨y1, hy1⟩ : ∃ y, ls[i * 10 + 1]? = some y := ⟨_, List.getElem?_eq_getElem (by have := HLEN.out; omega)⟩
    rw [hy1] at hc1
    have hf1 := HROW2.out.frozenAt (i * 10 + 1)
    clear hy1
    have hc2 := HROW2.out.cellAt (i * 10 + 2) (by omega)
    obtain ⟨y2, hy2⟩ : ∃ y, ls[i * 10 + 2]? = some y := ⟨_, List.getElem?_eq_getElem (by have := HLEN.out; omega)⟩
    rw [hy2] at hc2
    have hf2 := HROW2.out.frozenAt (i * 10 + 2)
    clear hy2
    have hc3 := HROW2.out.cellAt (i * 10 + 3) (by omega)
    obtain ⟨y3, hy3⟩ : ∃ y, ls[i * 10 + 3]? = some y := ⟨_, List.getElem?_eq_getElem (by have := HLEN.out; omega)⟩
    rw [hy3] at hc3
    have hf3 := HROW2.out.frozenAt (i * 10 + 3)
    clear hy3
    have hc4 := HROW2.out.cellAt (i * 10 + 4) (by omega)
    obtain ⟨y4, hy4⟩ : ∃ y, ls[i * 10 + 4]? = some y := ⟨_, List.getElem?_eq_getElem (by have := HLEN.out; omega)⟩
    rw [hy4] at hc4
    have hf4 := HROW2.out.frozenAt (i * 10 + 4)
    clear hy4
    have hc5 := HROW2.out.cellAt (i * 10 + 5) (by omega)
    obtain ⟨y5, hy5⟩ : ∃ y, ls[i * 10 + 5]? = some y := ⟨_, List.getElem?_eq_getElem (by have := HLEN.out; omega)⟩
    rw [hy5] at hc5
    have hf5 := HROW2.out.frozenAt (i * 10 + 5)
    clear hy5
    have hc6 := HROW2.out.cellAt (i * 10 + 6) (by omega)
    obtain ⟨y6, hy6⟩ : ∃ y, ls[i * 10 + 6]? = some y := ⟨_, List.getElem?_eq_getElem (by have := HLEN.out; omega)⟩
    rw [hy6] at hc6
    have hf6 := HROW2.out.frozenAt (i * 10 + 6)
    clear hy6
    have hr0 := HROW.out.cellAt (i * 10 + 7) (by omega)
    rw [cells_app, List.getElem?_append_right (by have := HCD.out; omega), HCD.out, show i * 10 + 7 - i * 10 = 7 from by omega] at hr0
    replace hr0 : wr.cell? ⟨g, i * 10 + 7, none⟩ = some (.slice a0 n0.blocks.length d0) := hr0
    have hst0 := HROW2.out.stored (i * 10) (.int .i64 (K : Int))
    have hst1 := hst0.1.stored (i * 10 + 1) (.int .i64 ((K : Int) + 1))
    have hst2 := hst1.1.stored (i * 10 + 2) (.int .i64 ((K : Int) + 2))
    have hst3 := hst2.1.stored (i * 10 + 3) (.int .i64 ((K : Int) + 3))
    have hst4 := hst3.1.stored (i * 10 + 4) (.int .i64 ((K : Int) + 4))
    have hst5 := hst4.1.stored (i * 10 + 5) (.int .i64 ((K : Int) + 5))
    have hst6 := hst5.1.stored (i * 10 + 6) (.int .i64 ((K : Int) + 6))
    replace HGR := Lib.hid (grow_trans (grow_trans (grow_trans (grow_trans (grow_trans (grow_trans hst0.2 hst1.2) hst2.2) hst3.2) hst4.2) hst5.2) hst6.2)
    have hlast := hst6.1
    rw [HSP.out] at hlast
    have HL7 := Lib.hid hlast
    have hr1 := HL7.out.cellAt (i * 10 + 8) (by omega)
    rw [cells_app, List.getElem?_append_right (by have := HCD.out; omega), HCD.out, show i * 10 + 8 - i * 10 = 8 from by omega] at hr1
    replace hr1 : (((((((wr.setCell ⟨g, i * 10, none⟩ (.int .i64 (K : Int))).setCell ⟨g, i * 10 + 1, none⟩ (.int .i64 ((K : Int) + 1))).setCell ⟨g, i * 10 + 2, none⟩ (.int .i64 ((K : Int) + 2))).setCell ⟨g, i * 10 + 3, none⟩ (.int .i64 ((K : Int) + 3))).setCell ⟨g, i * 10 + 4, none⟩ (.int .i64 ((K : Int) + 4))).setCell ⟨g, i * 10 + 5, none⟩ (.int .i64 ((K : Int) + 5))).setCell ⟨g, i * 10 + 6, none⟩ (.int .i64 ((K : Int) + 6))).cell? ⟨g, i * 10 + 8, none⟩ = some (.slice a1 n0.acl.length d1) := hr1
    have HR1 := Lib.hid hr1
    clear hr1
    have hr2 := HL7.out.cellAt (i * 10 + 9) (by omega)
    rw [cells_app, List.getElem?_append_right (by have := HCD.out; omega), HCD.out, show i * 10 + 9 - i * 10 = 9 from by omega] at hr2
    replace hr2 : (((((((wr.setCell ⟨g, i * 10, none⟩ (.int .i64 (K : Int))).setCell ⟨g, i * 10 + 1, none⟩ (.int .i64 ((K : Int) + 1))).setCell ⟨g, i * 10 + 2, none⟩ (.int .i64 ((K : Int) + 2))).setCell ⟨g, i * 10 + 3, none⟩ (.int .i64 ((K : Int) + 3))).setCell ⟨g, i * 10 + 4, none⟩ (.int .i64 ((K : Int) + 4))).setCell ⟨g, i * 10 + 5, none⟩ (.int .i64 ((K : Int) + 5))).setCell ⟨g, i * 10 + 6, none⟩ (.int .i64 ((K : Int) + 6))).cell? ⟨g, i * 10 + 9, none⟩ = some (.slice a2 n0.dflt.length d2) := hr2
    have HR2 := Lib.hid hr2
    clear hr2
    clear HROW2 hlast hst0 hst1 hst2 hst3 hst4 hst5 hst6
    go_wp2_with fail
    rw [show ((K : Int) + 1 + 1) = (K : Int) + 2 from by omega]
    rw [show ((K : Int) + 2 + 1) = (K : Int) + 3 from by omega]
    rw [show ((K : Int) + 3 + 1) = (K : Int) + 4 from by omega]
    rw [show ((K : Int) + 4 + 1) = (K : Int) + 5 from by omega]
    rw [show ((K : Int) + 5 + 1) = (K : Int) + 6 from by omega]
    rw [show ((K : Int) + 6 + 1) = (K : Int) + 7 from by omega]
    clear hc0 hf0 hc1 hf1 hc2 hf2 hc3 hf3 hc4 hf4 hc5 hf5 hc6 hf6 hr0
    generalize (((((((wr.setCell ⟨g, i * 10, none⟩ (.int .i64 (K : Int))).setCell ⟨g, i * 10 + 1, none⟩ (.int .i64 ((K : Int) + 1))).setCell ⟨g, i * 10 + 2, none⟩ (.int .i64 ((K : Int) + 2))).setCell ⟨g, i * 10 + 3, none⟩ (.int .i64 ((K : Int) + 3))).setCell ⟨g, i * 10 + 4, none⟩ (.int .i64 ((K : Int) + 4))).setCell ⟨g, i * 10 + 5, none⟩ (.int .i64 ((K : Int) + 5))).setCell ⟨g, i * 10 + 6, none⟩ (.int .i64 ((K : Int) + 6))) = w0 at HL7 HGR HR1 HR2 ⊢
    have hr1 := HR1.out
    clear HR1
    have hr2 := HR2.out
    clear HR2
    have hch7 := Chg.of_grown HGR.out
    have HO0 := Lib.hid (NiF.own_chg ho0 hch7 (apart_one HGS.out.1.1))
    have HO1 := Lib.hid (AeF.own_chg ho1 hch7 (apart_one HGS.out.1.2))
    have HO2 := Lib.hid (AeF.own_chg ho2 hch7 (apart_one HGS.out.2))
    clear ho0 ho1 ho2
    have HCT := Lib.hid (show Chg wr w0 (g :: S00) from hch7.more (fun z hz => by simpa using Or.inl (by simpa using hz)))
    clear hch7 HGR
    first | rw [show ((K : Int) + 7) = ((K + 7 : Nat) : Int) from by omega] | skip
    refine (NiF.mark_any _ base _ n0.blocks S0 (K + 7) (by omega) (by omega) HO0.out).mono ?_
    rintro e w1 ⟨rfl, hown, hc⟩
    replace HO1 := Lib.hid (AeF.own_chg HO1.out hc ((nodup_parts (nodup_parts HND3.out).1).2.2).symm)
    replace HO2 := Lib.hid (AeF.own_chg HO2.out hc ((apart_app.1 (nodup_parts HND3.out).2.2).1).symm)
    replace HO0 := Lib.hid hown
    have hrw := row_chg HL7.out hc (Apart.symm (apart_one HGS.out.1.1))
    replace HL7 := Lib.hid hrw
    clear hrw
    replace HCT := Lib.hid (HCT.out.trans (hc.more (fun z hz => List.mem_cons.2 (.inr (by rw [HSS.out]; simp [hz])))))
    replace hr1 : w1.cell? ⟨g, i * 10 + 8, none⟩ = some (.slice a1 n0.acl.length d1) := by
     rw [hc.cell (p := ⟨g, i * 10 + 8, none⟩) (Dk.cell_block hr1) HGS.out.1.1]; exact hr1
    replace hr2 : w1.cell? ⟨g, i * 10 + 9, none⟩ = some (.slice a2 n0.dflt.length d2) := by
     rw [hc.cell (p := ⟨g, i * 10 + 9, none⟩) (Dk.cell_block hr2) HGS.out.1.1]; exact hr2
    clear hown hc
    go_wp2_with fail
    skip
    refine (AeF.mark_any _ base _ n0.acl S1 (K + 7 + NiF.wid n0.blocks) (by omega) (by omega) HO1.out).mono ?_
    rintro e w2 ⟨rfl, hown, hc⟩
    replace HO0 := Lib.hid (NiF.own_chg HO0.out hc (nodup_parts (nodup_parts HND3.out).1).2.2)
    replace HO2 := Lib.hid (AeF.own_chg HO2.out hc ((apart_app.1 (nodup_parts HND3.out).2.2).2).symm)
    replace HO1 := Lib.hid hown
    have hrw := row_chg HL7.out hc (Apart.symm (apart_one HGS.out.1.2))
    replace HL7 := Lib.hid hrw
    clear hrw
    replace HCT := Lib.hid (HCT.out.trans (hc.more (fun z hz => List.mem_cons.2 (.inr (by rw [HSS.out]; simp [hz])))))
    replace hr2 : w2.cell? ⟨g, i * 10 + 9, none⟩ = some (.slice a2 n0.dflt.length d2) := by
     rw [hc.cell (p := ⟨g, i * 10 + 9, none⟩) (Dk.cell_block hr2) HGS.out.1.2]; exact hr2
    clear hown hc
    go_wp2_with fail
    skip
    refine (AeF.mark_any _ base _ n0.dflt S2 (K + 7 + NiF.wid n0.blocks + AeF.wid n0.acl) (by omega) (by omega) HO2.out).mono ?_
    rintro e w3 ⟨rfl, hown, hc⟩
    replace HO0 := Lib.hid (NiF.own_chg HO0.out hc (apart_app.1 (nodup_parts HND3.out).2.2).1)
    replace HO1 := Lib.hid (AeF.own_chg HO1.out hc (apart_app.1 (nodup_parts HND3.out).2.2).2)
    replace HO2 := Lib.hid hown
    have hrw := row_chg HL7.out hc (Apart.symm (apart_one HGS.out.2))
    replace HL7 := Lib.hid hrw
    clear hrw
    replace HCT := Lib.hid (HCT.out.trans (hc.more (fun z hz => List.mem_cons.2 (.inr (by rw [HSS.out]; simp [hz])))))
    clear hown hc
    have HEN := Lib.hid (own_mid (S := S) (e := (n0, .agg #[.int .i64 n0.kind, .int .i64 n0.mode, .int .i64 n0.uid, .int .i64 n0.gid, .int .i64 n0.links, .int .i64 n0.size, .int .i64 n0.tick, .slice a0 n0.blocks.length d0, .slice a1 n0.acl.length d1, .slice a2 n0.dflt.length d2], S00)) (e' := (marksE K n0, .agg #[.int .i64 (K : Int), .int .i64 ((K : Int) + 1), .int .i64 ((K : Int) + 2), .int .i64 ((K : Int) + 3), .int .i64 ((K : Int) + 4), .int .i64 ((K : Int) + 5), .int .i64 ((K : Int) + 6), .slice a0 n0.blocks.length d0, .slice a1 n0.acl.length d1, .slice a2 n0.dflt.length d2], S00)) (by rw [HS.out, HSD.out]) HND.out HE.out HCT.out ⟨_, _, _, S0, S1, S2, rfl, HSS.out, HNDS.out, HO0.out, HO1.out, HO2.out⟩)
    go_wp2
    go_roundw
    case rel => exact ⟨i + 1, done ++ [(marksE K n0, .agg #[.int .i64 (K : Int), .int .i64 ((K : Int) + 1), .int .i64 ((K : Int) + 2), .int .i64 ((K : Int) + 3), .int .i64 ((K : Int) + 4), .int .i64 ((K : Int) + 5), .int .i64 ((K : Int) + 6), .slice a0 n0.blocks.length d0, .slice a1 n0.acl.length d1, .slice a2 n0.dflt.length d2], S00)], es.drop (i + 1), by omega, by go_num, by rw [HK.out]; unfold widE; go_num, by simp [HDL.out], rfl, by rw [HMS2.out, <- HNSD.out]; simp [ns], by rw [HTK.out, fps_app, fps_app, HFPD.out]; rfl, by rw [List.append_assoc]; exact HL7.out, by rw [List.append_assoc]; exact HEN.out, HCH.out.trans (HCT.out.more HSUB.out)⟩
    case measure => simp [intOf]; omega
   ·obtain rfl : i = M := by omega
    have hr0 : rest = [] := by rw [HREST.out, List.drop_of_length_le (by rw [HESL.out]; exact Nat.le_refl _)]
    subst hr0
    have htk : l.take i = l := List.take_of_length_le (by rw [<- HM.out]; exact Nat.le_refl _)
    have hte : es.take i = es := List.take_of_length_le (by rw [HESL.out]; exact Nat.le_refl _)
    have HA := Lib.hid (show wid (l.take i) = N by rw [htk, HN.out])
    have HF := Lib.hid (show ns done = marks k l by rw [HNSD.out, htk])
    have HG := Lib.hid (show fps done = fps es by rw [HFPD.out, hte])
    clear htk hte
    go_wp2
    go_ret
    have h1 := HROW.out
    have h2 := HE.out
    rw [List.append_nil] at h1 h2
    exact ⟨ret_int (by rw [HA.out]), ⟨done, HF.out, h1, by rw [HS.out, HG.out]; rfl, HND.out, h2⟩, HCH.out⟩
theorem held_any (w : World) (v : Value) (l : L) (k : Nat) (hk : 1 <= k) (hn : k + wid l <= 1073741824) (h : Holds w v (marks k l)) :
  Calls Tryz.prog 68 #[v, .int .i64 k] w fun e w' => e = .returned (.int .i64 (k + wid l : Nat)) /\ Below w.heap.size w w' := by
 obtain ⟨a, cap, rfl, hle, hat⟩ := atL h
 rw [marks_length] at hle ⊢
 have hat2 : ∀ i, i < l.length -> ∃ b o, a = some ⟨b, o, none⟩ /\ b < w.heap.size /\ ∃ r0 r1 r2 : Value, Cell w b (o + i * 10) (marksE (k + wid (l.take i)) (l.getD i z0)) r0 r1 r2 /\ Parts w (marksE (k + wid (l.take i)) (l.getD i z0)) r0 r1 r2 := fun i hi => by
  have := hat i (by rw [marks_length]; exact hi)
  rw [marks_getD k l i hi] at this
  exact this
 have HC := Lib.hid hat2
 have HWT := Lib.hid (wid_take_le l)
 have HWS := Lib.hid (wid_snoc l)
 have hMl : l.length <= 1073741824 := by
  have : l.length <= wid l := by
   clear hn hat hat2 HC HWT HWS h hle
   induction l with
   | nil => simp
   | cons x r ih => rw [wid_cons, List.length_cons]; unfold widE; omega
  omega
 obtain ⟨M, hM⟩ : ∃ M, M = l.length := ⟨_, rfl⟩
 rw [<- hM] at hle hMl ⊢
 have HM := Lib.hid hM
 obtain ⟨N, hN⟩ : ∃ N, N = wid l := ⟨_, rfl⟩
 rw [<- hN] at hn HWT ⊢
 have HN := Lib.hid hN
 clear hN hM hat hat2 h
 go_enter Tryz.func68, Tryz.ntmps68
 go_wp2
 go_loopw [1, 5] (fun kv iv wr => ∃ i : Nat, i <= M /\ iv = .int .i64 i /\ kv = .int .i64 ((k + wid (l.take i) : Nat)) /\ Below w.heap.size w wr) (fun _ iv _ => M - (intOf iv).toNat)
 case atStart => exact ⟨0, Nat.zero_le _, rfl, by simp [wid], Below.refl _ _⟩
 case round =>
  obtain ⟨i, hi, rfl, rfl, hbel⟩ := hrel
  have HB := Lib.hid hbel
  clear hbel
  by_cases hlt : i < M
  ·have hlx : i < l.length := by rw [<- HM.out]; exact hlt
   obtain ⟨b, o, rfl, hb, r0, r1, r2, hC, hP⟩ := HC.out i hlx
   obtain ⟨h0, h1, h2⟩ := parts_below hP HB.out
   obtain ⟨g0, g1, g2, g3, g4, g5, g6, g7, g8, g9⟩ := hC.below hb HB.out
   clear hC hP
   have hws := HWS.out i hlx
   have hwt := HWT.out (i + 1)
   generalize l.getD i z0 = n0 at g0 g1 g2 g3 g4 g5 g6 g7 g8 g9 h0 h1 h2 hws
   obtain ⟨K, hK⟩ : ∃ K, K = k + wid (l.take i) := ⟨_, rfl⟩
   rw [<- hK] at g0 g1 g2 g3 g4 g5 g6 h0 h1 h2 ⊢
   have HK := Lib.hid (show k + wid (l.take (i + 1)) = K + widE n0 by omega)
   have hKl : K + widE n0 <= 1073741824 := by omega
   unfold widE at hKl
   have hK1 : 1 <= K := by omega
   clear hws hwt hK
   dsimp only [marksE] at g0 g1 g2 g3 g4 g5 g6 g7 g8 g9 h0 h1 h2
   rw [show ((K + 1 : Nat) : Int) = (K : Int) + 1 from by omega] at g1
   rw [show ((K + 2 : Nat) : Int) = (K : Int) + 2 from by omega] at g2
   rw [show ((K + 3 : Nat) : Int) = (K : Int) + 3 from by omega] at g3
   rw [show ((K + 4 : Nat) : Int) = (K : Int) + 4 from by omega] at g4
   rw [show ((K + 5 : Nat) : Int) = (K : Int) + 5 from by omega] at g5
   rw [show ((K + 6 : Nat) : Int) = (K : Int) + 6 from by omega] at g6
   obtain ⟨a0, d0, rfl⟩ := NiF.form h0
   have H0 := Lib.hid h0
   obtain ⟨a1, d1, rfl⟩ := AeF.form h1
   have H1 := Lib.hid h1
   obtain ⟨a2, d2, rfl⟩ := AeF.form h2
   have H2 := Lib.hid h2
   clear h0 h1 h2
   go_wp2_with fail
   first | rw [show ((K : Int) + 7) = ((K + 7 : Nat) : Int) from by omega] | skip
   refine (NiF.held_any _ _ n0.blocks (K + 7) (by omega) (by omega) H0.out).mono ?_
   rintro e w1 ⟨rfl, hbq⟩
   have HT := Lib.hid hbq
   replace HB := Lib.hid (HB.out.trans (hbq.mono HB.out.size))
   have p08 := hbq.cell (p := ⟨b, o + i * 10 + 8, none⟩) (Dk.cell_block g8)
   rw [g8] at p08
   have p09 := hbq.cell (p := ⟨b, o + i * 10 + 9, none⟩) (Dk.cell_block g9)
   rw [g9] at p09
   clear hbq
   go_wp2_with fail
   refine (AeF.held_any _ _ n0.acl (K + 7 + NiF.wid n0.blocks) (by omega) (by omega) (AeF.holds_below H1.out HT.out)).mono ?_
   rintro e w2 ⟨rfl, hbq⟩
   replace HT := Lib.hid (HT.out.trans (hbq.mono HT.out.size))
   replace HB := Lib.hid (HB.out.trans (hbq.mono HB.out.size))
   have p19 := hbq.cell (p := ⟨b, o + i * 10 + 9, none⟩) (Dk.cell_block p09)
   rw [p09] at p19
   clear hbq
   go_wp2_with fail
   refine (AeF.held_any _ _ n0.dflt (K + 7 + NiF.wid n0.blocks + AeF.wid n0.acl) (by omega) (by omega) (AeF.holds_below H2.out HT.out)).mono ?_
   rintro e w3 ⟨rfl, hbq⟩
   replace HT := Lib.hid (HT.out.trans (hbq.mono HT.out.size))
   replace HB := Lib.hid (HB.out.trans (hbq.mono HB.out.size))
   clear hbq
   go_wp2
   go_roundw
   case rel => exact ⟨i + 1, by omega, by go_num, by rw [HK.out]; unfold widE; go_num, HB.out⟩
   case measure => simp [intOf]; omega
  ·obtain rfl : i = M := by omega
   have HA := Lib.hid (show wid (l.take i) = N by rw [List.take_of_length_le (by rw [<- HM.out]; exact Nat.le_refl _), HN.out])
   go_wp2
   go_ret
   exact ⟨ret_int (by rw [HA.out]), HB.out⟩
theorem in_cell {H : Type} {enc : TypeId × Value -> H} {W : World} {fuel : Nat} {v : Value} {x : DataW H × List MemPlace} (hf : DataW.trod enc Tryz.prog W 0 (fun _ => true) true fuel 23 [v] = some x) :
  ∃ l : L, Lim l /\ Holds W v l := by
 rcases open_slice Tryz.underlying23 hf with ⟨hcs, _⟩ | ⟨a, l, c, mm, n, D, Pl, hcs, _, hl, hm, hmm, _, hi⟩
 ·simp at hcs
  subst hcs
  exact ⟨[], ⟨Nat.zero_le _, fun x hx => by cases hx⟩, none, 0, rfl, Nat.le_refl _, fun i hi => by simp at hi⟩
 ·simp at hcs
  subst hcs
  have hmc : mm = c := by simpa using hmm
  subst hmc
  have hel : ∀ i, i < l -> ∃ (y : In.L) (r0 r1 r2 : Value), (W.cell? (a.add (i * 10)) = some (.int .i64 y.kind) /\ W.cell? (a.add (i * 10 + 1)) = some (.int .i64 y.mode) /\ W.cell? (a.add (i * 10 + 2)) = some (.int .i64 y.uid) /\ W.cell? (a.add (i * 10 + 3)) = some (.int .i64 y.gid) /\ W.cell? (a.add (i * 10 + 4)) = some (.int .i64 y.links) /\ W.cell? (a.add (i * 10 + 5)) = some (.int .i64 y.size) /\ W.cell? (a.add (i * 10 + 6)) = some (.int .i64 y.tick) /\ W.cell? (a.add (i * 10 + 7)) = some (r0) /\ W.cell? (a.add (i * 10 + 8)) = some (r1) /\ W.cell? (a.add (i * 10 + 9)) = some (r2)) /\ In.Lim y /\ Parts W y r0 r1 r2 := by
   intro i hil
   obtain ⟨cs', hc, ht⟩ := hi i (by omega)
   rw [show Tryz.prog.cellsOf 111 = 10 from by kernel_rfl] at hc
   obtain ⟨_, hcl, hat⟩ := World.cells?_some hc
   obtain ⟨y, r0, r1, r2, rfl, hlim, hps⟩ := In.in_cells ht
   refine ⟨y, r0, r1, r2, ⟨?_, ?_, ?_, ?_, ?_, ?_, ?_, ?_, ?_, ?_⟩, hlim, hps⟩
   ·have := hat 0 (by omega)
    rw [Addr.add_add] at this
    exact this
   ·have := hat 1 (by omega)
    rw [Addr.add_add] at this
    exact this
   ·have := hat 2 (by omega)
    rw [Addr.add_add] at this
    exact this
   ·have := hat 3 (by omega)
    rw [Addr.add_add] at this
    exact this
   ·have := hat 4 (by omega)
    rw [Addr.add_add] at this
    exact this
   ·have := hat 5 (by omega)
    rw [Addr.add_add] at this
    exact this
   ·have := hat 6 (by omega)
    rw [Addr.add_add] at this
    exact this
   ·have := hat 7 (by omega)
    rw [Addr.add_add] at this
    exact this
   ·have := hat 8 (by omega)
    rw [Addr.add_add] at this
    exact this
   ·have := hat 9 (by omega)
    rw [Addr.add_add] at this
    exact this
  by_cases hl0 : l = 0
  ·subst hl0
   exact ⟨[], ⟨Nat.zero_le _, fun x hx => by cases hx⟩, some a, mm, rfl, Nat.zero_le _, fun i hi => by simp at hi⟩
  obtain ⟨y, _, _, _, ⟨he0, _⟩, _⟩ := hel 0 (by omega)
  have hspot : a.spot = none := by simpa [Addr.add] using World.cell?_spot he0
  have hblk : a.block < W.heap.size := by simpa [Addr.add] using Dk.cell_block he0
  obtain ⟨bk, off, spot⟩ := a
  simp only at hspot hblk
  subst hspot
  obtain ⟨f, hfs⟩ := Classical.skolem.1 (show ∀ i, ∃ y : In.L, i < l -> ∃ (r0 r1 r2 : Value), (W.cell? (Addr.add ⟨bk, off, none⟩ (i * 10)) = some (.int .i64 y.kind) /\ W.cell? (Addr.add ⟨bk, off, none⟩ (i * 10 + 1)) = some (.int .i64 y.mode) /\ W.cell? (Addr.add ⟨bk, off, none⟩ (i * 10 + 2)) = some (.int .i64 y.uid) /\ W.cell? (Addr.add ⟨bk, off, none⟩ (i * 10 + 3)) = some (.int .i64 y.gid) /\ W.cell? (Addr.add ⟨bk, off, none⟩ (i * 10 + 4)) = some (.int .i64 y.links) /\ W.cell? (Addr.add ⟨bk, off, none⟩ (i * 10 + 5)) = some (.int .i64 y.size) /\ W.cell? (Addr.add ⟨bk, off, none⟩ (i * 10 + 6)) = some (.int .i64 y.tick) /\ W.cell? (Addr.add ⟨bk, off, none⟩ (i * 10 + 7)) = some (r0) /\ W.cell? (Addr.add ⟨bk, off, none⟩ (i * 10 + 8)) = some (r1) /\ W.cell? (Addr.add ⟨bk, off, none⟩ (i * 10 + 9)) = some (r2)) /\ In.Lim y /\ Parts W y r0 r1 r2 from fun i => by
   by_cases hil : i < l
   ·obtain ⟨y, hy⟩ := hel i hil
    exact ⟨y, fun _ => hy⟩
   ·exact ⟨z0, fun h => absurd h hil⟩)
  have hlen : ((List.range l).map f).length = l := by simp
  refine ⟨(List.range l).map f, ⟨show _ <= maxLen by rw [hlen]; omega, fun x hx => by
   obtain ⟨i, hi1, rfl⟩ := List.mem_map.1 hx
   obtain ⟨_, _, _, _, hlim, _⟩ := hfs i (List.mem_range.1 hi1)
   exact hlim⟩, some ⟨bk, off, none⟩, mm, by rw [hlen], by rw [hlen]; exact hl, fun j hj => ⟨bk, off, rfl, hblk, ?_⟩⟩
  rw [hlen] at hj
  obtain ⟨r0, r1, r2, hq, _, hp⟩ := hfs j hj
  simp only [Addr.add_lit] at hq
  have e : ((List.range l).map f).getD j z0 = f j := by
   rw [List.getD_eq_getElem?_getD, List.getElem?_map, List.getElem?_range hj]; rfl
  rw [e]
  exact ⟨r0, r1, r2, hq, hp⟩
end Go.Proofs.YthppbcnejapbiaaGreatDoor.IF

-- YthppbcnejapbiaaGreatDoorFsF
/- A part. -/
namespace Go.Proofs.YthppbcnejapbiaaGreatDoor.FsF
set_option maxHeartbeats 1600000
set_option maxRecDepth 100000
open Go.ChangeShapes Go.WideShapes Go.ChangeAt Go.RowKit Go.Deep
open Foot Bx
open Strs (ret_int)
set_option linter.unusedVariables false
abbrev L := FsV.F
def Holds (w : World) (v : Value) (n : L) : Prop := ∃ r0 r1 r2 : Value, v = .agg #[.int .i64 n.tick, r0, r1, r2] /\ QF.Holds w r0 n.quotas /\ IF.Holds w r1 n.inodes /\ SF.Holds w r2 n.data
theorem holds_below {w w' : World} {v : Value} {n : L} (h : Holds w v n) (hb : Below w.heap.size w w') : Holds w' v n := by
 obtain ⟨r0, r1, r2, e, h0, h1, h2⟩ := h
 exact ⟨r0, r1, r2, e, QF.holds_below h0 hb, IF.holds_below h1 hb, SF.holds_below h2 hb⟩
theorem form {w : World} {v : Value} {n : L} (h : Holds w v n) : ∃ (c0 : Int) (c1a : Option Addr) (c1n c1c : Nat) (c2a : Option Addr) (c2n c2c : Nat) (c3a : Option Addr) (c3n c3c : Nat), v = .agg #[.int .i64 c0, .slice c1a c1n c1c, .slice c2a c2n c2c, .slice c3a c3n c3c] := by
 obtain ⟨r0, r1, r2, rfl, h0, h1, h2⟩ := h
 obtain ⟨a0, d0, rfl⟩ := QF.form h0
 obtain ⟨a1, d1, rfl⟩ := IF.form h1
 obtain ⟨a2, d2, rfl⟩ := SF.form h2
 exact ⟨_, _, _, _, _, _, _, _, _, _, rfl⟩
def Own (w : World) (base : Nat) (v : Value) (n : L) (S : List Nat) : Prop := ∃ (r0 r1 r2 : Value) (S0 S1 S2 : List Nat), v = .agg #[.int .i64 n.tick, r0, r1, r2] /\ S = S0 ++ S1 ++ S2 /\ S.Nodup /\ QF.Own w base r0 n.quotas S0 /\ IF.Own w base r1 n.inodes S1 /\ SF.Own w base r2 n.data S2
section
variable {w w' : World} {base : Nat} {v : Value} {n : L} {S T : List Nat}
theorem own_holds (h : Own w base v n S) : Holds w v n := by
 obtain ⟨r0, r1, r2, S0, S1, S2, rfl, rfl, hnd, h0, h1, h2⟩ := h
 exact ⟨r0, r1, r2, rfl, QF.own_holds h0, IF.own_holds h1, SF.own_holds h2⟩
theorem own_chg (h : Own w base v n S) (hc : Chg w w' T) (ha : Apart S T) : Own w' base v n S := by
 obtain ⟨r0, r1, r2, S0, S1, S2, rfl, rfl, hnd, h0, h1, h2⟩ := h
 simp only [apart_app] at ha
 exact ⟨r0, r1, r2, S0, S1, S2, rfl, rfl, hnd, QF.own_chg h0 hc ha.1.1, IF.own_chg h1 hc ha.1.2, SF.own_chg h2 hc ha.2⟩
theorem own_below (h : Own w base v n S) (hb : Below w.heap.size w w') : Own w' base v n S := own_chg h (Chg.of_below hb (Nat.le_refl _) []) (fun k _ hh => by cases hh)
theorem own_mono {base' : Nat} (h : Own w base v n S) (hb : base' <= base) : Own w base' v n S := by
 obtain ⟨r0, r1, r2, S0, S1, S2, rfl, rfl, hnd, h0, h1, h2⟩ := h
 exact ⟨r0, r1, r2, S0, S1, S2, rfl, rfl, hnd, QF.own_mono h0 hb, IF.own_mono h1 hb, SF.own_mono h2 hb⟩
theorem own_lies (h : Own w base v n S) : Lies S base w.heap.size := by
 obtain ⟨r0, r1, r2, S0, S1, S2, rfl, rfl, hnd, h0, h1, h2⟩ := h
 exact (((QF.own_lies h0).app (IF.own_lies h1)).app (SF.own_lies h2))
end
theorem own_form {w : World} {base : Nat} {v : Value} {n : L} {S : List Nat} (h : Own w base v n S) : ∃ (c0 : Int) (c1a : Option Addr) (c1n c1c : Nat) (c2a : Option Addr) (c2n c2c : Nat) (c3a : Option Addr) (c3n c3c : Nat), v = .agg #[.int .i64 c0, .slice c1a c1n c1c, .slice c2a c2n c2c, .slice c3a c3n c3c] := form (own_holds h)
structure Lim (n : L) : Prop where
 tick : Rg n.tick
 quotas : QF.Lim n.quotas
 inodes : IF.Lim n.inodes
 data : SF.Lim n.data
def cost (n : L) : Nat := QF.cost n.quotas + IF.cost n.inodes + SF.cost n.data
theorem le_quotas (n : L) : QF.cost n.quotas <= cost n := by unfold cost; omega
theorem le_inodes (n : L) : IF.cost n.inodes <= cost n := by unfold cost; omega
theorem le_data (n : L) : SF.cost n.data <= cost n := by unfold cost; omega
theorem sz_any (w : World) (v : Value) (n : L) (left : Nat) (hleft : left <= 1073741824) (hl : Lim n) (h : Holds w v n) :
  Calls Tryz.prog 12 #[v, .int .i64 left] w fun e w' => e = .returned (.int .i64 (costOf (cost n) left)) /\ Below w.heap.size w w' := by
 obtain ⟨r0, r1, r2, rfl, g0, g1, g2⟩ := h
 have H0 := Lib.hid g0
 have H1 := Lib.hid g1
 have H2 := Lib.hid g2
 have HL := Lib.hid hl
 have HC := Lib.hid (show cost n = QF.cost n.quotas + IF.cost n.inodes + SF.cost n.data from rfl)
 have HB := Lib.hid ((Below.refl w.heap.size w).alloc (Nat.le_refl _) (.cells #[.int .i64 n.tick, r0, r1, r2] 26))
 have HX := Lib.hid (new w #[.int .i64 n.tick, r0, r1, r2] 26)
 clear g0 g1 g2 hl
 by_cases hc0 : QF.cost n.quotas <= left
 ·obtain ⟨q0, hq0⟩ : ∃ x, x = left - QF.cost n.quotas := ⟨_, rfl⟩
  have HZ0 := Lib.hid (show costOf (QF.cost n.quotas) left = (q0 : Int) by rw [hq0]; exact cost_pos hc0)
  have hle0 : q0 <= 1073741824 := by omega
  by_cases hc1 : IF.cost n.inodes <= q0
  ·obtain ⟨q1, hq1⟩ : ∃ x, x = q0 - IF.cost n.inodes := ⟨_, rfl⟩
   have HZ1 := Lib.hid (show costOf (IF.cost n.inodes) q0 = (q1 : Int) by rw [hq1]; exact cost_pos hc1)
   have hle1 : q1 <= 1073741824 := by omega
   by_cases hc2 : SF.cost n.data <= q1
   ·obtain ⟨q2, hq2⟩ : ∃ x, x = q1 - SF.cost n.data := ⟨_, rfl⟩
    have HZ2 := Lib.hid (show costOf (SF.cost n.data) q1 = (q2 : Int) by rw [hq2]; exact cost_pos hc2)
    have hle2 : q2 <= 1073741824 := by omega
    have HV := Lib.hid (show costOf (cost n) left = (q2 : Int) by rw [cost_pos (by rw [HC.out]; omega), HC.out]; omega)
    clear hc0 hq0 hc1 hq1 hc2 hq2
    go_enter Tryz.func12, Tryz.ntmps12
    go_wp2_with fail
    refine (QF.sz_any _ r0 n.quotas left (by omega) HL.out.quotas (QF.holds_below H0.out HB.out)).mono ?_
    rintro e w1 ⟨rfl, hb⟩
    rw [HZ0.out]
    have HXN := Lib.hid (HX.out.all hb)
    replace HB := Lib.hid (HB.out.trans (hb.mono HB.out.size))
    clear hb HX
    have HX := HXN
    clear HXN
    have c0 := HX.out.cell 2
    simp only [List.getElem?_toArray, List.getElem?_cons_succ, List.getElem?_cons_zero] at c0
    go_wp2_with fail
    refine (IF.sz_any _ r1 n.inodes q0 (by omega) HL.out.inodes (IF.holds_below H1.out HB.out)).mono ?_
    rintro e w1 ⟨rfl, hb⟩
    rw [HZ1.out]
    have HXN := Lib.hid (HX.out.all hb)
    replace HB := Lib.hid (HB.out.trans (hb.mono HB.out.size))
    clear hb HX
    have HX := HXN
    clear HXN
    have c1 := HX.out.cell 3
    simp only [List.getElem?_toArray, List.getElem?_cons_succ, List.getElem?_cons_zero] at c1
    go_wp2_with fail
    refine (SF.sz_any _ r2 n.data q1 (by omega) HL.out.data (SF.holds_below H2.out HB.out)).mono ?_
    rintro e w1 ⟨rfl, hb⟩
    rw [HZ2.out]
    have HXN := Lib.hid (HX.out.all hb)
    replace HB := Lib.hid (HB.out.trans (hb.mono HB.out.size))
    clear hb HX
    have HX := HXN
    clear HXN
    go_wp2
    go_ret
    exact ⟨ret_int (by rw [HV.out]), HB.out⟩
   ·have HZ2 := Lib.hid (cost_neg hc2)
    have HV := Lib.hid (show costOf (cost n) left = -1 from cost_neg (by rw [HC.out]; omega))
    clear hc0 hc1 hc2 hq0 hq1
    go_enter Tryz.func12, Tryz.ntmps12
    go_wp2_with fail
    refine (QF.sz_any _ r0 n.quotas left (by omega) HL.out.quotas (QF.holds_below H0.out HB.out)).mono ?_
    rintro e w1 ⟨rfl, hb⟩
    rw [HZ0.out]
    have HXN := Lib.hid (HX.out.all hb)
    replace HB := Lib.hid (HB.out.trans (hb.mono HB.out.size))
    clear hb HX
    have HX := HXN
    clear HXN
    have c0 := HX.out.cell 2
    simp only [List.getElem?_toArray, List.getElem?_cons_succ, List.getElem?_cons_zero] at c0
    go_wp2_with fail
    refine (IF.sz_any _ r1 n.inodes q0 (by omega) HL.out.inodes (IF.holds_below H1.out HB.out)).mono ?_
    rintro e w1 ⟨rfl, hb⟩
    rw [HZ1.out]
    have HXN := Lib.hid (HX.out.all hb)
    replace HB := Lib.hid (HB.out.trans (hb.mono HB.out.size))
    clear hb HX
    have HX := HXN
    clear HXN
    have c1 := HX.out.cell 3
    simp only [List.getElem?_toArray, List.getElem?_cons_succ, List.getElem?_cons_zero] at c1
    go_wp2_with fail
    refine (SF.sz_any _ r2 n.data q1 (by omega) HL.out.data (SF.holds_below H2.out HB.out)).mono ?_
    rintro e w1 ⟨rfl, hb⟩
    rw [HZ2.out]
    have HXN := Lib.hid (HX.out.all hb)
    replace HB := Lib.hid (HB.out.trans (hb.mono HB.out.size))
    clear hb HX
    have HX := HXN
    clear HXN
    go_wp2
    go_ret
    exact ⟨ret_int (by rw [HV.out]), HB.out⟩
  ·have HZ1 := Lib.hid (cost_neg hc1)
   have HV := Lib.hid (show costOf (cost n) left = -1 from cost_neg (by rw [HC.out]; omega))
   clear hc0 hc1 hq0
   go_enter Tryz.func12, Tryz.ntmps12
   go_wp2_with fail
   refine (QF.sz_any _ r0 n.quotas left (by omega) HL.out.quotas (QF.holds_below H0.out HB.out)).mono ?_
   rintro e w1 ⟨rfl, hb⟩
   rw [HZ0.out]
   have HXN := Lib.hid (HX.out.all hb)
   replace HB := Lib.hid (HB.out.trans (hb.mono HB.out.size))
   clear hb HX
   have HX := HXN
   clear HXN
   have c0 := HX.out.cell 2
   simp only [List.getElem?_toArray, List.getElem?_cons_succ, List.getElem?_cons_zero] at c0
   go_wp2_with fail
   refine (IF.sz_any _ r1 n.inodes q0 (by omega) HL.out.inodes (IF.holds_below H1.out HB.out)).mono ?_
   rintro e w1 ⟨rfl, hb⟩
   rw [HZ1.out]
   have HXN := Lib.hid (HX.out.all hb)
   replace HB := Lib.hid (HB.out.trans (hb.mono HB.out.size))
   clear hb HX
   have HX := HXN
   clear HXN
   go_wp2
   go_ret
   exact ⟨ret_int (by rw [HV.out]), HB.out⟩
 ·have HZ0 := Lib.hid (cost_neg hc0)
  have HV := Lib.hid (show costOf (cost n) left = -1 from cost_neg (by rw [HC.out]; omega))
  clear hc0
  go_enter Tryz.func12, Tryz.ntmps12
  go_wp2_with fail
  refine (QF.sz_any _ r0 n.quotas left (by omega) HL.out.quotas (QF.holds_below H0.out HB.out)).mono ?_
  rintro e w1 ⟨rfl, hb⟩
  rw [HZ0.out]
  have HXN := Lib.hid (HX.out.all hb)
  replace HB := Lib.hid (HB.out.trans (hb.mono HB.out.size))
  clear hb HX
  have HX := HXN
  clear HXN
  go_wp2
  go_ret
  exact ⟨ret_int (by rw [HV.out]), HB.out⟩
theorem to_any (w : World) (v : Value) (n : L) (hc : cost n <= 1073741824) (h : Holds w v n) :
  Calls Tryz.prog 14 #[v] w fun e w' => ∃ v' S, e = .returned v' /\ Own w' w.heap.size v' n S /\ Below w.heap.size w w' := by
 obtain ⟨r0, r1, r2, rfl, g0, g1, g2⟩ := h
 have H0 := Lib.hid g0
 have H1 := Lib.hid g1
 have H2 := Lib.hid g2
 have hcc : QF.cost n.quotas + IF.cost n.inodes + SF.cost n.data <= 1073741824 := hc
 clear g0 g1 g2 hc
 go_enter Tryz.func14, Tryz.ntmps14
 go_wp2_with fail
 have hb0 := (((Below.refl w.heap.size w).alloc (Nat.le_refl _) (.cells #[.int .i64 n.tick, r0, r1, r2] 26)).alloc (by simp) (.cells #[.int .i64 0, .slice none 0 0, .slice none 0 0, .slice none 0 0] 33)).alloc (by simp; omega) (.cells #[.int .i64 n.tick, .slice none 0 0, .slice none 0 0, .slice none 0 0] 33)
 have hA := ((new w #[.int .i64 n.tick, r0, r1, r2] 26).alloc (.cells #[.int .i64 0, .slice none 0 0, .slice none 0 0, .slice none 0 0] 33)).alloc (.cells #[.int .i64 n.tick, .slice none 0 0, .slice none 0 0, .slice none 0 0] 33)
 have hR := (new_at (w.alloc (.cells #[.int .i64 n.tick, r0, r1, r2] 26)) #[.int .i64 0, .slice none 0 0, .slice none 0 0, .slice none 0 0] 33 (w.heap.size + 1) (by simp)).alloc (.cells #[.int .i64 n.tick, .slice none 0 0, .slice none 0 0, .slice none 0 0] 33)
 have hO := new_at ((w.alloc (.cells #[.int .i64 n.tick, r0, r1, r2] 26)).alloc (.cells #[.int .i64 0, .slice none 0 0, .slice none 0 0, .slice none 0 0] 33)) #[.int .i64 n.tick, .slice none 0 0, .slice none 0 0, .slice none 0 0] 33 (w.heap.size + 1 + 1) (by simp)
 generalize hW0 : ((w.alloc (.cells #[.int .i64 n.tick, r0, r1, r2] 26)).alloc (.cells #[.int .i64 0, .slice none 0 0, .slice none 0 0, .slice none 0 0] 33)).alloc (.cells #[.int .i64 n.tick, .slice none 0 0, .slice none 0 0, .slice none 0 0] 33) = w0 at hb0 hA hR hO ⊢
 have hsz : w0.heap.size = w.heap.size + 1 + 1 + 1 := by rw [<- hW0]; simp
 have hs0 := Nat.le_of_eq hsz.symm
 clear hW0 hsz
 have HB := Lib.hid hb0
 have HA := Lib.hid hA
 have HR := Lib.hid hR
 have HQ := Lib.hid hO
 clear hb0 hA hR hO
 refine (QF.to_any _ r0 n.quotas (by omega) (QF.holds_below H0.out HB.out)).mono ?_
 rintro e w1 ⟨y0, S0, rfl, hown, hb⟩
 obtain ⟨a0, d0, rfl⟩ := QF.own_form hown
 have hs1 := hb.size
 replace HA := Lib.hid (HA.out.all hb)
 replace HR := Lib.hid (HR.out.all hb)
 replace HQ := Lib.hid (HQ.out.all hb)
 replace HB := Lib.hid (HB.out.trans (hb.mono HB.out.size))
 have hlow0 := QF.own_lies hown
 have HO0 := Lib.hid hown
 have HL0 := Lib.hid hlow0
 clear hown hb hlow0
 have hq0 : w1.cell? ⟨w.heap.size + 1 + 1, 1, none⟩ = some (.slice none 0 0) := HQ.out.cell 1
 have hf0 := HQ.out.free 1
 have hB2 := HB.out.setCell (p := ⟨w.heap.size + 1 + 1, 1, none⟩) (by simp; omega) (.slice a0 n.quotas.length d0)
 have hA2 := HA.out.far (p := ⟨w.heap.size + 1 + 1, 1, none⟩) (by simp; omega) (.slice a0 n.quotas.length d0)
 have hR2 := HR.out.far (p := ⟨w.heap.size + 1 + 1, 1, none⟩) (by simp) (.slice a0 n.quotas.length d0)
 have hQ2 : Bk _ _ #[.int .i64 n.tick, .slice a0 n.quotas.length d0, .slice none 0 0, .slice none 0 0] _ := HQ.out.put 1 (.slice a0 n.quotas.length d0)
 have hO20 := QF.own_set HO0.out (a := ⟨w.heap.size + 1 + 1, 1, none⟩) (by simp; omega) (.slice a0 n.quotas.length d0)
 have hn0 := hA2.cell 2
 simp only [List.getElem?_toArray, List.getElem?_cons_succ, List.getElem?_cons_zero] at hn0
 replace HB := Lib.hid hB2
 replace HA := Lib.hid hA2
 replace HR := Lib.hid hR2
 replace HQ := Lib.hid hQ2
 replace HO0 := Lib.hid hO20
 clear hB2 hA2 hR2 hQ2 hO20
 go_wp2_with fail
 clear hq0 hf0 hn0
 refine (IF.to_any _ r1 n.inodes (by omega) (IF.holds_below H1.out HB.out)).mono ?_
 rintro e w2 ⟨y1, S1, rfl, hown, hb⟩
 obtain ⟨a1, d1, rfl⟩ := IF.own_form hown
 have hs2 := hb.size
 simp only [World.size_setCell] at hs2
 replace HA := Lib.hid (HA.out.all hb)
 replace HR := Lib.hid (HR.out.all hb)
 replace HQ := Lib.hid (HQ.out.all hb)
 replace HB := Lib.hid (HB.out.trans (hb.mono HB.out.size))
 replace HO0 := Lib.hid (QF.own_below HO0.out hb)
 have hlow1 := IF.own_lies hown
 simp only [World.size_setCell] at hown hlow1
 have HO1 := Lib.hid hown
 have HL1 := Lib.hid hlow1
 clear hown hb hlow1
 have hq1 : w2.cell? ⟨w.heap.size + 1 + 1, 2, none⟩ = some (.slice none 0 0) := HQ.out.cell 2
 have hf1 := HQ.out.free 2
 have hB2 := HB.out.setCell (p := ⟨w.heap.size + 1 + 1, 2, none⟩) (by simp; omega) (.slice a1 n.inodes.length d1)
 have hA2 := HA.out.far (p := ⟨w.heap.size + 1 + 1, 2, none⟩) (by simp; omega) (.slice a1 n.inodes.length d1)
 have hR2 := HR.out.far (p := ⟨w.heap.size + 1 + 1, 2, none⟩) (by simp) (.slice a1 n.inodes.length d1)
 have hQ2 : Bk _ _ #[.int .i64 n.tick, .slice a0 n.quotas.length d0, .slice a1 n.inodes.length d1, .slice none 0 0] _ := HQ.out.put 2 (.slice a1 n.inodes.length d1)
 have hO20 := QF.own_set HO0.out (a := ⟨w.heap.size + 1 + 1, 2, none⟩) (by simp; omega) (.slice a1 n.inodes.length d1)
 have hO21 := IF.own_set HO1.out (a := ⟨w.heap.size + 1 + 1, 2, none⟩) (by simp; omega) (.slice a1 n.inodes.length d1)
 have hn1 := hA2.cell 3
 simp only [List.getElem?_toArray, List.getElem?_cons_succ, List.getElem?_cons_zero] at hn1
 replace HB := Lib.hid hB2
 replace HA := Lib.hid hA2
 replace HR := Lib.hid hR2
 replace HQ := Lib.hid hQ2
 replace HO0 := Lib.hid hO20
 replace HO1 := Lib.hid hO21
 clear hB2 hA2 hR2 hQ2 hO20 hO21
 go_wp2_with fail
 clear hq1 hf1 hn1
 refine (SF.to_any _ r2 n.data (by omega) (SF.holds_below H2.out HB.out)).mono ?_
 rintro e w3 ⟨y2, S2, rfl, hown, hb⟩
 obtain ⟨a2, d2, rfl⟩ := SF.own_form hown
 have hs3 := hb.size
 simp only [World.size_setCell] at hs3
 replace HA := Lib.hid (HA.out.all hb)
 replace HR := Lib.hid (HR.out.all hb)
 replace HQ := Lib.hid (HQ.out.all hb)
 replace HB := Lib.hid (HB.out.trans (hb.mono HB.out.size))
 replace HO0 := Lib.hid (QF.own_below HO0.out hb)
 replace HO1 := Lib.hid (IF.own_below HO1.out hb)
 have hlow2 := SF.own_lies hown
 simp only [World.size_setCell] at hown hlow2
 have HO2 := Lib.hid hown
 have HL2 := Lib.hid hlow2
 clear hown hb hlow2
 have hq2 : w3.cell? ⟨w.heap.size + 1 + 1, 3, none⟩ = some (.slice none 0 0) := HQ.out.cell 3
 have hf2 := HQ.out.free 3
 have rz := HR.out.cell
 have rc0 := rz 0
 have rf0 := HR.out.free 0
 have qc0 := HQ.out.cell 0
 have rc1 := rz 1
 have rf1 := HR.out.free 1
 have qc1 := HQ.out.cell 1
 have rc2 := rz 2
 have rf2 := HR.out.free 2
 have qc2 := HQ.out.cell 2
 have rc3 := rz 3
 have rf3 := HR.out.free 3
 clear rz
 dsimp at rc0 rc1 rc2 rc3 qc0 qc1 qc2
 go_wp2_with fail
 have hF0 := HR.out.far (p := ⟨w.heap.size + 1 + 1, 3, none⟩) (by simp) (.slice a2 n.data.length d2)
 have hF1 : Bk _ _ #[.int .i64 n.tick, .slice none 0 0, .slice none 0 0, .slice none 0 0] _ := hF0.put 0 (.int .i64 n.tick)
 clear hF0
 have hF2 : Bk _ _ #[.int .i64 n.tick, .slice a0 n.quotas.length d0, .slice none 0 0, .slice none 0 0] _ := hF1.put 1 (.slice a0 n.quotas.length d0)
 clear hF1
 have hF3 : Bk _ _ #[.int .i64 n.tick, .slice a0 n.quotas.length d0, .slice a1 n.inodes.length d1, .slice none 0 0] _ := hF2.put 2 (.slice a1 n.inodes.length d1)
 clear hF2
 have hF4 : Bk _ _ #[.int .i64 n.tick, .slice a0 n.quotas.length d0, .slice a1 n.inodes.length d1, .slice a2 n.data.length d2] _ := hF3.put 3 (.slice a2 n.data.length d2)
 clear hF3
 have hF := hF4
 clear hF4
 have hB4 := (((((HB.out.setCell (p := ⟨w.heap.size + 1 + 1, 3, none⟩) (by first | (simp; done) | (simp; omega)) (.slice a2 n.data.length d2)).setCell (p := ⟨w.heap.size + 1, 0, none⟩) (by first | (simp; done) | (simp; omega)) (.int .i64 n.tick)).setCell (p := ⟨w.heap.size + 1, 1, none⟩) (by first | (simp; done) | (simp; omega)) (.slice a0 n.quotas.length d0)).setCell (p := ⟨w.heap.size + 1, 2, none⟩) (by first | (simp; done) | (simp; omega)) (.slice a1 n.inodes.length d1)).setCell (p := ⟨w.heap.size + 1, 3, none⟩) (by first | (simp; done) | (simp; omega)) (.slice a2 n.data.length d2))
 have hO40 := (QF.own_set (QF.own_set (QF.own_set (QF.own_set (QF.own_set HO0.out (a := ⟨w.heap.size + 1 + 1, 3, none⟩) (by first | (simp; done) | (simp; omega)) (.slice a2 n.data.length d2)) (a := ⟨w.heap.size + 1, 0, none⟩) (by first | (simp; done) | (simp; omega)) (.int .i64 n.tick)) (a := ⟨w.heap.size + 1, 1, none⟩) (by first | (simp; done) | (simp; omega)) (.slice a0 n.quotas.length d0)) (a := ⟨w.heap.size + 1, 2, none⟩) (by first | (simp; done) | (simp; omega)) (.slice a1 n.inodes.length d1)) (a := ⟨w.heap.size + 1, 3, none⟩) (by first | (simp; done) | (simp; omega)) (.slice a2 n.data.length d2))
 have hO41 := (IF.own_set (IF.own_set (IF.own_set (IF.own_set (IF.own_set HO1.out (a := ⟨w.heap.size + 1 + 1, 3, none⟩) (by first | (simp; done) | (simp; omega)) (.slice a2 n.data.length d2)) (a := ⟨w.heap.size + 1, 0, none⟩) (by first | (simp; done) | (simp; omega)) (.int .i64 n.tick)) (a := ⟨w.heap.size + 1, 1, none⟩) (by first | (simp; done) | (simp; omega)) (.slice a0 n.quotas.length d0)) (a := ⟨w.heap.size + 1, 2, none⟩) (by first | (simp; done) | (simp; omega)) (.slice a1 n.inodes.length d1)) (a := ⟨w.heap.size + 1, 3, none⟩) (by first | (simp; done) | (simp; omega)) (.slice a2 n.data.length d2))
 have hO42 := (SF.own_set (SF.own_set (SF.own_set (SF.own_set (SF.own_set HO2.out (a := ⟨w.heap.size + 1 + 1, 3, none⟩) (by first | (simp; done) | (simp; omega)) (.slice a2 n.data.length d2)) (a := ⟨w.heap.size + 1, 0, none⟩) (by first | (simp; done) | (simp; omega)) (.int .i64 n.tick)) (a := ⟨w.heap.size + 1, 1, none⟩) (by first | (simp; done) | (simp; omega)) (.slice a0 n.quotas.length d0)) (a := ⟨w.heap.size + 1, 2, none⟩) (by first | (simp; done) | (simp; omega)) (.slice a1 n.inodes.length d1)) (a := ⟨w.heap.size + 1, 3, none⟩) (by first | (simp; done) | (simp; omega)) (.slice a2 n.data.length d2))
 generalize (((((w3.setCell ⟨w.heap.size + 1 + 1, 3, none⟩ (.slice a2 n.data.length d2)).setCell ⟨w.heap.size + 1, 0, none⟩ (.int .i64 n.tick)).setCell ⟨w.heap.size + 1, 1, none⟩ (.slice a0 n.quotas.length d0)).setCell ⟨w.heap.size + 1, 2, none⟩ (.slice a1 n.inodes.length d1)).setCell ⟨w.heap.size + 1, 3, none⟩ (.slice a2 n.data.length d2)) = w9 at hF hB4 hO40 hO41 hO42 ⊢
 have fc0 : w9.cell? ⟨w.heap.size + 1, 0, none⟩ = some (.int .i64 n.tick) := hF.cell 0
 have fc1 : w9.cell? ⟨w.heap.size + 1, 1, none⟩ = some (.slice a0 n.quotas.length d0) := hF.cell 1
 have fc2 : w9.cell? ⟨w.heap.size + 1, 2, none⟩ = some (.slice a1 n.inodes.length d1) := hF.cell 2
 have fc3 : w9.cell? ⟨w.heap.size + 1, 3, none⟩ = some (.slice a2 n.data.length d2) := hF.cell 3
 have hnd : (S0 ++ S1 ++ S2).Nodup := (nodup_app (nodup_app (QF.own_nodup hO40) (IF.own_nodup hO41) (Lies.apart HL0.out HL1.out (by omega))) (SF.own_nodup hO42) (apart_app.2 ⟨(Lies.apart HL0.out HL2.out (by omega)), Lies.apart HL1.out HL2.out (by omega)⟩))
 exact bodyPost_ret (v := .agg #[.int .i64 n.tick, (.slice a0 n.quotas.length d0), (.slice a1 n.inodes.length d1), (.slice a2 n.data.length d2)]) (by simp [results, Tryz.results14, go_sem, fc0, fc1, fc2, fc3]) rfl ⟨_, _, rfl, ⟨_, _, _, S0, S1, S2, rfl, rfl, hnd, QF.own_mono hO40 (by omega), IF.own_mono hO41 (by omega), SF.own_mono hO42 (by omega)⟩, hB4⟩
theorem eq_any (w : World) (va vb : Value) (n : L) (hc : cost n <= 1073741824) (h : Holds w va n) (h' : Holds w vb n) :
  Calls Tryz.prog 16 #[va, vb] w fun e w' => e = .returned (.bool true) /\ Below w.heap.size w w' := by
 obtain ⟨x0, x1, x2, rfl, g0, g1, g2⟩ := h
 obtain ⟨y0, y1, y2, rfl, k0, k1, k2⟩ := h'
 have H0 := Lib.hid g0
 have K0 := Lib.hid k0
 have H1 := Lib.hid g1
 have K1 := Lib.hid k1
 have H2 := Lib.hid g2
 have K2 := Lib.hid k2
 have hcc : QF.cost n.quotas + IF.cost n.inodes + SF.cost n.data <= 1073741824 := hc
 clear g0 k0 g1 k1 g2 k2 hc
 have HB := Lib.hid (((Below.refl w.heap.size w).alloc (Nat.le_refl _) (.cells #[.int .i64 n.tick, x0, x1, x2] 33)).alloc (by simp) (.cells #[.int .i64 n.tick, y0, y1, y2] 33))
 have HX := Lib.hid ((new w #[.int .i64 n.tick, x0, x1, x2] 33).alloc (.cells #[.int .i64 n.tick, y0, y1, y2] 33))
 have HY := Lib.hid (new_at (w.alloc (.cells #[.int .i64 n.tick, x0, x1, x2] 33)) #[.int .i64 n.tick, y0, y1, y2] 33 (w.heap.size + 1) (by simp))
 go_enter Tryz.func16, Tryz.ntmps16
 go_wp2_with fail
 refine (QF.eq_any _ x0 y0 n.quotas (by omega) (QF.holds_below H0.out HB.out) (QF.holds_below K0.out HB.out)).mono ?_
 rintro e w1 ⟨rfl, hb⟩
 replace HX := Lib.hid (HX.out.all hb)
 replace HY := Lib.hid (HY.out.all hb)
 replace HB := Lib.hid (HB.out.trans (hb.mono HB.out.size))
 clear hb
 have cx02 := HX.out.cell 2
 have cy02 := HY.out.cell 2
 have cx03 := HX.out.cell 3
 have cy03 := HY.out.cell 3
 dsimp at cx02 cy02 cx03 cy03
 go_wp2_with fail
 refine (IF.eq_any _ x1 y1 n.inodes (by omega) (IF.holds_below H1.out HB.out) (IF.holds_below K1.out HB.out)).mono ?_
 rintro e w2 ⟨rfl, hb⟩
 replace HX := Lib.hid (HX.out.all hb)
 replace HY := Lib.hid (HY.out.all hb)
 replace HB := Lib.hid (HB.out.trans (hb.mono HB.out.size))
 clear hb
 have cx13 := HX.out.cell 3
 have cy13 := HY.out.cell 3
 dsimp at cx13 cy13
 go_wp2_with fail
 refine (SF.eq_any _ x2 y2 n.data (by omega) (SF.holds_below H2.out HB.out) (SF.holds_below K2.out HB.out)).mono ?_
 rintro e w3 ⟨rfl, hb⟩
 replace HX := Lib.hid (HX.out.all hb)
 replace HY := Lib.hid (HY.out.all hb)
 replace HB := Lib.hid (HB.out.trans (hb.mono HB.out.size))
 clear hb
 go_wp2
 go_ret
 exact ⟨rfl, HB.out⟩
def marks (k : Nat) (n : L) : L := { n with quotas := QF.marks (k) n.quotas, inodes := IF.marks (k + QF.wid n.quotas) n.inodes, data := SF.marks (k + QF.wid n.quotas + IF.wid n.inodes) n.data }
def wid (n : L) : Nat := QF.wid n.quotas + IF.wid n.inodes + SF.wid n.data
theorem wid_le {n : L} (h : cost n <= 1048576) : 1 + wid n <= 1073741824 := by
 unfold cost at h
 unfold wid
 have h0 : QF.wid n.quotas <= 3 * QF.cost n.quotas := QF.wid_cost _
 have h1 : IF.wid n.inodes <= 10 * IF.cost n.inodes := IF.wid_cost _
 have h2 : SF.wid n.data <= 3 * SF.cost n.data := SF.wid_cost _
 omega
theorem wid_cost (n : L) : wid n <= 10 * cost n := by
 unfold cost wid
 have h0 : QF.wid n.quotas <= 3 * QF.cost n.quotas := QF.wid_cost _
 have h1 : IF.wid n.inodes <= 10 * IF.cost n.inodes := IF.wid_cost _
 have h2 : SF.wid n.data <= 3 * SF.cost n.data := SF.wid_cost _
 omega
theorem mark_any (w : World) (base : Nat) (v : Value) (n : L) (S : List Nat) (k : Nat) (hk : 1 <= k) (hn : k + wid n <= 1073741824) (h : Own w base v n S) :
  Calls Tryz.prog 20 #[v, .int .i64 k] w fun e w' => e = .returned (.int .i64 (k + wid n : Nat)) /\ Own w' base v (marks k n) S /\ Chg w w' S := by
 have hlies := own_lies h
 obtain ⟨r0, r1, r2, S0, S1, S2, rfl, rfl, hnd, h0, h1, h2⟩ := h
 unfold wid at hn
 have HB0 := (Below.refl w.heap.size w).alloc (Nat.le_refl _) (.cells #[.int .i64 n.tick, r0, r1, r2] 33)
 have HC := Lib.hid (Chg.of_below HB0 (Nat.le_refl _) (S0 ++ S1 ++ S2))
 have HX := Lib.hid (new w #[.int .i64 n.tick, r0, r1, r2] 33)
 have hxn : w.heap.size ∉ S0 ++ S1 ++ S2 := fun hh => by have := (hlies _ hh).2; omega
 simp only [List.mem_append, not_or] at hxn
 have HXN := Lib.hid hxn
 have HND := Lib.hid hnd
 have HO0 := Lib.hid (QF.own_below h0 HB0)
 have HO1 := Lib.hid (IF.own_below h1 HB0)
 have HO2 := Lib.hid (SF.own_below h2 HB0)
 clear hlies hxn hnd HB0 h0 h1 h2
 go_enter Tryz.func20, Tryz.ntmps20
 go_wp2_with fail
 refine (QF.mark_any _ base r0 n.quotas S0 (k) (by omega) (by omega) HO0.out).mono ?_
 rintro e w1 ⟨rfl, hown, hc⟩
 replace HX := Lib.hid (show Bk w1 w.heap.size _ _ from (hc.block w.heap.size HX.out.lt HXN.out.1.1).trans HX.out)
 replace HO1 := Lib.hid (IF.own_chg HO1.out hc ((nodup_parts (nodup_parts HND.out).1).2.2).symm)
 replace HO2 := Lib.hid (SF.own_chg HO2.out hc ((apart_app.1 (nodup_parts HND.out).2.2).1).symm)
 replace HO0 := Lib.hid hown
 replace HC := Lib.hid (HC.out.trans (hc.more (fun b hb => by simp [hb])))
 clear hown hc
 have c0 := HX.out.cell 2
 simp only [List.getElem?_toArray, List.getElem?_cons_succ, List.getElem?_cons_zero] at c0
 go_wp2_with fail
 try rw [show (((k : Nat) : Int) + (QF.wid n.quotas : Int)) = ((k + QF.wid n.quotas : Nat) : Int) from by omega]
 refine (IF.mark_any _ base r1 n.inodes S1 (k + QF.wid n.quotas) (by omega) (by omega) HO1.out).mono ?_
 rintro e w2 ⟨rfl, hown, hc⟩
 replace HX := Lib.hid (show Bk w2 w.heap.size _ _ from (hc.block w.heap.size HX.out.lt HXN.out.1.2).trans HX.out)
 replace HO0 := Lib.hid (QF.own_chg HO0.out hc (nodup_parts (nodup_parts HND.out).1).2.2)
 replace HO2 := Lib.hid (SF.own_chg HO2.out hc ((apart_app.1 (nodup_parts HND.out).2.2).2).symm)
 replace HO1 := Lib.hid hown
 replace HC := Lib.hid (HC.out.trans (hc.more (fun b hb => by simp [hb])))
 clear hown hc
 have c1 := HX.out.cell 3
 simp only [List.getElem?_toArray, List.getElem?_cons_succ, List.getElem?_cons_zero] at c1
 go_wp2_with fail
 try rw [show (((k + QF.wid n.quotas : Nat) : Int) + (IF.wid n.inodes : Int)) = ((k + QF.wid n.quotas + IF.wid n.inodes : Nat) : Int) from by omega]
 refine (SF.mark_any _ base r2 n.data S2 (k + QF.wid n.quotas + IF.wid n.inodes) (by omega) (by omega) HO2.out).mono ?_
 rintro e w3 ⟨rfl, hown, hc⟩
 replace HX := Lib.hid (show Bk w3 w.heap.size _ _ from (hc.block w.heap.size HX.out.lt HXN.out.2).trans HX.out)
 replace HO0 := Lib.hid (QF.own_chg HO0.out hc (apart_app.1 (nodup_parts HND.out).2.2).1)
 replace HO1 := Lib.hid (IF.own_chg HO1.out hc (apart_app.1 (nodup_parts HND.out).2.2).2)
 replace HO2 := Lib.hid hown
 replace HC := Lib.hid (HC.out.trans (hc.more (fun b hb => by simp [hb])))
 clear hown hc
 go_wp2
 go_ret
 exact ⟨ret_int (by unfold wid; omega), ⟨r0, r1, r2, S0, S1, S2, rfl, rfl, HND.out, HO0.out, HO1.out, HO2.out⟩, HC.out⟩
theorem held_any (w : World) (v : Value) (n : L) (k : Nat) (hk : 1 <= k) (hn : k + wid n <= 1073741824) (h : Holds w v (marks k n)) :
  Calls Tryz.prog 25 #[v, .int .i64 k] w fun e w' => e = .returned (.int .i64 (k + wid n : Nat)) /\ Below w.heap.size w w' := by
 obtain ⟨r0, r1, r2, rfl, g0, g1, g2⟩ := h
 dsimp only [marks] at g0 g1 g2 ⊢
 have H0 := Lib.hid g0
 have H1 := Lib.hid g1
 have H2 := Lib.hid g2
 unfold wid at hn
 have HB := Lib.hid ((Below.refl w.heap.size w).alloc (Nat.le_refl _) (.cells #[.int .i64 n.tick, r0, r1, r2] 33))
 have HX := Lib.hid (new w #[.int .i64 n.tick, r0, r1, r2] 33)
 clear g0 g1 g2
 go_enter Tryz.func25, Tryz.ntmps25
 go_wp2_with fail
 refine (QF.held_any _ r0 n.quotas (k) (by omega) (by omega) (QF.holds_below H0.out HB.out)).mono ?_
 rintro e w1 ⟨rfl, hb⟩
 replace HX := Lib.hid (HX.out.all hb)
 replace HB := Lib.hid (HB.out.trans (hb.mono HB.out.size))
 clear hb
 have c0 := HX.out.cell 2
 simp only [List.getElem?_toArray, List.getElem?_cons_succ, List.getElem?_cons_zero] at c0
 go_wp2_with fail
 try rw [show (((k : Nat) : Int) + (QF.wid n.quotas : Int)) = ((k + QF.wid n.quotas : Nat) : Int) from by omega]
 refine (IF.held_any _ r1 n.inodes (k + QF.wid n.quotas) (by omega) (by omega) (IF.holds_below H1.out HB.out)).mono ?_
 rintro e w2 ⟨rfl, hb⟩
 replace HX := Lib.hid (HX.out.all hb)
 replace HB := Lib.hid (HB.out.trans (hb.mono HB.out.size))
 clear hb
 have c1 := HX.out.cell 3
 simp only [List.getElem?_toArray, List.getElem?_cons_succ, List.getElem?_cons_zero] at c1
 go_wp2_with fail
 try rw [show (((k + QF.wid n.quotas : Nat) : Int) + (IF.wid n.inodes : Int)) = ((k + QF.wid n.quotas + IF.wid n.inodes : Nat) : Int) from by omega]
 refine (SF.held_any _ r2 n.data (k + QF.wid n.quotas + IF.wid n.inodes) (by omega) (by omega) (SF.holds_below H2.out HB.out)).mono ?_
 rintro e w3 ⟨rfl, hb⟩
 replace HX := Lib.hid (HX.out.all hb)
 replace HB := Lib.hid (HB.out.trans (hb.mono HB.out.size))
 clear hb
 go_wp2
 go_ret
 exact ⟨ret_int (by unfold wid; omega), HB.out⟩
theorem in_cells {H : Type} {enc : TypeId × Value -> H} {W : World} {fuel : Nat} {cs : List Value} {x : DataW H × List MemPlace} (hf : DataW.trod enc Tryz.prog W 0 (fun _ => true) true fuel 26 cs = some x) :
  ∃ (n : L) (r0 r1 r2 : Value), cs = [.int .i64 n.tick, r0, r1, r2] /\ Lim n /\ QF.Holds W r0 n.quotas /\ IF.Holds W r1 n.inodes /\ SF.Holds W r2 n.data := by
 obtain ⟨xs, fu, _, rfl, hl, hlen, hfs⟩ := DataW.trod_struct Tryz.underlying26 hf
 rw [show Tryz.prog.cellsOf 26 = 4 from by kernel_rfl] at hl
 obtain ⟨c0, c1, c2, c3, rfl⟩ : ∃ c0 c1 c2 c3, cs = [c0, c1, c2, c3] := by
  match cs, hl with
  | [c0, c1, c2, c3], _ => exact ⟨_, _, _, _, rfl⟩
 obtain ⟨z0, z1, z2, z3, rfl⟩ : ∃ z0 z1 z2 z3, xs = [z0, z1, z2, z3] := by
  match xs, hlen with
  | [c0, c1, c2, c3], _ => exact ⟨_, _, _, _, rfl⟩
 have hc_2 : Tryz.prog.cellsOf 23 = 1 := by kernel_rfl
 have hc_1 : Tryz.prog.cellsOf 22 = 1 := by kernel_rfl
 have hc_3 : Tryz.prog.cellsOf 24 = 1 := by kernel_rfl
 have hc_0 : Tryz.prog.cellsOf 3 = 1 := by kernel_rfl
 have e0 : DataW.trod enc Tryz.prog W 0 (fun _ => true) true fu 3 [c0] = some z0 := by simpa [hc_0] using hfs 0 _ rfl
 have e1 : DataW.trod enc Tryz.prog W 0 (fun _ => true) true fu 22 [c1] = some z1 := by simpa [hc_1] using hfs 1 _ rfl
 have e2 : DataW.trod enc Tryz.prog W 0 (fun _ => true) true fu 23 [c2] = some z2 := by simpa [hc_2] using hfs 2 _ rfl
 have e3 : DataW.trod enc Tryz.prog W 0 (fun _ => true) true fu 24 [c3] = some z3 := by simpa [hc_3] using hfs 3 _ rfl
 obtain ⟨i0, hi0, _, m0⟩ := DataW.trod_int Tryz.underlying3 e0
 obtain rfl : c0 = .int .i64 i0 := by simpa using hi0
 obtain ⟨l1, m1, h1⟩ := QF.in_cell e1
 obtain ⟨l2, m2, h2⟩ := IF.in_cell e2
 obtain ⟨l3, m3, h3⟩ := SF.in_cell e3
 exact ⟨⟨i0, l1, l2, l3⟩, c1, c2, c3, rfl, ⟨rg_of m0, m1, m2, m3⟩, h1, h2, h3⟩
theorem in_any {H : Type} {enc : TypeId × Value -> H} {W : World} {b0 : Nat} {v : Value} {x : DataW H} {p : List MemPlace} (hv : Value.okWide Tryz.prog W .any b0 26 v) (h : DataW.Trod enc Tryz.prog W 0 (fun _ => true) true 26 v x p) :
  ∃ n : L, Lim n /\ Holds W v n := by
 obtain ⟨cs, rfl, hsz⟩ := okWide_struct Tryz.underlying26 hv
 obtain ⟨fuel, hf⟩ := h
 obtain ⟨n, r0, r1, r2, hcs, hl, hr⟩ := in_cells hf
 have : cs = #[.int .i64 n.tick, r0, r1, r2] := Array.toList_inj.1 (by simpa [Value.cells] using hcs)
 subst this
 exact ⟨n, hl, r0, r1, r2, rfl, hr⟩
end Go.Proofs.YthppbcnejapbiaaGreatDoor.FsF
