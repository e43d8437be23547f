/- The uniform face of a value of type FS: what it holds, owns, costs; its size, a copy, comparing two that read alike, marking one that the call owns, asking for the marks; what an argument of that type holds. Conditions: as each theorem types them. -/
import Derived.Test.YtafmpllkehbmeaaGreatDoorFsV
import Derived.Test.YtafmpllkehbmeaaGreatDoorQF
import Derived.Test.YtafmpllkehbmeaaGreatDoorSF
import Derived.Test.YtafmpllkehbmeaaGreatDoorIF
namespace Go.Proofs.YtafmpllkehbmeaaGreatDoor.FsF
open Go.ChangeShapes Go.WideShapes Go.ChangeAt Go.RowKit Go.Deep
open Foot Bx
open Strs (ret_int)
set_option linter.unusedVariables false

abbrev L := FsV.F
/-- The value, its fields in their cells. -/
def agg (n : L) (r0 r1 r2 : Value) : Value := .agg #[.int .i64 n.tick, r0, r1, r2]
def Holds (w : World) (v : Value) (n : L) : Prop := ∃ r0 r1 r2 : Value, v = .agg #[.int .i64 n.tick, r0, r1, r2] ∧ QF.Holds w r0 n.quotas ∧ IF.Holds w r1 n.inodes ∧ SF.Holds w r2 n.data
theorem holds_below {w w' : World} {v : Value} {n : L} (h : Holds w v n) (hb : Below w.heap.size w w') : Holds w' v n := by
  obtain ⟨r0, r1, r2, e, h0, h1, h2⟩ := h
  exact ⟨r0, r1, r2, e, QF.holds_below h0 hb, IF.holds_below h1 hb, SF.holds_below h2 hb⟩
/-- Its cells. -/
theorem form {w : World} {v : Value} {n : L} (h : Holds w v n) : ∃ (c0 : Int) (c1a : Option Addr) (c1n c1c : Nat) (c2a : Option Addr) (c2n c2c : Nat) (c3a : Option Addr) (c3n c3c : Nat), v = .agg #[.int .i64 c0, .slice c1a c1n c1c, .slice c2a c2n c2c, .slice c3a c3n c3c] := by
  obtain ⟨r0, r1, r2, rfl, h0, h1, h2⟩ := h
  obtain ⟨a0, d0, rfl⟩ := QF.form h0
  obtain ⟨a1, d1, rfl⟩ := IF.form h1
  obtain ⟨a2, d2, rfl⟩ := SF.form h2
  exact ⟨_, _, _, _, _, _, _, _, _, _, rfl⟩
/-- The call owns the value's slices: their blocks, in order, are S. -/
def Own (w : World) (base : Nat) (v : Value) (n : L) (S : List Nat) : Prop := ∃ (r0 r1 r2 : Value) (S0 S1 S2 : List Nat), v = .agg #[.int .i64 n.tick, r0, r1, r2] ∧ S = S0 ++ S1 ++ S2 ∧ S.Nodup ∧ QF.Own w base r0 n.quotas S0 ∧ IF.Own w base r1 n.inodes S1 ∧ SF.Own w base r2 n.data S2
section
variable {w w' : World} {base : Nat} {v : Value} {n : L} {S T : List Nat}
theorem own_holds (h : Own w base v n S) : Holds w v n := by
  obtain ⟨r0, r1, r2, S0, S1, S2, rfl, rfl, hnd, h0, h1, h2⟩ := h
  exact ⟨r0, r1, r2, rfl, QF.own_holds h0, IF.own_holds h1, SF.own_holds h2⟩
theorem own_chg (h : Own w base v n S) (hc : Chg w w' T) (ha : Apart S T) : Own w' base v n S := by
  obtain ⟨r0, r1, r2, S0, S1, S2, rfl, rfl, hnd, h0, h1, h2⟩ := h
  simp only [apart_app] at ha
  exact ⟨r0, r1, r2, S0, S1, S2, rfl, rfl, hnd, QF.own_chg h0 hc ha.1.1, IF.own_chg h1 hc ha.1.2, SF.own_chg h2 hc ha.2⟩
theorem own_below (h : Own w base v n S) (hb : Below w.heap.size w w') : Own w' base v n S := own_chg h (Chg.of_below hb (Nat.le_refl _) []) (fun k _ hh => by cases hh)
theorem own_mono {base' : Nat} (h : Own w base v n S) (hb : base' ≤ base) : Own w base' v n S := by
  obtain ⟨r0, r1, r2, S0, S1, S2, rfl, rfl, hnd, h0, h1, h2⟩ := h
  exact ⟨r0, r1, r2, S0, S1, S2, rfl, rfl, hnd, QF.own_mono h0 hb, IF.own_mono h1 hb, SF.own_mono h2 hb⟩
theorem own_lies (h : Own w base v n S) : Lies S base w.heap.size := by
  obtain ⟨r0, r1, r2, S0, S1, S2, rfl, rfl, hnd, h0, h1, h2⟩ := h
  exact (((QF.own_lies h0).app (IF.own_lies h1)).app (SF.own_lies h2))
theorem own_nodup (h : Own w base v n S) : S.Nodup := by
  obtain ⟨r0, r1, r2, S0, S1, S2, rfl, rfl, hnd, h0, h1, h2⟩ := h
  exact hnd
theorem own_set (h : Own w base v n S) {a : Addr} (ha : a.block < base) (u : Value) : Own (w.setCell a u) base v n S := by
  obtain ⟨r0, r1, r2, S0, S1, S2, rfl, rfl, hnd, h0, h1, h2⟩ := h
  exact ⟨r0, r1, r2, S0, S1, S2, rfl, rfl, hnd, QF.own_set h0 ha u, IF.own_set h1 ha u, SF.own_set h2 ha u⟩
end
theorem own_form {w : World} {base : Nat} {v : Value} {n : L} {S : List Nat} (h : Own w base v n S) : ∃ (c0 : Int) (c1a : Option Addr) (c1n c1c : Nat) (c2a : Option Addr) (c2n c2c : Nat) (c3a : Option Addr) (c3n c3c : Nat), v = .agg #[.int .i64 c0, .slice c1a c1n c1c, .slice c2a c2n c2c, .slice c3a c3n c3c] := form (own_holds h)
/-- Its numbers are ints of 64 bits, its slices no longer than memory. -/
structure Lim (n : L) : Prop where
  tick : Rg n.tick
  quotas : QF.Lim n.quotas
  inodes : IF.Lim n.inodes
  data : SF.Lim n.data
def cost (n : L) : Nat := QF.cost n.quotas + IF.cost n.inodes + SF.cost n.data
theorem le_quotas (n : L) : QF.cost n.quotas ≤ cost n := by unfold cost; omega
theorem le_inodes (n : L) : IF.cost n.inodes ≤ cost n := by unfold cost; omega
theorem le_data (n : L) : SF.cost n.data ≤ cost n := by unfold cost; omega

set_option maxRecDepth 100000 in
set_option maxHeartbeats 1600000 in
theorem sz_any (w : World) (v : Value) (n : L) (left : Nat) (hleft : left ≤ 1073741824) (hl : Lim n) (h : Holds w v n) :
    Calls Tryz.prog 35 #[v, .int .i64 left] w fun e w' => e = .returned (.int .i64 (costOf (cost n) left)) ∧ Below w.heap.size w w' := by
  obtain ⟨r0, r1, r2, rfl, g0, g1, g2⟩ := h
  have H0 := Lib.hid g0
  have H1 := Lib.hid g1
  have H2 := Lib.hid g2
  have HL := Lib.hid hl
  have HC := Lib.hid (show cost n = QF.cost n.quotas + IF.cost n.inodes + SF.cost n.data from rfl)
  have HB := Lib.hid ((Below.refl w.heap.size w).alloc (Nat.le_refl _) (.cells #[.int .i64 n.tick, r0, r1, r2] 59))
  have HX := Lib.hid (new w #[.int .i64 n.tick, r0, r1, r2] 59)
  clear g0 g1 g2 hl
  by_cases hc0 : QF.cost n.quotas ≤ left
  · obtain ⟨q0, hq0⟩ : ∃ x, x = left - QF.cost n.quotas := ⟨_, rfl⟩
    have HZ0 := Lib.hid (show costOf (QF.cost n.quotas) left = (q0 : Int) by rw [hq0]; exact cost_pos hc0)
    have hle0 : q0 ≤ 1073741824 := by omega
    by_cases hc1 : IF.cost n.inodes ≤ q0
    · obtain ⟨q1, hq1⟩ : ∃ x, x = q0 - IF.cost n.inodes := ⟨_, rfl⟩
      have HZ1 := Lib.hid (show costOf (IF.cost n.inodes) q0 = (q1 : Int) by rw [hq1]; exact cost_pos hc1)
      have hle1 : q1 ≤ 1073741824 := by omega
      by_cases hc2 : SF.cost n.data ≤ q1
      · obtain ⟨q2, hq2⟩ : ∃ x, x = q1 - SF.cost n.data := ⟨_, rfl⟩
        have HZ2 := Lib.hid (show costOf (SF.cost n.data) q1 = (q2 : Int) by rw [hq2]; exact cost_pos hc2)
        have hle2 : q2 ≤ 1073741824 := by omega
        have HV := Lib.hid (show costOf (cost n) left = (q2 : Int) by rw [cost_pos (by rw [HC.out]; omega), HC.out]; omega)
        clear hc0 hq0 hc1 hq1 hc2 hq2
        go_enter Tryz.func35, Tryz.ntmps35
        go_wp2_with fail
        refine (QF.sz_any _ r0 n.quotas left (by omega) HL.out.quotas (QF.holds_below H0.out HB.out)).mono ?_
        rintro e w1 ⟨rfl, hb⟩
        rw [HZ0.out]
        have HXN := Lib.hid (HX.out.all hb)
        replace HB := Lib.hid (HB.out.trans (hb.mono HB.out.size))
        clear hb HX
        have HX := HXN
        clear HXN
        have c0 := HX.out.cell 2
        simp only [List.getElem?_toArray, List.getElem?_cons_succ, List.getElem?_cons_zero] at c0
        go_wp2_with fail
        refine (IF.sz_any _ r1 n.inodes q0 (by omega) HL.out.inodes (IF.holds_below H1.out HB.out)).mono ?_
        rintro e w1 ⟨rfl, hb⟩
        rw [HZ1.out]
        have HXN := Lib.hid (HX.out.all hb)
        replace HB := Lib.hid (HB.out.trans (hb.mono HB.out.size))
        clear hb HX
        have HX := HXN
        clear HXN
        have c1 := HX.out.cell 3
        simp only [List.getElem?_toArray, List.getElem?_cons_succ, List.getElem?_cons_zero] at c1
        go_wp2_with fail
        refine (SF.sz_any _ r2 n.data q1 (by omega) HL.out.data (SF.holds_below H2.out HB.out)).mono ?_
        rintro e w1 ⟨rfl, hb⟩
        rw [HZ2.out]
        have HXN := Lib.hid (HX.out.all hb)
        replace HB := Lib.hid (HB.out.trans (hb.mono HB.out.size))
        clear hb HX
        have HX := HXN
        clear HXN
        go_wp2
        go_ret
        exact ⟨ret_int (by rw [HV.out]), HB.out⟩
      · have HZ2 := Lib.hid (cost_neg hc2)
        have HV := Lib.hid (show costOf (cost n) left = -1 from cost_neg (by rw [HC.out]; omega))
        clear hc0 hc1 hc2 hq0 hq1
        go_enter Tryz.func35, Tryz.ntmps35
        go_wp2_with fail
        refine (QF.sz_any _ r0 n.quotas left (by omega) HL.out.quotas (QF.holds_below H0.out HB.out)).mono ?_
        rintro e w1 ⟨rfl, hb⟩
        rw [HZ0.out]
        have HXN := Lib.hid (HX.out.all hb)
        replace HB := Lib.hid (HB.out.trans (hb.mono HB.out.size))
        clear hb HX
        have HX := HXN
        clear HXN
        have c0 := HX.out.cell 2
        simp only [List.getElem?_toArray, List.getElem?_cons_succ, List.getElem?_cons_zero] at c0
        go_wp2_with fail
        refine (IF.sz_any _ r1 n.inodes q0 (by omega) HL.out.inodes (IF.holds_below H1.out HB.out)).mono ?_
        rintro e w1 ⟨rfl, hb⟩
        rw [HZ1.out]
        have HXN := Lib.hid (HX.out.all hb)
        replace HB := Lib.hid (HB.out.trans (hb.mono HB.out.size))
        clear hb HX
        have HX := HXN
        clear HXN
        have c1 := HX.out.cell 3
        simp only [List.getElem?_toArray, List.getElem?_cons_succ, List.getElem?_cons_zero] at c1
        go_wp2_with fail
        refine (SF.sz_any _ r2 n.data q1 (by omega) HL.out.data (SF.holds_below H2.out HB.out)).mono ?_
        rintro e w1 ⟨rfl, hb⟩
        rw [HZ2.out]
        have HXN := Lib.hid (HX.out.all hb)
        replace HB := Lib.hid (HB.out.trans (hb.mono HB.out.size))
        clear hb HX
        have HX := HXN
        clear HXN
        go_wp2
        go_ret
        exact ⟨ret_int (by rw [HV.out]), HB.out⟩
    · have HZ1 := Lib.hid (cost_neg hc1)
      have HV := Lib.hid (show costOf (cost n) left = -1 from cost_neg (by rw [HC.out]; omega))
      clear hc0 hc1 hq0
      go_enter Tryz.func35, Tryz.ntmps35
      go_wp2_with fail
      refine (QF.sz_any _ r0 n.quotas left (by omega) HL.out.quotas (QF.holds_below H0.out HB.out)).mono ?_
      rintro e w1 ⟨rfl, hb⟩
      rw [HZ0.out]
      have HXN := Lib.hid (HX.out.all hb)
      replace HB := Lib.hid (HB.out.trans (hb.mono HB.out.size))
      clear hb HX
      have HX := HXN
      clear HXN
      have c0 := HX.out.cell 2
      simp only [List.getElem?_toArray, List.getElem?_cons_succ, List.getElem?_cons_zero] at c0
      go_wp2_with fail
      refine (IF.sz_any _ r1 n.inodes q0 (by omega) HL.out.inodes (IF.holds_below H1.out HB.out)).mono ?_
      rintro e w1 ⟨rfl, hb⟩
      rw [HZ1.out]
      have HXN := Lib.hid (HX.out.all hb)
      replace HB := Lib.hid (HB.out.trans (hb.mono HB.out.size))
      clear hb HX
      have HX := HXN
      clear HXN
      go_wp2
      go_ret
      exact ⟨ret_int (by rw [HV.out]), HB.out⟩
  · have HZ0 := Lib.hid (cost_neg hc0)
    have HV := Lib.hid (show costOf (cost n) left = -1 from cost_neg (by rw [HC.out]; omega))
    clear hc0
    go_enter Tryz.func35, Tryz.ntmps35
    go_wp2_with fail
    refine (QF.sz_any _ r0 n.quotas left (by omega) HL.out.quotas (QF.holds_below H0.out HB.out)).mono ?_
    rintro e w1 ⟨rfl, hb⟩
    rw [HZ0.out]
    have HXN := Lib.hid (HX.out.all hb)
    replace HB := Lib.hid (HB.out.trans (hb.mono HB.out.size))
    clear hb HX
    have HX := HXN
    clear HXN
    go_wp2
    go_ret
    exact ⟨ret_int (by rw [HV.out]), HB.out⟩

set_option maxRecDepth 100000 in
set_option maxHeartbeats 1600000 in
/-- A copy, in memory of the call's own. -/
theorem to_any (w : World) (v : Value) (n : L) (hc : cost n ≤ 1073741824) (h : Holds w v n) :
    Calls Tryz.prog 37 #[v] w fun e w' => ∃ v' S, e = .returned v' ∧ Own w' w.heap.size v' n S ∧ Below w.heap.size w w' := by
  obtain ⟨r0, r1, r2, rfl, g0, g1, g2⟩ := h
  have H0 := Lib.hid g0
  have H1 := Lib.hid g1
  have H2 := Lib.hid g2
  have hcc : QF.cost n.quotas + IF.cost n.inodes + SF.cost n.data ≤ 1073741824 := hc
  clear g0 g1 g2 hc
  go_enter Tryz.func37, Tryz.ntmps37
  go_wp2_with fail
  have hb0 := (((Below.refl w.heap.size w).alloc (Nat.le_refl _) (.cells #[.int .i64 n.tick, r0, r1, r2] 59)).alloc (by simp) (.cells #[.int .i64 0, .slice none 0 0, .slice none 0 0, .slice none 0 0] 27)).alloc (by simp; omega) (.cells #[.int .i64 n.tick, .slice none 0 0, .slice none 0 0, .slice none 0 0] 27)
  have hA := ((new w #[.int .i64 n.tick, r0, r1, r2] 59).alloc (.cells #[.int .i64 0, .slice none 0 0, .slice none 0 0, .slice none 0 0] 27)).alloc (.cells #[.int .i64 n.tick, .slice none 0 0, .slice none 0 0, .slice none 0 0] 27)
  have hR := (new_at (w.alloc (.cells #[.int .i64 n.tick, r0, r1, r2] 59)) #[.int .i64 0, .slice none 0 0, .slice none 0 0, .slice none 0 0] 27 (w.heap.size + 1) (by simp)).alloc (.cells #[.int .i64 n.tick, .slice none 0 0, .slice none 0 0, .slice none 0 0] 27)
  have hO := new_at ((w.alloc (.cells #[.int .i64 n.tick, r0, r1, r2] 59)).alloc (.cells #[.int .i64 0, .slice none 0 0, .slice none 0 0, .slice none 0 0] 27)) #[.int .i64 n.tick, .slice none 0 0, .slice none 0 0, .slice none 0 0] 27 (w.heap.size + 1 + 1) (by simp)
  generalize hW0 : ((w.alloc (.cells #[.int .i64 n.tick, r0, r1, r2] 59)).alloc (.cells #[.int .i64 0, .slice none 0 0, .slice none 0 0, .slice none 0 0] 27)).alloc (.cells #[.int .i64 n.tick, .slice none 0 0, .slice none 0 0, .slice none 0 0] 27) = w0 at hb0 hA hR hO ⊢
  have hsz : w0.heap.size = w.heap.size + 1 + 1 + 1 := by rw [← hW0]; simp
  have hs0 := Nat.le_of_eq hsz.symm
  clear hW0 hsz
  have HB := Lib.hid hb0
  have HA := Lib.hid hA
  have HR := Lib.hid hR
  have HQ := Lib.hid hO
  clear hb0 hA hR hO
  refine (QF.to_any _ r0 n.quotas (by omega) (QF.holds_below H0.out HB.out)).mono ?_
  rintro e w1 ⟨y0, S0, rfl, hown, hb⟩
  obtain ⟨a0, d0, rfl⟩ := QF.own_form hown
  have hs1 := hb.size
  replace HA := Lib.hid (HA.out.all hb)
  replace HR := Lib.hid (HR.out.all hb)
  replace HQ := Lib.hid (HQ.out.all hb)
  replace HB := Lib.hid (HB.out.trans (hb.mono HB.out.size))
  have hlow0 := QF.own_lies hown
  have HO0 := Lib.hid hown
  have HL0 := Lib.hid hlow0
  clear hown hb hlow0
  have hq0 : w1.cell? ⟨w.heap.size + 1 + 1, 1, none⟩ = some (.slice none 0 0) := HQ.out.cell 1
  have hf0 := HQ.out.free 1
  have hB2 := HB.out.setCell (p := ⟨w.heap.size + 1 + 1, 1, none⟩) (by simp; omega) (.slice a0 n.quotas.length d0)
  have hA2 := HA.out.far (p := ⟨w.heap.size + 1 + 1, 1, none⟩) (by simp; omega) (.slice a0 n.quotas.length d0)
  have hR2 := HR.out.far (p := ⟨w.heap.size + 1 + 1, 1, none⟩) (by simp) (.slice a0 n.quotas.length d0)
  have hQ2 : Bk _ _ #[.int .i64 n.tick, .slice a0 n.quotas.length d0, .slice none 0 0, .slice none 0 0] _ := HQ.out.put 1 (.slice a0 n.quotas.length d0)
  have hO20 := QF.own_set HO0.out (a := ⟨w.heap.size + 1 + 1, 1, none⟩) (by simp; omega) (.slice a0 n.quotas.length d0)
  have hn0 := hA2.cell 2
  simp only [List.getElem?_toArray, List.getElem?_cons_succ, List.getElem?_cons_zero] at hn0
  replace HB := Lib.hid hB2
  replace HA := Lib.hid hA2
  replace HR := Lib.hid hR2
  replace HQ := Lib.hid hQ2
  replace HO0 := Lib.hid hO20
  clear hB2 hA2 hR2 hQ2 hO20
  go_wp2_with fail
  clear hq0 hf0 hn0
  refine (IF.to_any _ r1 n.inodes (by omega) (IF.holds_below H1.out HB.out)).mono ?_
  rintro e w2 ⟨y1, S1, rfl, hown, hb⟩
  obtain ⟨a1, d1, rfl⟩ := IF.own_form hown
  have hs2 := hb.size
  simp only [World.size_setCell] at hs2
  replace HA := Lib.hid (HA.out.all hb)
  replace HR := Lib.hid (HR.out.all hb)
  replace HQ := Lib.hid (HQ.out.all hb)
  replace HB := Lib.hid (HB.out.trans (hb.mono HB.out.size))
  replace HO0 := Lib.hid (QF.own_below HO0.out hb)
  have hlow1 := IF.own_lies hown
  simp only [World.size_setCell] at hown hlow1
  have HO1 := Lib.hid hown
  have HL1 := Lib.hid hlow1
  clear hown hb hlow1
  have hq1 : w2.cell? ⟨w.heap.size + 1 + 1, 2, none⟩ = some (.slice none 0 0) := HQ.out.cell 2
  have hf1 := HQ.out.free 2
  have hB2 := HB.out.setCell (p := ⟨w.heap.size + 1 + 1, 2, none⟩) (by simp; omega) (.slice a1 n.inodes.length d1)
  have hA2 := HA.out.far (p := ⟨w.heap.size + 1 + 1, 2, none⟩) (by simp; omega) (.slice a1 n.inodes.length d1)
  have hR2 := HR.out.far (p := ⟨w.heap.size + 1 + 1, 2, none⟩) (by simp) (.slice a1 n.inodes.length d1)
  have hQ2 : Bk _ _ #[.int .i64 n.tick, .slice a0 n.quotas.length d0, .slice a1 n.inodes.length d1, .slice none 0 0] _ := HQ.out.put 2 (.slice a1 n.inodes.length d1)
  have hO20 := QF.own_set HO0.out (a := ⟨w.heap.size + 1 + 1, 2, none⟩) (by simp; omega) (.slice a1 n.inodes.length d1)
  have hO21 := IF.own_set HO1.out (a := ⟨w.heap.size + 1 + 1, 2, none⟩) (by simp; omega) (.slice a1 n.inodes.length d1)
  have hn1 := hA2.cell 3
  simp only [List.getElem?_toArray, List.getElem?_cons_succ, List.getElem?_cons_zero] at hn1
  replace HB := Lib.hid hB2
  replace HA := Lib.hid hA2
  replace HR := Lib.hid hR2
  replace HQ := Lib.hid hQ2
  replace HO0 := Lib.hid hO20
  replace HO1 := Lib.hid hO21
  clear hB2 hA2 hR2 hQ2 hO20 hO21
  go_wp2_with fail
  clear hq1 hf1 hn1
  refine (SF.to_any _ r2 n.data (by omega) (SF.holds_below H2.out HB.out)).mono ?_
  rintro e w3 ⟨y2, S2, rfl, hown, hb⟩
  obtain ⟨a2, d2, rfl⟩ := SF.own_form hown
  have hs3 := hb.size
  simp only [World.size_setCell] at hs3
  replace HA := Lib.hid (HA.out.all hb)
  replace HR := Lib.hid (HR.out.all hb)
  replace HQ := Lib.hid (HQ.out.all hb)
  replace HB := Lib.hid (HB.out.trans (hb.mono HB.out.size))
  replace HO0 := Lib.hid (QF.own_below HO0.out hb)
  replace HO1 := Lib.hid (IF.own_below HO1.out hb)
  have hlow2 := SF.own_lies hown
  simp only [World.size_setCell] at hown hlow2
  have HO2 := Lib.hid hown
  have HL2 := Lib.hid hlow2
  clear hown hb hlow2
  have hq2 : w3.cell? ⟨w.heap.size + 1 + 1, 3, none⟩ = some (.slice none 0 0) := HQ.out.cell 3
  have hf2 := HQ.out.free 3
  have rz := HR.out.cell
  have rc0 := rz 0
  have rf0 := HR.out.free 0
  have qc0 := HQ.out.cell 0
  have rc1 := rz 1
  have rf1 := HR.out.free 1
  have qc1 := HQ.out.cell 1
  have rc2 := rz 2
  have rf2 := HR.out.free 2
  have qc2 := HQ.out.cell 2
  have rc3 := rz 3
  have rf3 := HR.out.free 3
  clear rz
  dsimp at rc0 rc1 rc2 rc3 qc0 qc1 qc2
  go_wp2_with fail
  have hF0 := HR.out.far (p := ⟨w.heap.size + 1 + 1, 3, none⟩) (by simp) (.slice a2 n.data.length d2)
  have hF1 : Bk _ _ #[.int .i64 n.tick, .slice none 0 0, .slice none 0 0, .slice none 0 0] _ := hF0.put 0 (.int .i64 n.tick)
  clear hF0
  have hF2 : Bk _ _ #[.int .i64 n.tick, .slice a0 n.quotas.length d0, .slice none 0 0, .slice none 0 0] _ := hF1.put 1 (.slice a0 n.quotas.length d0)
  clear hF1
  have hF3 : Bk _ _ #[.int .i64 n.tick, .slice a0 n.quotas.length d0, .slice a1 n.inodes.length d1, .slice none 0 0] _ := hF2.put 2 (.slice a1 n.inodes.length d1)
  clear hF2
  have hF4 : Bk _ _ #[.int .i64 n.tick, .slice a0 n.quotas.length d0, .slice a1 n.inodes.length d1, .slice a2 n.data.length d2] _ := hF3.put 3 (.slice a2 n.data.length d2)
  clear hF3
  have hF := hF4
  clear hF4
  have hB4 := (((((HB.out.setCell (p := ⟨w.heap.size + 1 + 1, 3, none⟩) (by first | (simp; done) | (simp; omega)) (.slice a2 n.data.length d2)).setCell (p := ⟨w.heap.size + 1, 0, none⟩) (by first | (simp; done) | (simp; omega)) (.int .i64 n.tick)).setCell (p := ⟨w.heap.size + 1, 1, none⟩) (by first | (simp; done) | (simp; omega)) (.slice a0 n.quotas.length d0)).setCell (p := ⟨w.heap.size + 1, 2, none⟩) (by first | (simp; done) | (simp; omega)) (.slice a1 n.inodes.length d1)).setCell (p := ⟨w.heap.size + 1, 3, none⟩) (by first | (simp; done) | (simp; omega)) (.slice a2 n.data.length d2))
  have hO40 := (QF.own_set (QF.own_set (QF.own_set (QF.own_set (QF.own_set HO0.out (a := ⟨w.heap.size + 1 + 1, 3, none⟩) (by first | (simp; done) | (simp; omega)) (.slice a2 n.data.length d2)) (a := ⟨w.heap.size + 1, 0, none⟩) (by first | (simp; done) | (simp; omega)) (.int .i64 n.tick)) (a := ⟨w.heap.size + 1, 1, none⟩) (by first | (simp; done) | (simp; omega)) (.slice a0 n.quotas.length d0)) (a := ⟨w.heap.size + 1, 2, none⟩) (by first | (simp; done) | (simp; omega)) (.slice a1 n.inodes.length d1)) (a := ⟨w.heap.size + 1, 3, none⟩) (by first | (simp; done) | (simp; omega)) (.slice a2 n.data.length d2))
  have hO41 := (IF.own_set (IF.own_set (IF.own_set (IF.own_set (IF.own_set HO1.out (a := ⟨w.heap.size + 1 + 1, 3, none⟩) (by first | (simp; done) | (simp; omega)) (.slice a2 n.data.length d2)) (a := ⟨w.heap.size + 1, 0, none⟩) (by first | (simp; done) | (simp; omega)) (.int .i64 n.tick)) (a := ⟨w.heap.size + 1, 1, none⟩) (by first | (simp; done) | (simp; omega)) (.slice a0 n.quotas.length d0)) (a := ⟨w.heap.size + 1, 2, none⟩) (by first | (simp; done) | (simp; omega)) (.slice a1 n.inodes.length d1)) (a := ⟨w.heap.size + 1, 3, none⟩) (by first | (simp; done) | (simp; omega)) (.slice a2 n.data.length d2))
  have hO42 := (SF.own_set (SF.own_set (SF.own_set (SF.own_set (SF.own_set HO2.out (a := ⟨w.heap.size + 1 + 1, 3, none⟩) (by first | (simp; done) | (simp; omega)) (.slice a2 n.data.length d2)) (a := ⟨w.heap.size + 1, 0, none⟩) (by first | (simp; done) | (simp; omega)) (.int .i64 n.tick)) (a := ⟨w.heap.size + 1, 1, none⟩) (by first | (simp; done) | (simp; omega)) (.slice a0 n.quotas.length d0)) (a := ⟨w.heap.size + 1, 2, none⟩) (by first | (simp; done) | (simp; omega)) (.slice a1 n.inodes.length d1)) (a := ⟨w.heap.size + 1, 3, none⟩) (by first | (simp; done) | (simp; omega)) (.slice a2 n.data.length d2))
  generalize (((((w3.setCell ⟨w.heap.size + 1 + 1, 3, none⟩ (.slice a2 n.data.length d2)).setCell ⟨w.heap.size + 1, 0, none⟩ (.int .i64 n.tick)).setCell ⟨w.heap.size + 1, 1, none⟩ (.slice a0 n.quotas.length d0)).setCell ⟨w.heap.size + 1, 2, none⟩ (.slice a1 n.inodes.length d1)).setCell ⟨w.heap.size + 1, 3, none⟩ (.slice a2 n.data.length d2)) = w9 at hF hB4 hO40 hO41 hO42 ⊢
  have fc0 : w9.cell? ⟨w.heap.size + 1, 0, none⟩ = some (.int .i64 n.tick) := hF.cell 0
  have fc1 : w9.cell? ⟨w.heap.size + 1, 1, none⟩ = some (.slice a0 n.quotas.length d0) := hF.cell 1
  have fc2 : w9.cell? ⟨w.heap.size + 1, 2, none⟩ = some (.slice a1 n.inodes.length d1) := hF.cell 2
  have fc3 : w9.cell? ⟨w.heap.size + 1, 3, none⟩ = some (.slice a2 n.data.length d2) := hF.cell 3
  have hnd : (S0 ++ S1 ++ S2).Nodup := (nodup_app (nodup_app (QF.own_nodup hO40) (IF.own_nodup hO41) (Lies.apart HL0.out HL1.out (by omega))) (SF.own_nodup hO42) (apart_app.2 ⟨(Lies.apart HL0.out HL2.out (by omega)), Lies.apart HL1.out HL2.out (by omega)⟩))
  exact bodyPost_ret (v := .agg #[.int .i64 n.tick, (.slice a0 n.quotas.length d0), (.slice a1 n.inodes.length d1), (.slice a2 n.data.length d2)]) (by simp [results, Tryz.results37, go_sem, fc0, fc1, fc2, fc3]) rfl ⟨_, _, rfl, ⟨_, _, _, S0, S1, S2, rfl, rfl, hnd, QF.own_mono hO40 (by omega), IF.own_mono hO41 (by omega), SF.own_mono hO42 (by omega)⟩, hB4⟩

set_option maxRecDepth 100000 in
set_option maxHeartbeats 1600000 in
theorem eq_any (w : World) (va vb : Value) (n : L) (hc : cost n ≤ 1073741824) (h : Holds w va n) (h' : Holds w vb n) :
    Calls Tryz.prog 38 #[va, vb] w fun e w' => e = .returned (.bool true) ∧ Below w.heap.size w w' := by
  obtain ⟨x0, x1, x2, rfl, g0, g1, g2⟩ := h
  obtain ⟨y0, y1, y2, rfl, k0, k1, k2⟩ := h'
  have H0 := Lib.hid g0
  have K0 := Lib.hid k0
  have H1 := Lib.hid g1
  have K1 := Lib.hid k1
  have H2 := Lib.hid g2
  have K2 := Lib.hid k2
  have hcc : QF.cost n.quotas + IF.cost n.inodes + SF.cost n.data ≤ 1073741824 := hc
  clear g0 k0 g1 k1 g2 k2 hc
  have HB := Lib.hid (((Below.refl w.heap.size w).alloc (Nat.le_refl _) (.cells #[.int .i64 n.tick, x0, x1, x2] 27)).alloc (by simp) (.cells #[.int .i64 n.tick, y0, y1, y2] 27))
  have HX := Lib.hid ((new w #[.int .i64 n.tick, x0, x1, x2] 27).alloc (.cells #[.int .i64 n.tick, y0, y1, y2] 27))
  have HY := Lib.hid (new_at (w.alloc (.cells #[.int .i64 n.tick, x0, x1, x2] 27)) #[.int .i64 n.tick, y0, y1, y2] 27 (w.heap.size + 1) (by simp))
  go_enter Tryz.func38, Tryz.ntmps38
  go_wp2_with fail
  refine (QF.eq_any _ x0 y0 n.quotas (by omega) (QF.holds_below H0.out HB.out) (QF.holds_below K0.out HB.out)).mono ?_
  rintro e w1 ⟨rfl, hb⟩
  replace HX := Lib.hid (HX.out.all hb)
  replace HY := Lib.hid (HY.out.all hb)
  replace HB := Lib.hid (HB.out.trans (hb.mono HB.out.size))
  clear hb
  have cx02 := HX.out.cell 2
  have cy02 := HY.out.cell 2
  have cx03 := HX.out.cell 3
  have cy03 := HY.out.cell 3
  dsimp at cx02 cy02 cx03 cy03
  go_wp2_with fail
  refine (IF.eq_any _ x1 y1 n.inodes (by omega) (IF.holds_below H1.out HB.out) (IF.holds_below K1.out HB.out)).mono ?_
  rintro e w2 ⟨rfl, hb⟩
  replace HX := Lib.hid (HX.out.all hb)
  replace HY := Lib.hid (HY.out.all hb)
  replace HB := Lib.hid (HB.out.trans (hb.mono HB.out.size))
  clear hb
  have cx13 := HX.out.cell 3
  have cy13 := HY.out.cell 3
  dsimp at cx13 cy13
  go_wp2_with fail
  refine (SF.eq_any _ x2 y2 n.data (by omega) (SF.holds_below H2.out HB.out) (SF.holds_below K2.out HB.out)).mono ?_
  rintro e w3 ⟨rfl, hb⟩
  replace HX := Lib.hid (HX.out.all hb)
  replace HY := Lib.hid (HY.out.all hb)
  replace HB := Lib.hid (HB.out.trans (hb.mono HB.out.size))
  clear hb
  go_wp2
  go_ret
  exact ⟨rfl, HB.out⟩

def marks (k : Nat) (n : L) : L := { n with quotas := QF.marks (k) n.quotas, inodes := IF.marks (k + QF.wid n.quotas) n.inodes, data := SF.marks (k + QF.wid n.quotas + IF.wid n.inodes) n.data }
def wid (n : L) : Nat := QF.wid n.quotas + IF.wid n.inodes + SF.wid n.data
theorem wid_le {n : L} (h : cost n ≤ 1048576) : 1 + wid n ≤ 1073741824 := by
  unfold cost at h
  unfold wid
  have h0 : QF.wid n.quotas ≤ 3 * QF.cost n.quotas := QF.wid_cost _
  have h1 : IF.wid n.inodes ≤ 10 * IF.cost n.inodes := IF.wid_cost _
  have h2 : SF.wid n.data ≤ 3 * SF.cost n.data := SF.wid_cost _
  omega
theorem wid_cost (n : L) : wid n ≤ 10 * cost n := by
  unfold cost wid
  have h0 : QF.wid n.quotas ≤ 3 * QF.cost n.quotas := QF.wid_cost _
  have h1 : IF.wid n.inodes ≤ 10 * IF.cost n.inodes := IF.wid_cost _
  have h2 : SF.wid n.data ≤ 3 * SF.cost n.data := SF.wid_cost _
  omega
set_option maxRecDepth 100000 in
set_option maxHeartbeats 1600000 in
theorem mark_any (w : World) (base : Nat) (v : Value) (n : L) (S : List Nat) (k : Nat) (hk : 1 ≤ k) (hn : k + wid n ≤ 1073741824) (h : Own w base v n S) :
    Calls Tryz.prog 39 #[v, .int .i64 k] w fun e w' => e = .returned (.int .i64 (k + wid n : Nat)) ∧ Own w' base v (marks k n) S ∧ Chg w w' S := by
  have hlies := own_lies h
  obtain ⟨r0, r1, r2, S0, S1, S2, rfl, rfl, hnd, h0, h1, h2⟩ := h
  unfold wid at hn
  have HB0 := (Below.refl w.heap.size w).alloc (Nat.le_refl _) (.cells #[.int .i64 n.tick, r0, r1, r2] 27)
  have HC := Lib.hid (Chg.of_below HB0 (Nat.le_refl _) (S0 ++ S1 ++ S2))
  have HX := Lib.hid (new w #[.int .i64 n.tick, r0, r1, r2] 27)
  have hxn : w.heap.size ∉ S0 ++ S1 ++ S2 := fun hh => by have := (hlies _ hh).2; omega
  simp only [List.mem_append, not_or] at hxn
  have HXN := Lib.hid hxn
  have HND := Lib.hid hnd
  have HO0 := Lib.hid (QF.own_below h0 HB0)
  have HO1 := Lib.hid (IF.own_below h1 HB0)
  have HO2 := Lib.hid (SF.own_below h2 HB0)
  clear hlies hxn hnd HB0 h0 h1 h2
  go_enter Tryz.func39, Tryz.ntmps39
  go_wp2_with fail
  refine (QF.mark_any _ base r0 n.quotas S0 (k) (by omega) (by omega) HO0.out).mono ?_
  rintro e w1 ⟨rfl, hown, hc⟩
  replace HX := Lib.hid (show Bk w1 w.heap.size _ _ from (hc.block w.heap.size HX.out.lt HXN.out.1.1).trans HX.out)
  replace HO1 := Lib.hid (IF.own_chg HO1.out hc ((nodup_parts (nodup_parts HND.out).1).2.2).symm)
  replace HO2 := Lib.hid (SF.own_chg HO2.out hc ((apart_app.1 (nodup_parts HND.out).2.2).1).symm)
  replace HO0 := Lib.hid hown
  replace HC := Lib.hid (HC.out.trans (hc.more (fun b hb => by simp [hb])))
  clear hown hc
  have c0 := HX.out.cell 2
  simp only [List.getElem?_toArray, List.getElem?_cons_succ, List.getElem?_cons_zero] at c0
  go_wp2_with fail
  try rw [show (((k : Nat) : Int) + (QF.wid n.quotas : Int)) = ((k + QF.wid n.quotas : Nat) : Int) from by omega]
  refine (IF.mark_any _ base r1 n.inodes S1 (k + QF.wid n.quotas) (by omega) (by omega) HO1.out).mono ?_
  rintro e w2 ⟨rfl, hown, hc⟩
  replace HX := Lib.hid (show Bk w2 w.heap.size _ _ from (hc.block w.heap.size HX.out.lt HXN.out.1.2).trans HX.out)
  replace HO0 := Lib.hid (QF.own_chg HO0.out hc (nodup_parts (nodup_parts HND.out).1).2.2)
  replace HO2 := Lib.hid (SF.own_chg HO2.out hc ((apart_app.1 (nodup_parts HND.out).2.2).2).symm)
  replace HO1 := Lib.hid hown
  replace HC := Lib.hid (HC.out.trans (hc.more (fun b hb => by simp [hb])))
  clear hown hc
  have c1 := HX.out.cell 3
  simp only [List.getElem?_toArray, List.getElem?_cons_succ, List.getElem?_cons_zero] at c1
  go_wp2_with fail
  try rw [show (((k + QF.wid n.quotas : Nat) : Int) + (IF.wid n.inodes : Int)) = ((k + QF.wid n.quotas + IF.wid n.inodes : Nat) : Int) from by omega]
  refine (SF.mark_any _ base r2 n.data S2 (k + QF.wid n.quotas + IF.wid n.inodes) (by omega) (by omega) HO2.out).mono ?_
  rintro e w3 ⟨rfl, hown, hc⟩
  replace HX := Lib.hid (show Bk w3 w.heap.size _ _ from (hc.block w.heap.size HX.out.lt HXN.out.2).trans HX.out)
  replace HO0 := Lib.hid (QF.own_chg HO0.out hc (apart_app.1 (nodup_parts HND.out).2.2).1)
  replace HO1 := Lib.hid (IF.own_chg HO1.out hc (apart_app.1 (nodup_parts HND.out).2.2).2)
  replace HO2 := Lib.hid hown
  replace HC := Lib.hid (HC.out.trans (hc.more (fun b hb => by simp [hb])))
  clear hown hc
  go_wp2
  go_ret
  exact ⟨ret_int (by unfold wid; omega), ⟨r0, r1, r2, S0, S1, S2, rfl, rfl, HND.out, HO0.out, HO1.out, HO2.out⟩, HC.out⟩

set_option maxRecDepth 100000 in
set_option maxHeartbeats 1600000 in
/-- The marks are found. -/
theorem held_any (w : World) (v : Value) (n : L) (k : Nat) (hk : 1 ≤ k) (hn : k + wid n ≤ 1073741824) (h : Holds w v (marks k n)) :
    Calls Tryz.prog 40 #[v, .int .i64 k] w fun e w' => e = .returned (.int .i64 (k + wid n : Nat)) ∧ Below w.heap.size w w' := by
  obtain ⟨r0, r1, r2, rfl, g0, g1, g2⟩ := h
  dsimp only [marks] at g0 g1 g2 ⊢
  have H0 := Lib.hid g0
  have H1 := Lib.hid g1
  have H2 := Lib.hid g2
  unfold wid at hn
  have HB := Lib.hid ((Below.refl w.heap.size w).alloc (Nat.le_refl _) (.cells #[.int .i64 n.tick, r0, r1, r2] 27))
  have HX := Lib.hid (new w #[.int .i64 n.tick, r0, r1, r2] 27)
  clear g0 g1 g2
  go_enter Tryz.func40, Tryz.ntmps40
  go_wp2_with fail
  refine (QF.held_any _ r0 n.quotas (k) (by omega) (by omega) (QF.holds_below H0.out HB.out)).mono ?_
  rintro e w1 ⟨rfl, hb⟩
  replace HX := Lib.hid (HX.out.all hb)
  replace HB := Lib.hid (HB.out.trans (hb.mono HB.out.size))
  clear hb
  have c0 := HX.out.cell 2
  simp only [List.getElem?_toArray, List.getElem?_cons_succ, List.getElem?_cons_zero] at c0
  go_wp2_with fail
  try rw [show (((k : Nat) : Int) + (QF.wid n.quotas : Int)) = ((k + QF.wid n.quotas : Nat) : Int) from by omega]
  refine (IF.held_any _ r1 n.inodes (k + QF.wid n.quotas) (by omega) (by omega) (IF.holds_below H1.out HB.out)).mono ?_
  rintro e w2 ⟨rfl, hb⟩
  replace HX := Lib.hid (HX.out.all hb)
  replace HB := Lib.hid (HB.out.trans (hb.mono HB.out.size))
  clear hb
  have c1 := HX.out.cell 3
  simp only [List.getElem?_toArray, List.getElem?_cons_succ, List.getElem?_cons_zero] at c1
  go_wp2_with fail
  try rw [show (((k + QF.wid n.quotas : Nat) : Int) + (IF.wid n.inodes : Int)) = ((k + QF.wid n.quotas + IF.wid n.inodes : Nat) : Int) from by omega]
  refine (SF.held_any _ r2 n.data (k + QF.wid n.quotas + IF.wid n.inodes) (by omega) (by omega) (SF.holds_below H2.out HB.out)).mono ?_
  rintro e w3 ⟨rfl, hb⟩
  replace HX := Lib.hid (HX.out.all hb)
  replace HB := Lib.hid (HB.out.trans (hb.mono HB.out.size))
  clear hb
  go_wp2
  go_ret
  exact ⟨ret_int (by unfold wid; omega), HB.out⟩

set_option maxRecDepth 100000 in
/-- Cells that read as data of the type hold a value. -/
theorem in_cells {H : Type} {enc : TypeId × Value → H} {W : World} {fuel : Nat} {cs : List Value} {x : DataW H × List MemPlace} (hf : DataW.trod enc Tryz.prog W 0 (fun _ => true) true fuel 59 cs = some x) :
    ∃ (n : L) (r0 r1 r2 : Value), cs = [.int .i64 n.tick, r0, r1, r2] ∧ Lim n ∧ QF.Holds W r0 n.quotas ∧ IF.Holds W r1 n.inodes ∧ SF.Holds W r2 n.data := by
  obtain ⟨xs, fu, _, rfl, hl, hlen, hfs⟩ := DataW.trod_struct Tryz.underlying59 hf
  rw [show Tryz.prog.cellsOf 59 = 4 from by kernel_rfl] at hl
  obtain ⟨c0, c1, c2, c3, rfl⟩ : ∃ c0 c1 c2 c3, cs = [c0, c1, c2, c3] := by
    match cs, hl with
    | [c0, c1, c2, c3], _ => exact ⟨_, _, _, _, rfl⟩
  obtain ⟨z0, z1, z2, z3, rfl⟩ : ∃ z0 z1 z2 z3, xs = [z0, z1, z2, z3] := by
    match xs, hlen with
    | [c0, c1, c2, c3], _ => exact ⟨_, _, _, _, rfl⟩
  have hc_2 : Tryz.prog.cellsOf 57 = 1 := by kernel_rfl
  have hc_1 : Tryz.prog.cellsOf 56 = 1 := by kernel_rfl
  have hc_3 : Tryz.prog.cellsOf 25 = 1 := by kernel_rfl
  have hc_0 : Tryz.prog.cellsOf 3 = 1 := by kernel_rfl
  have e0 : DataW.trod enc Tryz.prog W 0 (fun _ => true) true fu 3 [c0] = some z0 := by simpa [hc_0] using hfs 0 _ rfl
  have e1 : DataW.trod enc Tryz.prog W 0 (fun _ => true) true fu 56 [c1] = some z1 := by simpa [hc_1] using hfs 1 _ rfl
  have e2 : DataW.trod enc Tryz.prog W 0 (fun _ => true) true fu 57 [c2] = some z2 := by simpa [hc_2] using hfs 2 _ rfl
  have e3 : DataW.trod enc Tryz.prog W 0 (fun _ => true) true fu 25 [c3] = some z3 := by simpa [hc_3] using hfs 3 _ rfl
  obtain ⟨i0, hi0, _, m0⟩ := DataW.trod_int Tryz.underlying3 e0
  obtain rfl : c0 = .int .i64 i0 := by simpa using hi0
  obtain ⟨l1, m1, h1⟩ := QF.in_cell e1
  obtain ⟨l2, m2, h2⟩ := IF.in_cell e2
  obtain ⟨l3, m3, h3⟩ := SF.in_cell e3
  exact ⟨⟨i0, l1, l2, l3⟩, c1, c2, c3, rfl, ⟨rg_of m0, m1, m2, m3⟩, h1, h2, h3⟩
set_option maxRecDepth 100000 in
/-- What an argument of that type offers. -/
theorem in_any {H : Type} {enc : TypeId × Value → H} {W : World} {b0 : Nat} {v : Value} {x : DataW H} {p : List MemPlace} (hv : Value.okWide Tryz.prog W .any b0 59 v) (h : DataW.Trod enc Tryz.prog W 0 (fun _ => true) true 59 v x p) :
    ∃ n : L, Lim n ∧ Holds W v n := by
  obtain ⟨cs, rfl, hsz⟩ := okWide_struct Tryz.underlying59 hv
  obtain ⟨fuel, hf⟩ := h
  obtain ⟨n, r0, r1, r2, hcs, hl, hr⟩ := in_cells hf
  have : cs = #[.int .i64 n.tick, r0, r1, r2] := Array.toList_inj.1 (by simpa [Value.cells] using hcs)
  subst this
  exact ⟨n, hl, r0, r1, r2, rfl, hr⟩
end Go.Proofs.YtafmpllkehbmeaaGreatDoor.FsF
