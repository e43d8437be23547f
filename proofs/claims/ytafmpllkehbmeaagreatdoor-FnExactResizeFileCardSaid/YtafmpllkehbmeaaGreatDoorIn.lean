/- Contracts and plain facts that a law of this seat leans on. Conditions: as each theorem types them. -/
import Derived.Test.YtafmpllkehbmeaaGreatDoorInoV
import Derived.Test.YtafmpllkehbmeaaGreatDoorNiF
import Derived.Test.YtafmpllkehbmeaaGreatDoorAeF
import Derived.Test.YtafmpllkehbmeaaGreatDoorBx
namespace Go.Proofs.YtafmpllkehbmeaaGreatDoor.In
open Go.ChangeShapes Go.WideShapes Go.ChangeAt Go.RowKit Go.Deep
open Foot Bx
open Strs (ret_int)
set_option linter.unusedVariables false

abbrev L := InoV.I
/-- The value, its fields in their cells. -/
def agg (n : L) (r0 r1 r2 : Value) : Value := .agg #[.int .i64 n.kind, .int .i64 n.mode, .int .i64 n.uid, .int .i64 n.gid, .int .i64 n.links, .int .i64 n.size, .int .i64 n.tick, r0, r1, r2]
def Holds (w : World) (v : Value) (n : L) : Prop := ∃ r0 r1 r2 : Value, v = .agg #[.int .i64 n.kind, .int .i64 n.mode, .int .i64 n.uid, .int .i64 n.gid, .int .i64 n.links, .int .i64 n.size, .int .i64 n.tick, r0, r1, r2] ∧ NiF.Holds w r0 n.blocks ∧ AeF.Holds w r1 n.acl ∧ AeF.Holds w r2 n.dflt
theorem holds_below {w w' : World} {v : Value} {n : L} (h : Holds w v n) (hb : Below w.heap.size w w') : Holds w' v n := by
  obtain ⟨r0, r1, r2, e, h0, h1, h2⟩ := h
  exact ⟨r0, r1, r2, e, NiF.holds_below h0 hb, AeF.holds_below h1 hb, AeF.holds_below h2 hb⟩
/-- Its cells. -/
theorem form {w : World} {v : Value} {n : L} (h : Holds w v n) : ∃ (c0 : Int) (c1 : Int) (c2 : Int) (c3 : Int) (c4 : Int) (c5 : Int) (c6 : Int) (c7a : Option Addr) (c7n c7c : Nat) (c8a : Option Addr) (c8n c8c : Nat) (c9a : Option Addr) (c9n c9c : Nat), v = .agg #[.int .i64 c0, .int .i64 c1, .int .i64 c2, .int .i64 c3, .int .i64 c4, .int .i64 c5, .int .i64 c6, .slice c7a c7n c7c, .slice c8a c8n c8c, .slice c9a c9n c9c] := by
  obtain ⟨r0, r1, r2, rfl, h0, h1, h2⟩ := h
  obtain ⟨a0, d0, rfl⟩ := NiF.form h0
  obtain ⟨a1, d1, rfl⟩ := AeF.form h1
  obtain ⟨a2, d2, rfl⟩ := AeF.form h2
  exact ⟨_, _, _, _, _, _, _, _, _, _, _, _, _, _, _, _, rfl⟩
/-- The call owns the value's slices: their blocks, in order, are S. -/
def Own (w : World) (base : Nat) (v : Value) (n : L) (S : List Nat) : Prop := ∃ (r0 r1 r2 : Value) (S0 S1 S2 : List Nat), v = .agg #[.int .i64 n.kind, .int .i64 n.mode, .int .i64 n.uid, .int .i64 n.gid, .int .i64 n.links, .int .i64 n.size, .int .i64 n.tick, r0, r1, r2] ∧ S = S0 ++ S1 ++ S2 ∧ S.Nodup ∧ NiF.Own w base r0 n.blocks S0 ∧ AeF.Own w base r1 n.acl S1 ∧ AeF.Own w base r2 n.dflt S2
section
variable {w w' : World} {base : Nat} {v : Value} {n : L} {S T : List Nat}
theorem own_holds (h : Own w base v n S) : Holds w v n := by
  obtain ⟨r0, r1, r2, S0, S1, S2, rfl, rfl, hnd, h0, h1, h2⟩ := h
  exact ⟨r0, r1, r2, rfl, NiF.own_holds h0, AeF.own_holds h1, AeF.own_holds h2⟩
theorem own_chg (h : Own w base v n S) (hc : Chg w w' T) (ha : Apart S T) : Own w' base v n S := by
  obtain ⟨r0, r1, r2, S0, S1, S2, rfl, rfl, hnd, h0, h1, h2⟩ := h
  simp only [apart_app] at ha
  exact ⟨r0, r1, r2, S0, S1, S2, rfl, rfl, hnd, NiF.own_chg h0 hc ha.1.1, AeF.own_chg h1 hc ha.1.2, AeF.own_chg h2 hc ha.2⟩
theorem own_below (h : Own w base v n S) (hb : Below w.heap.size w w') : Own w' base v n S := own_chg h (Chg.of_below hb (Nat.le_refl _) []) (fun k _ hh => by cases hh)
theorem own_mono {base' : Nat} (h : Own w base v n S) (hb : base' ≤ base) : Own w base' v n S := by
  obtain ⟨r0, r1, r2, S0, S1, S2, rfl, rfl, hnd, h0, h1, h2⟩ := h
  exact ⟨r0, r1, r2, S0, S1, S2, rfl, rfl, hnd, NiF.own_mono h0 hb, AeF.own_mono h1 hb, AeF.own_mono h2 hb⟩
theorem own_lies (h : Own w base v n S) : Lies S base w.heap.size := by
  obtain ⟨r0, r1, r2, S0, S1, S2, rfl, rfl, hnd, h0, h1, h2⟩ := h
  exact (((NiF.own_lies h0).app (AeF.own_lies h1)).app (AeF.own_lies h2))
theorem own_nodup (h : Own w base v n S) : S.Nodup := by
  obtain ⟨r0, r1, r2, S0, S1, S2, rfl, rfl, hnd, h0, h1, h2⟩ := h
  exact hnd
theorem own_set (h : Own w base v n S) {a : Addr} (ha : a.block < base) (u : Value) : Own (w.setCell a u) base v n S := by
  obtain ⟨r0, r1, r2, S0, S1, S2, rfl, rfl, hnd, h0, h1, h2⟩ := h
  exact ⟨r0, r1, r2, S0, S1, S2, rfl, rfl, hnd, NiF.own_set h0 ha u, AeF.own_set h1 ha u, AeF.own_set h2 ha u⟩
end
theorem own_form {w : World} {base : Nat} {v : Value} {n : L} {S : List Nat} (h : Own w base v n S) : ∃ (c0 : Int) (c1 : Int) (c2 : Int) (c3 : Int) (c4 : Int) (c5 : Int) (c6 : Int) (c7a : Option Addr) (c7n c7c : Nat) (c8a : Option Addr) (c8n c8c : Nat) (c9a : Option Addr) (c9n c9c : Nat), v = .agg #[.int .i64 c0, .int .i64 c1, .int .i64 c2, .int .i64 c3, .int .i64 c4, .int .i64 c5, .int .i64 c6, .slice c7a c7n c7c, .slice c8a c8n c8c, .slice c9a c9n c9c] := form (own_holds h)
/-- Its numbers are ints of 64 bits, its slices no longer than memory. -/
structure Lim (n : L) : Prop where
  kind : Rg n.kind
  mode : Rg n.mode
  uid : Rg n.uid
  gid : Rg n.gid
  links : Rg n.links
  size : Rg n.size
  tick : Rg n.tick
  blocks : NiF.Lim n.blocks
  acl : AeF.Lim n.acl
  dflt : AeF.Lim n.dflt
def cost (n : L) : Nat := NiF.cost n.blocks + AeF.cost n.acl + AeF.cost n.dflt
theorem le_blocks (n : L) : NiF.cost n.blocks ≤ cost n := by unfold cost; omega
theorem le_acl (n : L) : AeF.cost n.acl ≤ cost n := by unfold cost; omega
theorem le_dflt (n : L) : AeF.cost n.dflt ≤ cost n := by unfold cost; omega

set_option maxRecDepth 100000 in
set_option maxHeartbeats 1600000 in
theorem sz_any (w : World) (v : Value) (n : L) (left : Nat) (hleft : left ≤ 1073741824) (hl : Lim n) (h : Holds w v n) :
    Calls Tryz.prog 155 #[v, .int .i64 left] w fun e w' => e = .returned (.int .i64 (costOf (cost n) left)) ∧ Below w.heap.size w w' := by
  obtain ⟨r0, r1, r2, rfl, g0, g1, g2⟩ := h
  have H0 := Lib.hid g0
  have H1 := Lib.hid g1
  have H2 := Lib.hid g2
  have HL := Lib.hid hl
  have HC := Lib.hid (show cost n = NiF.cost n.blocks + AeF.cost n.acl + AeF.cost n.dflt from rfl)
  have HB := Lib.hid ((Below.refl w.heap.size w).alloc (Nat.le_refl _) (.cells #[.int .i64 n.kind, .int .i64 n.mode, .int .i64 n.uid, .int .i64 n.gid, .int .i64 n.links, .int .i64 n.size, .int .i64 n.tick, r0, r1, r2] 170))
  have HX := Lib.hid (new w #[.int .i64 n.kind, .int .i64 n.mode, .int .i64 n.uid, .int .i64 n.gid, .int .i64 n.links, .int .i64 n.size, .int .i64 n.tick, r0, r1, r2] 170)
  clear g0 g1 g2 hl
  by_cases hc0 : NiF.cost n.blocks ≤ left
  · obtain ⟨q0, hq0⟩ : ∃ x, x = left - NiF.cost n.blocks := ⟨_, rfl⟩
    have HZ0 := Lib.hid (show costOf (NiF.cost n.blocks) left = (q0 : Int) by rw [hq0]; exact cost_pos hc0)
    have hle0 : q0 ≤ 1073741824 := by omega
    by_cases hc1 : AeF.cost n.acl ≤ q0
    · obtain ⟨q1, hq1⟩ : ∃ x, x = q0 - AeF.cost n.acl := ⟨_, rfl⟩
      have HZ1 := Lib.hid (show costOf (AeF.cost n.acl) q0 = (q1 : Int) by rw [hq1]; exact cost_pos hc1)
      have hle1 : q1 ≤ 1073741824 := by omega
      by_cases hc2 : AeF.cost n.dflt ≤ q1
      · obtain ⟨q2, hq2⟩ : ∃ x, x = q1 - AeF.cost n.dflt := ⟨_, rfl⟩
        have HZ2 := Lib.hid (show costOf (AeF.cost n.dflt) q1 = (q2 : Int) by rw [hq2]; exact cost_pos hc2)
        have hle2 : q2 ≤ 1073741824 := by omega
        have HV := Lib.hid (show costOf (cost n) left = (q2 : Int) by rw [cost_pos (by rw [HC.out]; omega), HC.out]; omega)
        clear hc0 hq0 hc1 hq1 hc2 hq2
        go_enter Tryz.func155, Tryz.ntmps155
        go_wp2_with fail
        refine (NiF.sz_any _ r0 n.blocks left (by omega) HL.out.blocks (NiF.holds_below H0.out HB.out)).mono ?_
        rintro e w1 ⟨rfl, hb⟩
        rw [HZ0.out]
        have HXN := Lib.hid (HX.out.all hb)
        replace HB := Lib.hid (HB.out.trans (hb.mono HB.out.size))
        clear hb HX
        have HX := HXN
        clear HXN
        have c0 := HX.out.cell 8
        simp only [List.getElem?_toArray, List.getElem?_cons_succ, List.getElem?_cons_zero] at c0
        go_wp2_with fail
        refine (AeF.sz_any _ r1 n.acl q0 (by omega) HL.out.acl (AeF.holds_below H1.out HB.out)).mono ?_
        rintro e w1 ⟨rfl, hb⟩
        rw [HZ1.out]
        have HXN := Lib.hid (HX.out.all hb)
        replace HB := Lib.hid (HB.out.trans (hb.mono HB.out.size))
        clear hb HX
        have HX := HXN
        clear HXN
        have c1 := HX.out.cell 9
        simp only [List.getElem?_toArray, List.getElem?_cons_succ, List.getElem?_cons_zero] at c1
        go_wp2_with fail
        refine (AeF.sz_any _ r2 n.dflt q1 (by omega) HL.out.dflt (AeF.holds_below H2.out HB.out)).mono ?_
        rintro e w1 ⟨rfl, hb⟩
        rw [HZ2.out]
        have HXN := Lib.hid (HX.out.all hb)
        replace HB := Lib.hid (HB.out.trans (hb.mono HB.out.size))
        clear hb HX
        have HX := HXN
        clear HXN
        go_wp2
        go_ret
        exact ⟨ret_int (by rw [HV.out]), HB.out⟩
      · have HZ2 := Lib.hid (cost_neg hc2)
        have HV := Lib.hid (show costOf (cost n) left = -1 from cost_neg (by rw [HC.out]; omega))
        clear hc0 hc1 hc2 hq0 hq1
        go_enter Tryz.func155, Tryz.ntmps155
        go_wp2_with fail
        refine (NiF.sz_any _ r0 n.blocks left (by omega) HL.out.blocks (NiF.holds_below H0.out HB.out)).mono ?_
        rintro e w1 ⟨rfl, hb⟩
        rw [HZ0.out]
        have HXN := Lib.hid (HX.out.all hb)
        replace HB := Lib.hid (HB.out.trans (hb.mono HB.out.size))
        clear hb HX
        have HX := HXN
        clear HXN
        have c0 := HX.out.cell 8
        simp only [List.getElem?_toArray, List.getElem?_cons_succ, List.getElem?_cons_zero] at c0
        go_wp2_with fail
        refine (AeF.sz_any _ r1 n.acl q0 (by omega) HL.out.acl (AeF.holds_below H1.out HB.out)).mono ?_
        rintro e w1 ⟨rfl, hb⟩
        rw [HZ1.out]
        have HXN := Lib.hid (HX.out.all hb)
        replace HB := Lib.hid (HB.out.trans (hb.mono HB.out.size))
        clear hb HX
        have HX := HXN
        clear HXN
        have c1 := HX.out.cell 9
        simp only [List.getElem?_toArray, List.getElem?_cons_succ, List.getElem?_cons_zero] at c1
        go_wp2_with fail
        refine (AeF.sz_any _ r2 n.dflt q1 (by omega) HL.out.dflt (AeF.holds_below H2.out HB.out)).mono ?_
        rintro e w1 ⟨rfl, hb⟩
        rw [HZ2.out]
        have HXN := Lib.hid (HX.out.all hb)
        replace HB := Lib.hid (HB.out.trans (hb.mono HB.out.size))
        clear hb HX
        have HX := HXN
        clear HXN
        go_wp2
        go_ret
        exact ⟨ret_int (by rw [HV.out]), HB.out⟩
    · have HZ1 := Lib.hid (cost_neg hc1)
      have HV := Lib.hid (show costOf (cost n) left = -1 from cost_neg (by rw [HC.out]; omega))
      clear hc0 hc1 hq0
      go_enter Tryz.func155, Tryz.ntmps155
      go_wp2_with fail
      refine (NiF.sz_any _ r0 n.blocks left (by omega) HL.out.blocks (NiF.holds_below H0.out HB.out)).mono ?_
      rintro e w1 ⟨rfl, hb⟩
      rw [HZ0.out]
      have HXN := Lib.hid (HX.out.all hb)
      replace HB := Lib.hid (HB.out.trans (hb.mono HB.out.size))
      clear hb HX
      have HX := HXN
      clear HXN
      have c0 := HX.out.cell 8
      simp only [List.getElem?_toArray, List.getElem?_cons_succ, List.getElem?_cons_zero] at c0
      go_wp2_with fail
      refine (AeF.sz_any _ r1 n.acl q0 (by omega) HL.out.acl (AeF.holds_below H1.out HB.out)).mono ?_
      rintro e w1 ⟨rfl, hb⟩
      rw [HZ1.out]
      have HXN := Lib.hid (HX.out.all hb)
      replace HB := Lib.hid (HB.out.trans (hb.mono HB.out.size))
      clear hb HX
      have HX := HXN
      clear HXN
      go_wp2
      go_ret
      exact ⟨ret_int (by rw [HV.out]), HB.out⟩
  · have HZ0 := Lib.hid (cost_neg hc0)
    have HV := Lib.hid (show costOf (cost n) left = -1 from cost_neg (by rw [HC.out]; omega))
    clear hc0
    go_enter Tryz.func155, Tryz.ntmps155
    go_wp2_with fail
    refine (NiF.sz_any _ r0 n.blocks left (by omega) HL.out.blocks (NiF.holds_below H0.out HB.out)).mono ?_
    rintro e w1 ⟨rfl, hb⟩
    rw [HZ0.out]
    have HXN := Lib.hid (HX.out.all hb)
    replace HB := Lib.hid (HB.out.trans (hb.mono HB.out.size))
    clear hb HX
    have HX := HXN
    clear HXN
    go_wp2
    go_ret
    exact ⟨ret_int (by rw [HV.out]), HB.out⟩

set_option maxRecDepth 100000 in
set_option maxHeartbeats 1600000 in
/-- A copy, in memory of the call's own. -/
theorem to_any (w : World) (v : Value) (n : L) (hc : cost n ≤ 1073741824) (h : Holds w v n) :
    Calls Tryz.prog 164 #[v] w fun e w' => ∃ v' S, e = .returned v' ∧ Own w' w.heap.size v' n S ∧ Below w.heap.size w w' := by
  obtain ⟨r0, r1, r2, rfl, g0, g1, g2⟩ := h
  have H0 := Lib.hid g0
  have H1 := Lib.hid g1
  have H2 := Lib.hid g2
  have hcc : NiF.cost n.blocks + AeF.cost n.acl + AeF.cost n.dflt ≤ 1073741824 := hc
  clear g0 g1 g2 hc
  go_enter Tryz.func164, Tryz.ntmps164
  go_wp2_with fail
  have hb0 := (((Below.refl w.heap.size w).alloc (Nat.le_refl _) (.cells #[.int .i64 n.kind, .int .i64 n.mode, .int .i64 n.uid, .int .i64 n.gid, .int .i64 n.links, .int .i64 n.size, .int .i64 n.tick, r0, r1, r2] 170)).alloc (by simp) (.cells #[.int .i64 0, .int .i64 0, .int .i64 0, .int .i64 0, .int .i64 0, .int .i64 0, .int .i64 0, .slice none 0 0, .slice none 0 0, .slice none 0 0] 34)).alloc (by simp; omega) (.cells #[.int .i64 n.kind, .int .i64 n.mode, .int .i64 n.uid, .int .i64 n.gid, .int .i64 n.links, .int .i64 n.size, .int .i64 n.tick, .slice none 0 0, .slice none 0 0, .slice none 0 0] 34)
  have hA := ((new w #[.int .i64 n.kind, .int .i64 n.mode, .int .i64 n.uid, .int .i64 n.gid, .int .i64 n.links, .int .i64 n.size, .int .i64 n.tick, r0, r1, r2] 170).alloc (.cells #[.int .i64 0, .int .i64 0, .int .i64 0, .int .i64 0, .int .i64 0, .int .i64 0, .int .i64 0, .slice none 0 0, .slice none 0 0, .slice none 0 0] 34)).alloc (.cells #[.int .i64 n.kind, .int .i64 n.mode, .int .i64 n.uid, .int .i64 n.gid, .int .i64 n.links, .int .i64 n.size, .int .i64 n.tick, .slice none 0 0, .slice none 0 0, .slice none 0 0] 34)
  have hR := (new_at (w.alloc (.cells #[.int .i64 n.kind, .int .i64 n.mode, .int .i64 n.uid, .int .i64 n.gid, .int .i64 n.links, .int .i64 n.size, .int .i64 n.tick, r0, r1, r2] 170)) #[.int .i64 0, .int .i64 0, .int .i64 0, .int .i64 0, .int .i64 0, .int .i64 0, .int .i64 0, .slice none 0 0, .slice none 0 0, .slice none 0 0] 34 (w.heap.size + 1) (by simp)).alloc (.cells #[.int .i64 n.kind, .int .i64 n.mode, .int .i64 n.uid, .int .i64 n.gid, .int .i64 n.links, .int .i64 n.size, .int .i64 n.tick, .slice none 0 0, .slice none 0 0, .slice none 0 0] 34)
  have hO := new_at ((w.alloc (.cells #[.int .i64 n.kind, .int .i64 n.mode, .int .i64 n.uid, .int .i64 n.gid, .int .i64 n.links, .int .i64 n.size, .int .i64 n.tick, r0, r1, r2] 170)).alloc (.cells #[.int .i64 0, .int .i64 0, .int .i64 0, .int .i64 0, .int .i64 0, .int .i64 0, .int .i64 0, .slice none 0 0, .slice none 0 0, .slice none 0 0] 34)) #[.int .i64 n.kind, .int .i64 n.mode, .int .i64 n.uid, .int .i64 n.gid, .int .i64 n.links, .int .i64 n.size, .int .i64 n.tick, .slice none 0 0, .slice none 0 0, .slice none 0 0] 34 (w.heap.size + 1 + 1) (by simp)
  generalize hW0 : ((w.alloc (.cells #[.int .i64 n.kind, .int .i64 n.mode, .int .i64 n.uid, .int .i64 n.gid, .int .i64 n.links, .int .i64 n.size, .int .i64 n.tick, r0, r1, r2] 170)).alloc (.cells #[.int .i64 0, .int .i64 0, .int .i64 0, .int .i64 0, .int .i64 0, .int .i64 0, .int .i64 0, .slice none 0 0, .slice none 0 0, .slice none 0 0] 34)).alloc (.cells #[.int .i64 n.kind, .int .i64 n.mode, .int .i64 n.uid, .int .i64 n.gid, .int .i64 n.links, .int .i64 n.size, .int .i64 n.tick, .slice none 0 0, .slice none 0 0, .slice none 0 0] 34) = w0 at hb0 hA hR hO ⊢
  have hsz : w0.heap.size = w.heap.size + 1 + 1 + 1 := by rw [← hW0]; simp
  have hs0 := Nat.le_of_eq hsz.symm
  clear hW0 hsz
  have HB := Lib.hid hb0
  have HA := Lib.hid hA
  have HR := Lib.hid hR
  have HQ := Lib.hid hO
  clear hb0 hA hR hO
  refine (NiF.to_any _ r0 n.blocks (by omega) (NiF.holds_below H0.out HB.out)).mono ?_
  rintro e w1 ⟨y0, S0, rfl, hown, hb⟩
  obtain ⟨a0, d0, rfl⟩ := NiF.own_form hown
  have hs1 := hb.size
  replace HA := Lib.hid (HA.out.all hb)
  replace HR := Lib.hid (HR.out.all hb)
  replace HQ := Lib.hid (HQ.out.all hb)
  replace HB := Lib.hid (HB.out.trans (hb.mono HB.out.size))
  have hlow0 := NiF.own_lies hown
  have HO0 := Lib.hid hown
  have HL0 := Lib.hid hlow0
  clear hown hb hlow0
  have hq0 : w1.cell? ⟨w.heap.size + 1 + 1, 7, none⟩ = some (.slice none 0 0) := HQ.out.cell 7
  have hf0 := HQ.out.free 7
  have hB2 := HB.out.setCell (p := ⟨w.heap.size + 1 + 1, 7, none⟩) (by simp; omega) (.slice a0 n.blocks.length d0)
  have hA2 := HA.out.far (p := ⟨w.heap.size + 1 + 1, 7, none⟩) (by simp; omega) (.slice a0 n.blocks.length d0)
  have hR2 := HR.out.far (p := ⟨w.heap.size + 1 + 1, 7, none⟩) (by simp) (.slice a0 n.blocks.length d0)
  have hQ2 : Bk _ _ #[.int .i64 n.kind, .int .i64 n.mode, .int .i64 n.uid, .int .i64 n.gid, .int .i64 n.links, .int .i64 n.size, .int .i64 n.tick, .slice a0 n.blocks.length d0, .slice none 0 0, .slice none 0 0] _ := HQ.out.put 7 (.slice a0 n.blocks.length d0)
  have hO20 := NiF.own_set HO0.out (a := ⟨w.heap.size + 1 + 1, 7, none⟩) (by simp; omega) (.slice a0 n.blocks.length d0)
  have hn0 := hA2.cell 8
  simp only [List.getElem?_toArray, List.getElem?_cons_succ, List.getElem?_cons_zero] at hn0
  replace HB := Lib.hid hB2
  replace HA := Lib.hid hA2
  replace HR := Lib.hid hR2
  replace HQ := Lib.hid hQ2
  replace HO0 := Lib.hid hO20
  clear hB2 hA2 hR2 hQ2 hO20
  go_wp2_with fail
  clear hq0 hf0 hn0
  refine (AeF.to_any _ r1 n.acl (by omega) (AeF.holds_below H1.out HB.out)).mono ?_
  rintro e w2 ⟨y1, S1, rfl, hown, hb⟩
  obtain ⟨a1, d1, rfl⟩ := AeF.own_form hown
  have hs2 := hb.size
  simp only [World.size_setCell] at hs2
  replace HA := Lib.hid (HA.out.all hb)
  replace HR := Lib.hid (HR.out.all hb)
  replace HQ := Lib.hid (HQ.out.all hb)
  replace HB := Lib.hid (HB.out.trans (hb.mono HB.out.size))
  replace HO0 := Lib.hid (NiF.own_below HO0.out hb)
  have hlow1 := AeF.own_lies hown
  simp only [World.size_setCell] at hown hlow1
  have HO1 := Lib.hid hown
  have HL1 := Lib.hid hlow1
  clear hown hb hlow1
  have hq1 : w2.cell? ⟨w.heap.size + 1 + 1, 8, none⟩ = some (.slice none 0 0) := HQ.out.cell 8
  have hf1 := HQ.out.free 8
  have hB2 := HB.out.setCell (p := ⟨w.heap.size + 1 + 1, 8, none⟩) (by simp; omega) (.slice a1 n.acl.length d1)
  have hA2 := HA.out.far (p := ⟨w.heap.size + 1 + 1, 8, none⟩) (by simp; omega) (.slice a1 n.acl.length d1)
  have hR2 := HR.out.far (p := ⟨w.heap.size + 1 + 1, 8, none⟩) (by simp) (.slice a1 n.acl.length d1)
  have hQ2 : Bk _ _ #[.int .i64 n.kind, .int .i64 n.mode, .int .i64 n.uid, .int .i64 n.gid, .int .i64 n.links, .int .i64 n.size, .int .i64 n.tick, .slice a0 n.blocks.length d0, .slice a1 n.acl.length d1, .slice none 0 0] _ := HQ.out.put 8 (.slice a1 n.acl.length d1)
  have hO20 := NiF.own_set HO0.out (a := ⟨w.heap.size + 1 + 1, 8, none⟩) (by simp; omega) (.slice a1 n.acl.length d1)
  have hO21 := AeF.own_set HO1.out (a := ⟨w.heap.size + 1 + 1, 8, none⟩) (by simp; omega) (.slice a1 n.acl.length d1)
  have hn1 := hA2.cell 9
  simp only [List.getElem?_toArray, List.getElem?_cons_succ, List.getElem?_cons_zero] at hn1
  replace HB := Lib.hid hB2
  replace HA := Lib.hid hA2
  replace HR := Lib.hid hR2
  replace HQ := Lib.hid hQ2
  replace HO0 := Lib.hid hO20
  replace HO1 := Lib.hid hO21
  clear hB2 hA2 hR2 hQ2 hO20 hO21
  go_wp2_with fail
  clear hq1 hf1 hn1
  refine (AeF.to_any _ r2 n.dflt (by omega) (AeF.holds_below H2.out HB.out)).mono ?_
  rintro e w3 ⟨y2, S2, rfl, hown, hb⟩
  obtain ⟨a2, d2, rfl⟩ := AeF.own_form hown
  have hs3 := hb.size
  simp only [World.size_setCell] at hs3
  replace HA := Lib.hid (HA.out.all hb)
  replace HR := Lib.hid (HR.out.all hb)
  replace HQ := Lib.hid (HQ.out.all hb)
  replace HB := Lib.hid (HB.out.trans (hb.mono HB.out.size))
  replace HO0 := Lib.hid (NiF.own_below HO0.out hb)
  replace HO1 := Lib.hid (AeF.own_below HO1.out hb)
  have hlow2 := AeF.own_lies hown
  simp only [World.size_setCell] at hown hlow2
  have HO2 := Lib.hid hown
  have HL2 := Lib.hid hlow2
  clear hown hb hlow2
  have hq2 : w3.cell? ⟨w.heap.size + 1 + 1, 9, none⟩ = some (.slice none 0 0) := HQ.out.cell 9
  have hf2 := HQ.out.free 9
  have rz := HR.out.cell
  have rc0 := rz 0
  have rf0 := HR.out.free 0
  have qc0 := HQ.out.cell 0
  have rc1 := rz 1
  have rf1 := HR.out.free 1
  have qc1 := HQ.out.cell 1
  have rc2 := rz 2
  have rf2 := HR.out.free 2
  have qc2 := HQ.out.cell 2
  have rc3 := rz 3
  have rf3 := HR.out.free 3
  have qc3 := HQ.out.cell 3
  have rc4 := rz 4
  have rf4 := HR.out.free 4
  have qc4 := HQ.out.cell 4
  have rc5 := rz 5
  have rf5 := HR.out.free 5
  have qc5 := HQ.out.cell 5
  have rc6 := rz 6
  have rf6 := HR.out.free 6
  have qc6 := HQ.out.cell 6
  have rc7 := rz 7
  have rf7 := HR.out.free 7
  have qc7 := HQ.out.cell 7
  have rc8 := rz 8
  have rf8 := HR.out.free 8
  have qc8 := HQ.out.cell 8
  have rc9 := rz 9
  have rf9 := HR.out.free 9
  clear rz
  dsimp at rc0 rc1 rc2 rc3 rc4 rc5 rc6 rc7 rc8 rc9 qc0 qc1 qc2 qc3 qc4 qc5 qc6 qc7 qc8
  go_wp2_with fail
  have hF0 := HR.out.far (p := ⟨w.heap.size + 1 + 1, 9, none⟩) (by simp) (.slice a2 n.dflt.length d2)
  have hF1 : Bk _ _ #[.int .i64 n.kind, .int .i64 0, .int .i64 0, .int .i64 0, .int .i64 0, .int .i64 0, .int .i64 0, .slice none 0 0, .slice none 0 0, .slice none 0 0] _ := hF0.put 0 (.int .i64 n.kind)
  clear hF0
  have hF2 : Bk _ _ #[.int .i64 n.kind, .int .i64 n.mode, .int .i64 0, .int .i64 0, .int .i64 0, .int .i64 0, .int .i64 0, .slice none 0 0, .slice none 0 0, .slice none 0 0] _ := hF1.put 1 (.int .i64 n.mode)
  clear hF1
  have hF3 : Bk _ _ #[.int .i64 n.kind, .int .i64 n.mode, .int .i64 n.uid, .int .i64 0, .int .i64 0, .int .i64 0, .int .i64 0, .slice none 0 0, .slice none 0 0, .slice none 0 0] _ := hF2.put 2 (.int .i64 n.uid)
  clear hF2
  have hF4 : Bk _ _ #[.int .i64 n.kind, .int .i64 n.mode, .int .i64 n.uid, .int .i64 n.gid, .int .i64 0, .int .i64 0, .int .i64 0, .slice none 0 0, .slice none 0 0, .slice none 0 0] _ := hF3.put 3 (.int .i64 n.gid)
  clear hF3
  have hF5 : Bk _ _ #[.int .i64 n.kind, .int .i64 n.mode, .int .i64 n.uid, .int .i64 n.gid, .int .i64 n.links, .int .i64 0, .int .i64 0, .slice none 0 0, .slice none 0 0, .slice none 0 0] _ := hF4.put 4 (.int .i64 n.links)
  clear hF4
  have hF6 : Bk _ _ #[.int .i64 n.kind, .int .i64 n.mode, .int .i64 n.uid, .int .i64 n.gid, .int .i64 n.links, .int .i64 n.size, .int .i64 0, .slice none 0 0, .slice none 0 0, .slice none 0 0] _ := hF5.put 5 (.int .i64 n.size)
  clear hF5
  have hF7 : Bk _ _ #[.int .i64 n.kind, .int .i64 n.mode, .int .i64 n.uid, .int .i64 n.gid, .int .i64 n.links, .int .i64 n.size, .int .i64 n.tick, .slice none 0 0, .slice none 0 0, .slice none 0 0] _ := hF6.put 6 (.int .i64 n.tick)
  clear hF6
  have hF8 : Bk _ _ #[.int .i64 n.kind, .int .i64 n.mode, .int .i64 n.uid, .int .i64 n.gid, .int .i64 n.links, .int .i64 n.size, .int .i64 n.tick, .slice a0 n.blocks.length d0, .slice none 0 0, .slice none 0 0] _ := hF7.put 7 (.slice a0 n.blocks.length d0)
  clear hF7
  have hF9 : Bk _ _ #[.int .i64 n.kind, .int .i64 n.mode, .int .i64 n.uid, .int .i64 n.gid, .int .i64 n.links, .int .i64 n.size, .int .i64 n.tick, .slice a0 n.blocks.length d0, .slice a1 n.acl.length d1, .slice none 0 0] _ := hF8.put 8 (.slice a1 n.acl.length d1)
  clear hF8
  have hF10 : Bk _ _ #[.int .i64 n.kind, .int .i64 n.mode, .int .i64 n.uid, .int .i64 n.gid, .int .i64 n.links, .int .i64 n.size, .int .i64 n.tick, .slice a0 n.blocks.length d0, .slice a1 n.acl.length d1, .slice a2 n.dflt.length d2] _ := hF9.put 9 (.slice a2 n.dflt.length d2)
  clear hF9
  have hF := hF10
  clear hF10
  have hB4 := (((((((((((HB.out.setCell (p := ⟨w.heap.size + 1 + 1, 9, none⟩) (by first | (simp; done) | (simp; omega)) (.slice a2 n.dflt.length d2)).setCell (p := ⟨w.heap.size + 1, 0, none⟩) (by first | (simp; done) | (simp; omega)) (.int .i64 n.kind)).setCell (p := ⟨w.heap.size + 1, 1, none⟩) (by first | (simp; done) | (simp; omega)) (.int .i64 n.mode)).setCell (p := ⟨w.heap.size + 1, 2, none⟩) (by first | (simp; done) | (simp; omega)) (.int .i64 n.uid)).setCell (p := ⟨w.heap.size + 1, 3, none⟩) (by first | (simp; done) | (simp; omega)) (.int .i64 n.gid)).setCell (p := ⟨w.heap.size + 1, 4, none⟩) (by first | (simp; done) | (simp; omega)) (.int .i64 n.links)).setCell (p := ⟨w.heap.size + 1, 5, none⟩) (by first | (simp; done) | (simp; omega)) (.int .i64 n.size)).setCell (p := ⟨w.heap.size + 1, 6, none⟩) (by first | (simp; done) | (simp; omega)) (.int .i64 n.tick)).setCell (p := ⟨w.heap.size + 1, 7, none⟩) (by first | (simp; done) | (simp; omega)) (.slice a0 n.blocks.length d0)).setCell (p := ⟨w.heap.size + 1, 8, none⟩) (by first | (simp; done) | (simp; omega)) (.slice a1 n.acl.length d1)).setCell (p := ⟨w.heap.size + 1, 9, none⟩) (by first | (simp; done) | (simp; omega)) (.slice a2 n.dflt.length d2))
  have hO40 := (NiF.own_set (NiF.own_set (NiF.own_set (NiF.own_set (NiF.own_set (NiF.own_set (NiF.own_set (NiF.own_set (NiF.own_set (NiF.own_set (NiF.own_set HO0.out (a := ⟨w.heap.size + 1 + 1, 9, none⟩) (by first | (simp; done) | (simp; omega)) (.slice a2 n.dflt.length d2)) (a := ⟨w.heap.size + 1, 0, none⟩) (by first | (simp; done) | (simp; omega)) (.int .i64 n.kind)) (a := ⟨w.heap.size + 1, 1, none⟩) (by first | (simp; done) | (simp; omega)) (.int .i64 n.mode)) (a := ⟨w.heap.size + 1, 2, none⟩) (by first | (simp; done) | (simp; omega)) (.int .i64 n.uid)) (a := ⟨w.heap.size + 1, 3, none⟩) (by first | (simp; done) | (simp; omega)) (.int .i64 n.gid)) (a := ⟨w.heap.size + 1, 4, none⟩) (by first | (simp; done) | (simp; omega)) (.int .i64 n.links)) (a := ⟨w.heap.size + 1, 5, none⟩) (by first | (simp; done) | (simp; omega)) (.int .i64 n.size)) (a := ⟨w.heap.size + 1, 6, none⟩) (by first | (simp; done) | (simp; omega)) (.int .i64 n.tick)) (a := ⟨w.heap.size + 1, 7, none⟩) (by first | (simp; done) | (simp; omega)) (.slice a0 n.blocks.length d0)) (a := ⟨w.heap.size + 1, 8, none⟩) (by first | (simp; done) | (simp; omega)) (.slice a1 n.acl.length d1)) (a := ⟨w.heap.size + 1, 9, none⟩) (by first | (simp; done) | (simp; omega)) (.slice a2 n.dflt.length d2))
  have hO41 := (AeF.own_set (AeF.own_set (AeF.own_set (AeF.own_set (AeF.own_set (AeF.own_set (AeF.own_set (AeF.own_set (AeF.own_set (AeF.own_set (AeF.own_set HO1.out (a := ⟨w.heap.size + 1 + 1, 9, none⟩) (by first | (simp; done) | (simp; omega)) (.slice a2 n.dflt.length d2)) (a := ⟨w.heap.size + 1, 0, none⟩) (by first | (simp; done) | (simp; omega)) (.int .i64 n.kind)) (a := ⟨w.heap.size + 1, 1, none⟩) (by first | (simp; done) | (simp; omega)) (.int .i64 n.mode)) (a := ⟨w.heap.size + 1, 2, none⟩) (by first | (simp; done) | (simp; omega)) (.int .i64 n.uid)) (a := ⟨w.heap.size + 1, 3, none⟩) (by first | (simp; done) | (simp; omega)) (.int .i64 n.gid)) (a := ⟨w.heap.size + 1, 4, none⟩) (by first | (simp; done) | (simp; omega)) (.int .i64 n.links)) (a := ⟨w.heap.size + 1, 5, none⟩) (by first | (simp; done) | (simp; omega)) (.int .i64 n.size)) (a := ⟨w.heap.size + 1, 6, none⟩) (by first | (simp; done) | (simp; omega)) (.int .i64 n.tick)) (a := ⟨w.heap.size + 1, 7, none⟩) (by first | (simp; done) | (simp; omega)) (.slice a0 n.blocks.length d0)) (a := ⟨w.heap.size + 1, 8, none⟩) (by first | (simp; done) | (simp; omega)) (.slice a1 n.acl.length d1)) (a := ⟨w.heap.size + 1, 9, none⟩) (by first | (simp; done) | (simp; omega)) (.slice a2 n.dflt.length d2))
  have hO42 := (AeF.own_set (AeF.own_set (AeF.own_set (AeF.own_set (AeF.own_set (AeF.own_set (AeF.own_set (AeF.own_set (AeF.own_set (AeF.own_set (AeF.own_set HO2.out (a := ⟨w.heap.size + 1 + 1, 9, none⟩) (by first | (simp; done) | (simp; omega)) (.slice a2 n.dflt.length d2)) (a := ⟨w.heap.size + 1, 0, none⟩) (by first | (simp; done) | (simp; omega)) (.int .i64 n.kind)) (a := ⟨w.heap.size + 1, 1, none⟩) (by first | (simp; done) | (simp; omega)) (.int .i64 n.mode)) (a := ⟨w.heap.size + 1, 2, none⟩) (by first | (simp; done) | (simp; omega)) (.int .i64 n.uid)) (a := ⟨w.heap.size + 1, 3, none⟩) (by first | (simp; done) | (simp; omega)) (.int .i64 n.gid)) (a := ⟨w.heap.size + 1, 4, none⟩) (by first | (simp; done) | (simp; omega)) (.int .i64 n.links)) (a := ⟨w.heap.size + 1, 5, none⟩) (by first | (simp; done) | (simp; omega)) (.int .i64 n.size)) (a := ⟨w.heap.size + 1, 6, none⟩) (by first | (simp; done) | (simp; omega)) (.int .i64 n.tick)) (a := ⟨w.heap.size + 1, 7, none⟩) (by first | (simp; done) | (simp; omega)) (.slice a0 n.blocks.length d0)) (a := ⟨w.heap.size + 1, 8, none⟩) (by first | (simp; done) | (simp; omega)) (.slice a1 n.acl.length d1)) (a := ⟨w.heap.size + 1, 9, none⟩) (by first | (simp; done) | (simp; omega)) (.slice a2 n.dflt.length d2))
  generalize (((((((((((w3.setCell ⟨w.heap.size + 1 + 1, 9, none⟩ (.slice a2 n.dflt.length d2)).setCell ⟨w.heap.size + 1, 0, none⟩ (.int .i64 n.kind)).setCell ⟨w.heap.size + 1, 1, none⟩ (.int .i64 n.mode)).setCell ⟨w.heap.size + 1, 2, none⟩ (.int .i64 n.uid)).setCell ⟨w.heap.size + 1, 3, none⟩ (.int .i64 n.gid)).setCell ⟨w.heap.size + 1, 4, none⟩ (.int .i64 n.links)).setCell ⟨w.heap.size + 1, 5, none⟩ (.int .i64 n.size)).setCell ⟨w.heap.size + 1, 6, none⟩ (.int .i64 n.tick)).setCell ⟨w.heap.size + 1, 7, none⟩ (.slice a0 n.blocks.length d0)).setCell ⟨w.heap.size + 1, 8, none⟩ (.slice a1 n.acl.length d1)).setCell ⟨w.heap.size + 1, 9, none⟩ (.slice a2 n.dflt.length d2)) = w9 at hF hB4 hO40 hO41 hO42 ⊢
  have fc0 : w9.cell? ⟨w.heap.size + 1, 0, none⟩ = some (.int .i64 n.kind) := hF.cell 0
  have fc1 : w9.cell? ⟨w.heap.size + 1, 1, none⟩ = some (.int .i64 n.mode) := hF.cell 1
  have fc2 : w9.cell? ⟨w.heap.size + 1, 2, none⟩ = some (.int .i64 n.uid) := hF.cell 2
  have fc3 : w9.cell? ⟨w.heap.size + 1, 3, none⟩ = some (.int .i64 n.gid) := hF.cell 3
  have fc4 : w9.cell? ⟨w.heap.size + 1, 4, none⟩ = some (.int .i64 n.links) := hF.cell 4
  have fc5 : w9.cell? ⟨w.heap.size + 1, 5, none⟩ = some (.int .i64 n.size) := hF.cell 5
  have fc6 : w9.cell? ⟨w.heap.size + 1, 6, none⟩ = some (.int .i64 n.tick) := hF.cell 6
  have fc7 : w9.cell? ⟨w.heap.size + 1, 7, none⟩ = some (.slice a0 n.blocks.length d0) := hF.cell 7
  have fc8 : w9.cell? ⟨w.heap.size + 1, 8, none⟩ = some (.slice a1 n.acl.length d1) := hF.cell 8
  have fc9 : w9.cell? ⟨w.heap.size + 1, 9, none⟩ = some (.slice a2 n.dflt.length d2) := hF.cell 9
  have hnd : (S0 ++ S1 ++ S2).Nodup := (nodup_app (nodup_app (NiF.own_nodup hO40) (AeF.own_nodup hO41) (Lies.apart HL0.out HL1.out (by omega))) (AeF.own_nodup hO42) (apart_app.2 ⟨(Lies.apart HL0.out HL2.out (by omega)), Lies.apart HL1.out HL2.out (by omega)⟩))
  exact bodyPost_ret (v := .agg #[.int .i64 n.kind, .int .i64 n.mode, .int .i64 n.uid, .int .i64 n.gid, .int .i64 n.links, .int .i64 n.size, .int .i64 n.tick, (.slice a0 n.blocks.length d0), (.slice a1 n.acl.length d1), (.slice a2 n.dflt.length d2)]) (by simp [results, Tryz.results164, go_sem, fc0, fc1, fc2, fc3, fc4, fc5, fc6, fc7, fc8, fc9]) rfl ⟨_, _, rfl, ⟨_, _, _, S0, S1, S2, rfl, rfl, hnd, NiF.own_mono hO40 (by omega), AeF.own_mono hO41 (by omega), AeF.own_mono hO42 (by omega)⟩, hB4⟩

set_option maxRecDepth 100000 in
set_option maxHeartbeats 1600000 in
theorem eq_any (w : World) (va vb : Value) (n : L) (hc : cost n ≤ 1073741824) (h : Holds w va n) (h' : Holds w vb n) :
    Calls Tryz.prog 166 #[va, vb] w fun e w' => e = .returned (.bool true) ∧ Below w.heap.size w w' := by
  obtain ⟨x0, x1, x2, rfl, g0, g1, g2⟩ := h
  obtain ⟨y0, y1, y2, rfl, k0, k1, k2⟩ := h'
  have H0 := Lib.hid g0
  have K0 := Lib.hid k0
  have H1 := Lib.hid g1
  have K1 := Lib.hid k1
  have H2 := Lib.hid g2
  have K2 := Lib.hid k2
  have hcc : NiF.cost n.blocks + AeF.cost n.acl + AeF.cost n.dflt ≤ 1073741824 := hc
  clear g0 k0 g1 k1 g2 k2 hc
  have HB := Lib.hid (((Below.refl w.heap.size w).alloc (Nat.le_refl _) (.cells #[.int .i64 n.kind, .int .i64 n.mode, .int .i64 n.uid, .int .i64 n.gid, .int .i64 n.links, .int .i64 n.size, .int .i64 n.tick, x0, x1, x2] 34)).alloc (by simp) (.cells #[.int .i64 n.kind, .int .i64 n.mode, .int .i64 n.uid, .int .i64 n.gid, .int .i64 n.links, .int .i64 n.size, .int .i64 n.tick, y0, y1, y2] 34))
  have HX := Lib.hid ((new w #[.int .i64 n.kind, .int .i64 n.mode, .int .i64 n.uid, .int .i64 n.gid, .int .i64 n.links, .int .i64 n.size, .int .i64 n.tick, x0, x1, x2] 34).alloc (.cells #[.int .i64 n.kind, .int .i64 n.mode, .int .i64 n.uid, .int .i64 n.gid, .int .i64 n.links, .int .i64 n.size, .int .i64 n.tick, y0, y1, y2] 34))
  have HY := Lib.hid (new_at (w.alloc (.cells #[.int .i64 n.kind, .int .i64 n.mode, .int .i64 n.uid, .int .i64 n.gid, .int .i64 n.links, .int .i64 n.size, .int .i64 n.tick, x0, x1, x2] 34)) #[.int .i64 n.kind, .int .i64 n.mode, .int .i64 n.uid, .int .i64 n.gid, .int .i64 n.links, .int .i64 n.size, .int .i64 n.tick, y0, y1, y2] 34 (w.heap.size + 1) (by simp))
  go_enter Tryz.func166, Tryz.ntmps166
  go_wp2_with fail
  refine (NiF.eq_any _ x0 y0 n.blocks (by omega) (NiF.holds_below H0.out HB.out) (NiF.holds_below K0.out HB.out)).mono ?_
  rintro e w1 ⟨rfl, hb⟩
  replace HX := Lib.hid (HX.out.all hb)
  replace HY := Lib.hid (HY.out.all hb)
  replace HB := Lib.hid (HB.out.trans (hb.mono HB.out.size))
  clear hb
  have cx08 := HX.out.cell 8
  have cy08 := HY.out.cell 8
  have cx09 := HX.out.cell 9
  have cy09 := HY.out.cell 9
  dsimp at cx08 cy08 cx09 cy09
  go_wp2_with fail
  refine (AeF.eq_any _ x1 y1 n.acl (by omega) (AeF.holds_below H1.out HB.out) (AeF.holds_below K1.out HB.out)).mono ?_
  rintro e w2 ⟨rfl, hb⟩
  replace HX := Lib.hid (HX.out.all hb)
  replace HY := Lib.hid (HY.out.all hb)
  replace HB := Lib.hid (HB.out.trans (hb.mono HB.out.size))
  clear hb
  have cx19 := HX.out.cell 9
  have cy19 := HY.out.cell 9
  dsimp at cx19 cy19
  go_wp2_with fail
  refine (AeF.eq_any _ x2 y2 n.dflt (by omega) (AeF.holds_below H2.out HB.out) (AeF.holds_below K2.out HB.out)).mono ?_
  rintro e w3 ⟨rfl, hb⟩
  replace HX := Lib.hid (HX.out.all hb)
  replace HY := Lib.hid (HY.out.all hb)
  replace HB := Lib.hid (HB.out.trans (hb.mono HB.out.size))
  clear hb
  go_wp2
  go_ret
  exact ⟨rfl, HB.out⟩

def marks (k : Nat) (n : L) : L := { n with blocks := NiF.marks (k) n.blocks, acl := AeF.marks (k + NiF.wid n.blocks) n.acl, dflt := AeF.marks (k + NiF.wid n.blocks + AeF.wid n.acl) n.dflt }
def wid (n : L) : Nat := NiF.wid n.blocks + AeF.wid n.acl + AeF.wid n.dflt
theorem wid_le {n : L} (h : cost n ≤ 1048576) : 1 + wid n ≤ 1073741824 := by
  unfold cost at h
  unfold wid
  have h0 : NiF.wid n.blocks ≤ 3 * NiF.cost n.blocks := NiF.wid_cost _
  have h1 : AeF.wid n.acl ≤ 3 * AeF.cost n.acl := AeF.wid_cost _
  have h2 : AeF.wid n.dflt ≤ 3 * AeF.cost n.dflt := AeF.wid_cost _
  omega
theorem wid_cost (n : L) : wid n ≤ 3 * cost n := by
  unfold cost wid
  have h0 : NiF.wid n.blocks ≤ 3 * NiF.cost n.blocks := NiF.wid_cost _
  have h1 : AeF.wid n.acl ≤ 3 * AeF.cost n.acl := AeF.wid_cost _
  have h2 : AeF.wid n.dflt ≤ 3 * AeF.cost n.dflt := AeF.wid_cost _
  omega
set_option maxRecDepth 100000 in
/-- Cells that read as data of the type hold a value. -/
theorem in_cells {H : Type} {enc : TypeId × Value → H} {W : World} {fuel : Nat} {cs : List Value} {x : DataW H × List MemPlace} (hf : DataW.trod enc Tryz.prog W 0 (fun _ => true) true fuel 170 cs = some x) :
    ∃ (n : L) (r0 r1 r2 : Value), cs = [.int .i64 n.kind, .int .i64 n.mode, .int .i64 n.uid, .int .i64 n.gid, .int .i64 n.links, .int .i64 n.size, .int .i64 n.tick, r0, r1, r2] ∧ Lim n ∧ NiF.Holds W r0 n.blocks ∧ AeF.Holds W r1 n.acl ∧ AeF.Holds W r2 n.dflt := by
  obtain ⟨xs, fu, _, rfl, hl, hlen, hfs⟩ := DataW.trod_struct Tryz.underlying170 hf
  rw [show Tryz.prog.cellsOf 170 = 10 from by kernel_rfl] at hl
  obtain ⟨c0, c1, c2, c3, c4, c5, c6, c7, c8, c9, rfl⟩ : ∃ c0 c1 c2 c3 c4 c5 c6 c7 c8 c9, cs = [c0, c1, c2, c3, c4, c5, c6, c7, c8, c9] := by
    match cs, hl with
    | [c0, c1, c2, c3, c4, c5, c6, c7, c8, c9], _ => exact ⟨_, _, _, _, _, _, _, _, _, _, rfl⟩
  obtain ⟨z0, z1, z2, z3, z4, z5, z6, z7, z8, z9, rfl⟩ : ∃ z0 z1 z2 z3 z4 z5 z6 z7 z8 z9, xs = [z0, z1, z2, z3, z4, z5, z6, z7, z8, z9] := by
    match xs, hlen with
    | [c0, c1, c2, c3, c4, c5, c6, c7, c8, c9], _ => exact ⟨_, _, _, _, _, _, _, _, _, _, rfl⟩
  have hc_7 : Tryz.prog.cellsOf 31 = 1 := by kernel_rfl
  have hc_8 : Tryz.prog.cellsOf 168 = 1 := by kernel_rfl
  have hc_0 : Tryz.prog.cellsOf 3 = 1 := by kernel_rfl
  have e0 : DataW.trod enc Tryz.prog W 0 (fun _ => true) true fu 3 [c0] = some z0 := by simpa [hc_0] using hfs 0 _ rfl
  have e1 : DataW.trod enc Tryz.prog W 0 (fun _ => true) true fu 3 [c1] = some z1 := by simpa [hc_0] using hfs 1 _ rfl
  have e2 : DataW.trod enc Tryz.prog W 0 (fun _ => true) true fu 3 [c2] = some z2 := by simpa [hc_0] using hfs 2 _ rfl
  have e3 : DataW.trod enc Tryz.prog W 0 (fun _ => true) true fu 3 [c3] = some z3 := by simpa [hc_0] using hfs 3 _ rfl
  have e4 : DataW.trod enc Tryz.prog W 0 (fun _ => true) true fu 3 [c4] = some z4 := by simpa [hc_0] using hfs 4 _ rfl
  have e5 : DataW.trod enc Tryz.prog W 0 (fun _ => true) true fu 3 [c5] = some z5 := by simpa [hc_0] using hfs 5 _ rfl
  have e6 : DataW.trod enc Tryz.prog W 0 (fun _ => true) true fu 3 [c6] = some z6 := by simpa [hc_0] using hfs 6 _ rfl
  have e7 : DataW.trod enc Tryz.prog W 0 (fun _ => true) true fu 31 [c7] = some z7 := by simpa [hc_7] using hfs 7 _ rfl
  have e8 : DataW.trod enc Tryz.prog W 0 (fun _ => true) true fu 168 [c8] = some z8 := by simpa [hc_8] using hfs 8 _ rfl
  have e9 : DataW.trod enc Tryz.prog W 0 (fun _ => true) true fu 168 [c9] = some z9 := by simpa [hc_8] using hfs 9 _ rfl
  obtain ⟨i0, hi0, _, m0⟩ := DataW.trod_int Tryz.underlying3 e0
  obtain rfl : c0 = .int .i64 i0 := by simpa using hi0
  obtain ⟨i1, hi1, _, m1⟩ := DataW.trod_int Tryz.underlying3 e1
  obtain rfl : c1 = .int .i64 i1 := by simpa using hi1
  obtain ⟨i2, hi2, _, m2⟩ := DataW.trod_int Tryz.underlying3 e2
  obtain rfl : c2 = .int .i64 i2 := by simpa using hi2
  obtain ⟨i3, hi3, _, m3⟩ := DataW.trod_int Tryz.underlying3 e3
  obtain rfl : c3 = .int .i64 i3 := by simpa using hi3
  obtain ⟨i4, hi4, _, m4⟩ := DataW.trod_int Tryz.underlying3 e4
  obtain rfl : c4 = .int .i64 i4 := by simpa using hi4
  obtain ⟨i5, hi5, _, m5⟩ := DataW.trod_int Tryz.underlying3 e5
  obtain rfl : c5 = .int .i64 i5 := by simpa using hi5
  obtain ⟨i6, hi6, _, m6⟩ := DataW.trod_int Tryz.underlying3 e6
  obtain rfl : c6 = .int .i64 i6 := by simpa using hi6
  obtain ⟨l7, m7, h7⟩ := NiF.in_cell e7
  obtain ⟨l8, m8, h8⟩ := AeF.in_cell e8
  obtain ⟨l9, m9, h9⟩ := AeF.in_cell e9
  exact ⟨⟨i0, i1, i2, i3, i4, i5, i6, l7, l8, l9⟩, c7, c8, c9, rfl, ⟨rg_of m0, rg_of m1, rg_of m2, rg_of m3, rg_of m4, rg_of m5, rg_of m6, m7, m8, m9⟩, h7, h8, h9⟩
set_option maxRecDepth 100000 in
/-- What an argument of that type offers. -/
theorem in_any {H : Type} {enc : TypeId × Value → H} {W : World} {b0 : Nat} {v : Value} {x : DataW H} {p : List MemPlace} (hv : Value.okWide Tryz.prog W .any b0 170 v) (h : DataW.Trod enc Tryz.prog W 0 (fun _ => true) true 170 v x p) :
    ∃ n : L, Lim n ∧ Holds W v n := by
  obtain ⟨cs, rfl, hsz⟩ := okWide_struct Tryz.underlying170 hv
  obtain ⟨fuel, hf⟩ := h
  obtain ⟨n, r0, r1, r2, hcs, hl, hr⟩ := in_cells hf
  have : cs = #[.int .i64 n.kind, .int .i64 n.mode, .int .i64 n.uid, .int .i64 n.gid, .int .i64 n.links, .int .i64 n.size, .int .i64 n.tick, r0, r1, r2] := Array.toList_inj.1 (by simpa [Value.cells] using hcs)
  subst this
  exact ⟨n, hl, r0, r1, r2, rfl, hr⟩
end Go.Proofs.YtafmpllkehbmeaaGreatDoor.In
