/- Proved: for every drawn code, the law FnInodes returns true: a valid inode is recovered from its bytes, it is valid, its bytes are 96, no more blocks are in use than it has, and it has as many as its size wants. Condition: none beyond the row's own (a tied card: the table of the fields reads as the program's text lays it). -/
import Derived.Test.YthobdeidjagnhaaDoorFnBase
import Derived.Test.YthobdeidjagnhaaDoorCards
import Derived.Test.YthobdeidjagnhaaDoorTie
import Derived.SevenTiedAt
namespace Go.Proofs.YthobdeidjagnhaaDoor.FnInodes
open Go.ChangeShapes Go.WideShapes Go.ChangeAt Go.RowKit
open Cur Bx Foot InoV InMk
open ADraw (grown_trans grown_row)
open CDraw (code_at)
set_option linter.unusedVariables false

theorem bk_forms {w : World} {base : Nat} {v : Value} {n : I} {S : List Nat} (h : In.Own w base v n S) : ∃ (a0 : Option Addr) (a3 : Nat) (a1 : Option Addr) (a4 : Nat) (a2 : Option Addr) (a5 : Nat), v = .agg #[.int .i64 n.kind, .int .i64 n.mode, .int .i64 n.uid, .int .i64 n.gid, .int .i64 n.links, .int .i64 n.size, .int .i64 n.tick, .slice a0 n.blocks.length a3, .slice a1 n.acl.length a4, .slice a2 n.dflt.length a5] := by
  obtain ⟨r0, r1, r2, S0, S1, S2, rfl, _, _, h0, h1, h2⟩ := h
  obtain ⟨x0, c0, rfl⟩ := NiF.own_form h0
  obtain ⟨x1, c1, rfl⟩ := AeF.own_form h1
  obtain ⟨x2, c2, rfl⟩ := AeF.own_form h2
  exact ⟨_, _, _, _, _, _, rfl⟩
theorem own_row {w w' : World} {base r : Nat} {v : Value} {n : I} {S : List Nat} (h : In.Own w base v n S) (hr : r < base) (hg : w.grownBy w' (some r)) : In.Own w' base v n S :=
  In.own_chg h (Chg.of_grown hg) (fun k hk hh => by
    have := (In.own_lies h k hk).1
    simp at hh
    omega)
theorem ok_rg {n : I} (h : okI n = true) : ∀ x ∈ n.blocks, Rg x := fun x hx => by
  obtain ⟨i, hi, rfl⟩ := List.getElem_of_mem hx
  have := blks_at (ok_blocks h).1 hi
  rw [List.getD_eq_getElem?_getD, List.getElem?_eq_getElem hi] at this
  simp only [Option.getD_some] at this
  unfold Rg
  omega
theorem ok_cost {n : I} (h : okI n = true) : In.cost n ≤ 1073741824 := by
  have h1 := (ok_blocks h).2
  have h2 := AclV.ok_len (ok_acls h).1
  have h3 := AclV.ok_len (ok_acls h).2
  unfold In.cost NiF.cost AeF.cost
  omega

set_option maxRecDepth 100000 in
set_option maxHeartbeats 2000000 in
theorem make_any (w : World) (cv : Value) (ns : List Nat) (hc : CodeIn w w.heap.size cv ns) :
    Calls Tryd.prog 7 #[cv] w fun e w' => ∃ (v : Value) (n : I) (S : List Nat), e = .returned v ∧ okI n = true ∧ In.Own w' w.heap.size v n S ∧ Below w.heap.size w w' := by
  have hb1 := Joins.below_alloc1 w (.cells #[.int .i64 0, .int .i64 0, .int .i64 0, .int .i64 0, .int .i64 0, .int .i64 0, .int .i64 0, .slice none 0 0, .slice none 0 0, .slice none 0 0] 26)
  have HC := Lib.hid (code_at hc hb1)
  have HB := Lib.hid hb1
  have HR := Lib.hid (new w #[.int .i64 0, .int .i64 0, .int .i64 0, .int .i64 0, .int .i64 0, .int .i64 0, .int .i64 0, .slice none 0 0, .slice none 0 0, .slice none 0 0] 26)
  have hs0 : w.heap.size < (w.alloc (.cells #[.int .i64 0, .int .i64 0, .int .i64 0, .int .i64 0, .int .i64 0, .int .i64 0, .int .i64 0, .slice none 0 0, .slice none 0 0, .slice none 0 0] 26)).heap.size := by simp
  clear hc hb1
  go_enter Tryd.func7, Tryd.ntmps7
  go_wp2_with fail
  generalize w.alloc (.cells #[.int .i64 0, .int .i64 0, .int .i64 0, .int .i64 0, .int .i64 0, .int .i64 0, .int .i64 0, .slice none 0 0, .slice none 0 0, .slice none 0 0] 26) = w0 at HC HB HR hs0 ⊢
  refine (new_any _ cv ns HC.out).mono ?_
  rintro e w1 ⟨rfl, hc1, hb1, hlt⟩
  have HC1 := Lib.hid hc1
  replace HR := Lib.hid (HR.out.all hb1)
  replace HB := Lib.hid (HB.out.trans (hb1.mono HB.out.size))
  have hs1 := hb1.size
  clear hc1 hb1 HC
  go_wp2_with fail
  refine (draw_any _ _ _ _ _ _ _ HC1.out).mono ?_
  rintro e w2 ⟨v, n, S, rfl, hok, hown, hg⟩
  obtain ⟨a0, a3, a1, a4, a2, a5, rfl⟩ := bk_forms hown
  replace HR := Lib.hid (Bk.grown HR.out hg (by simp; omega))
  replace HB := Lib.hid (HB.out.grown hg HB.out.size (fun k hk => by cases hk; omega))
  have HO := Lib.hid hown
  have HOK := Lib.hid hok
  clear hown hg hok
  have x0 : w2.cell? ⟨w.heap.size, 0, none⟩ = some (.int .i64 0) := (HR.out).cell 0
  have x1 : w2.cell? ⟨w.heap.size, 1, none⟩ = some (.int .i64 0) := (HR.out).cell 1
  have x2 : w2.cell? ⟨w.heap.size, 2, none⟩ = some (.int .i64 0) := (HR.out).cell 2
  have x3 : w2.cell? ⟨w.heap.size, 3, none⟩ = some (.int .i64 0) := (HR.out).cell 3
  have x4 : w2.cell? ⟨w.heap.size, 4, none⟩ = some (.int .i64 0) := (HR.out).cell 4
  have x5 : w2.cell? ⟨w.heap.size, 5, none⟩ = some (.int .i64 0) := (HR.out).cell 5
  have x6 : w2.cell? ⟨w.heap.size, 6, none⟩ = some (.int .i64 0) := (HR.out).cell 6
  have x7 : w2.cell? ⟨w.heap.size, 7, none⟩ = some (.slice none 0 0) := (HR.out).cell 7
  have x8 : w2.cell? ⟨w.heap.size, 8, none⟩ = some (.slice none 0 0) := (HR.out).cell 8
  have x9 : w2.cell? ⟨w.heap.size, 9, none⟩ = some (.slice none 0 0) := (HR.out).cell 9
  have y0 : w2.frozen? ⟨w.heap.size, 0, none⟩ = false := (HR.out).free 0
  have y1 : w2.frozen? ⟨w.heap.size, 1, none⟩ = false := (HR.out).free 1
  have y2 : w2.frozen? ⟨w.heap.size, 2, none⟩ = false := (HR.out).free 2
  have y3 : w2.frozen? ⟨w.heap.size, 3, none⟩ = false := (HR.out).free 3
  have y4 : w2.frozen? ⟨w.heap.size, 4, none⟩ = false := (HR.out).free 4
  have y5 : w2.frozen? ⟨w.heap.size, 5, none⟩ = false := (HR.out).free 5
  have y6 : w2.frozen? ⟨w.heap.size, 6, none⟩ = false := (HR.out).free 6
  have y7 : w2.frozen? ⟨w.heap.size, 7, none⟩ = false := (HR.out).free 7
  have y8 : w2.frozen? ⟨w.heap.size, 8, none⟩ = false := (HR.out).free 8
  have y9 : w2.frozen? ⟨w.heap.size, 9, none⟩ = false := (HR.out).free 9
  go_wp2
  have hF := set10 (.int .i64 n.kind) (.int .i64 n.mode) (.int .i64 n.uid) (.int .i64 n.gid) (.int .i64 n.links) (.int .i64 n.size) (.int .i64 n.tick) (.slice a0 n.blocks.length a3) (.slice a1 n.acl.length a4) (.slice a2 n.dflt.length a5) HR.out
  generalize (((((((((w2.setCell ⟨w.heap.size, 0, none⟩ (.int .i64 n.kind)).setCell ⟨w.heap.size, 1, none⟩ (.int .i64 n.mode)).setCell ⟨w.heap.size, 2, none⟩ (.int .i64 n.uid)).setCell ⟨w.heap.size, 3, none⟩ (.int .i64 n.gid)).setCell ⟨w.heap.size, 4, none⟩ (.int .i64 n.links)).setCell ⟨w.heap.size, 5, none⟩ (.int .i64 n.size)).setCell ⟨w.heap.size, 6, none⟩ (.int .i64 n.tick)).setCell ⟨w.heap.size, 7, none⟩ (.slice a0 n.blocks.length a3)).setCell ⟨w.heap.size, 8, none⟩ (.slice a1 n.acl.length a4)).setCell ⟨w.heap.size, 9, none⟩ (.slice a2 n.dflt.length a5) = wf at hF ⊢
  obtain ⟨hF, hgf⟩ := hF
  have HOF := Lib.hid (own_row HO.out (by omega) hgf)
  have HBF := Lib.hid (HB.out.grown hgf HB.out.size (fun k hk => by cases hk; omega))
  clear hgf
  have n0 : wf.cell? ⟨w.heap.size, 0, none⟩ = some (.int .i64 n.kind) := (hF).cell 0
  have n1 : wf.cell? ⟨w.heap.size, 1, none⟩ = some (.int .i64 n.mode) := (hF).cell 1
  have n2 : wf.cell? ⟨w.heap.size, 2, none⟩ = some (.int .i64 n.uid) := (hF).cell 2
  have n3 : wf.cell? ⟨w.heap.size, 3, none⟩ = some (.int .i64 n.gid) := (hF).cell 3
  have n4 : wf.cell? ⟨w.heap.size, 4, none⟩ = some (.int .i64 n.links) := (hF).cell 4
  have n5 : wf.cell? ⟨w.heap.size, 5, none⟩ = some (.int .i64 n.size) := (hF).cell 5
  have n6 : wf.cell? ⟨w.heap.size, 6, none⟩ = some (.int .i64 n.tick) := (hF).cell 6
  have n7 : wf.cell? ⟨w.heap.size, 7, none⟩ = some (.slice a0 n.blocks.length a3) := (hF).cell 7
  have n8 : wf.cell? ⟨w.heap.size, 8, none⟩ = some (.slice a1 n.acl.length a4) := (hF).cell 8
  have n9 : wf.cell? ⟨w.heap.size, 9, none⟩ = some (.slice a2 n.dflt.length a5) := (hF).cell 9
  exact bodyPost_ret (v := .agg #[.int .i64 n.kind, .int .i64 n.mode, .int .i64 n.uid, .int .i64 n.gid, .int .i64 n.links, .int .i64 n.size, .int .i64 n.tick, .slice a0 n.blocks.length a3, .slice a1 n.acl.length a4, .slice a2 n.dflt.length a5]) (by simp [results, Tryd.results7, go_sem, n0, n1, n2, n3, n4, n5, n6, n7, n8, n9]) rfl ⟨_, n, S, rfl, HOK.out, In.own_mono HOF.out (by omega), HBF.out⟩

set_option maxRecDepth 100000 in
set_option maxHeartbeats 4000000 in
theorem law_any (cv : Value) (ns : List Nat) (w : World) (hc : CodeIn w w.heap.size cv ns) (hv : InOk.Vars w) :
    Calls Tryd.prog 3 #[cv] w fun e w' => e = .returned (.bool true) ∧ Below w.heap.size w w' := by
  have HV := Lib.hid hv
  have HMK := Lib.hid (make_any w cv ns hc)
  obtain ⟨a, cap, rfl⟩ : ∃ a cap, cv = .slice a ns.length cap := ⟨_, _, hc.choose_spec.choose_spec.1⟩
  have hlen := hc.choose_spec.choose_spec.2.1
  have hl2 : ¬ (1048576 : Int) < (ns.length : Int) := by omega
  clear hc hv
  go_enter Tryd.func3, Tryd.ntmps3
  go_wp2_with fail
  refine HMK.out.mono ?_
  rintro e w1 ⟨v, n, S, rfl, hok, hown, hb⟩
  have HB := Lib.hid hb
  have HL := Lib.hid (In.own_holds hown)
  have HNUM := Lib.hid (ok_nums hok)
  have hcost := ok_cost hok
  have HRG := Lib.hid (ok_rg hok)
  have HOK := Lib.hid hok
  have hlb := (ok_blocks hok).2
  have hnv : needV n.size = (n.blocks.length : Int) := (ok_nums hok).2.2.2.2.2.2.2.2.2.2.2.2.2.2.symm
  have hps : (packI n).size = 96 := packI_size hok
  obtain ⟨a0, a3, a1, a4, a2, a5, rfl⟩ := bk_forms hown
  have H3 := Lib.hid (new w1 #[.int .i64 n.kind, .int .i64 n.mode, .int .i64 n.uid, .int .i64 n.gid, .int .i64 n.links, .int .i64 n.size, .int .i64 n.tick, .slice a0 n.blocks.length a3, .slice a1 n.acl.length a4, .slice a2 n.dflt.length a5] 26)
  replace HB := Lib.hid (HB.out.alloc HB.out.size (.cells #[.int .i64 n.kind, .int .i64 n.mode, .int .i64 n.uid, .int .i64 n.gid, .int .i64 n.links, .int .i64 n.size, .int .i64 n.tick, .slice a0 n.blocks.length a3, .slice a1 n.acl.length a4, .slice a2 n.dflt.length a5] 26))
  replace HL := Lib.hid (In.holds_below HL.out ((Below.refl w1.heap.size w1).alloc (Nat.le_refl _) (.cells #[.int .i64 n.kind, .int .i64 n.mode, .int .i64 n.uid, .int .i64 n.gid, .int .i64 n.links, .int .i64 n.size, .int .i64 n.tick, .slice a0 n.blocks.length a3, .slice a1 n.acl.length a4, .slice a2 n.dflt.length a5] 26)))
  obtain ⟨b3, hb3⟩ : ∃ b, b = w1.heap.size := ⟨_, rfl⟩
  have hb3l : w.heap.size ≤ b3 := by have := hb.size; omega
  clear hown hb HMK hok
  have hw2l : b3 < (w1.alloc (.cells #[.int .i64 n.kind, .int .i64 n.mode, .int .i64 n.uid, .int .i64 n.gid, .int .i64 n.links, .int .i64 n.size, .int .i64 n.tick, .slice a0 n.blocks.length a3, .slice a1 n.acl.length a4, .slice a2 n.dflt.length a5] 26)).heap.size := by rw [hb3]; simp
  rw [← hb3] at H3
  have HS3 := Lib.hid hb3
  clear hb3
  have x0 : (w1.alloc (.cells #[.int .i64 n.kind, .int .i64 n.mode, .int .i64 n.uid, .int .i64 n.gid, .int .i64 n.links, .int .i64 n.size, .int .i64 n.tick, .slice a0 n.blocks.length a3, .slice a1 n.acl.length a4, .slice a2 n.dflt.length a5] 26)).cell? ⟨b3, 0, none⟩ = some (.int .i64 n.kind) := (H3.out).cell 0
  have x1 : (w1.alloc (.cells #[.int .i64 n.kind, .int .i64 n.mode, .int .i64 n.uid, .int .i64 n.gid, .int .i64 n.links, .int .i64 n.size, .int .i64 n.tick, .slice a0 n.blocks.length a3, .slice a1 n.acl.length a4, .slice a2 n.dflt.length a5] 26)).cell? ⟨b3, 1, none⟩ = some (.int .i64 n.mode) := (H3.out).cell 1
  have x2 : (w1.alloc (.cells #[.int .i64 n.kind, .int .i64 n.mode, .int .i64 n.uid, .int .i64 n.gid, .int .i64 n.links, .int .i64 n.size, .int .i64 n.tick, .slice a0 n.blocks.length a3, .slice a1 n.acl.length a4, .slice a2 n.dflt.length a5] 26)).cell? ⟨b3, 2, none⟩ = some (.int .i64 n.uid) := (H3.out).cell 2
  have x3 : (w1.alloc (.cells #[.int .i64 n.kind, .int .i64 n.mode, .int .i64 n.uid, .int .i64 n.gid, .int .i64 n.links, .int .i64 n.size, .int .i64 n.tick, .slice a0 n.blocks.length a3, .slice a1 n.acl.length a4, .slice a2 n.dflt.length a5] 26)).cell? ⟨b3, 3, none⟩ = some (.int .i64 n.gid) := (H3.out).cell 3
  have x4 : (w1.alloc (.cells #[.int .i64 n.kind, .int .i64 n.mode, .int .i64 n.uid, .int .i64 n.gid, .int .i64 n.links, .int .i64 n.size, .int .i64 n.tick, .slice a0 n.blocks.length a3, .slice a1 n.acl.length a4, .slice a2 n.dflt.length a5] 26)).cell? ⟨b3, 4, none⟩ = some (.int .i64 n.links) := (H3.out).cell 4
  have x5 : (w1.alloc (.cells #[.int .i64 n.kind, .int .i64 n.mode, .int .i64 n.uid, .int .i64 n.gid, .int .i64 n.links, .int .i64 n.size, .int .i64 n.tick, .slice a0 n.blocks.length a3, .slice a1 n.acl.length a4, .slice a2 n.dflt.length a5] 26)).cell? ⟨b3, 5, none⟩ = some (.int .i64 n.size) := (H3.out).cell 5
  have x6 : (w1.alloc (.cells #[.int .i64 n.kind, .int .i64 n.mode, .int .i64 n.uid, .int .i64 n.gid, .int .i64 n.links, .int .i64 n.size, .int .i64 n.tick, .slice a0 n.blocks.length a3, .slice a1 n.acl.length a4, .slice a2 n.dflt.length a5] 26)).cell? ⟨b3, 6, none⟩ = some (.int .i64 n.tick) := (H3.out).cell 6
  have x7 : (w1.alloc (.cells #[.int .i64 n.kind, .int .i64 n.mode, .int .i64 n.uid, .int .i64 n.gid, .int .i64 n.links, .int .i64 n.size, .int .i64 n.tick, .slice a0 n.blocks.length a3, .slice a1 n.acl.length a4, .slice a2 n.dflt.length a5] 26)).cell? ⟨b3, 7, none⟩ = some (.slice a0 n.blocks.length a3) := (H3.out).cell 7
  have x8 : (w1.alloc (.cells #[.int .i64 n.kind, .int .i64 n.mode, .int .i64 n.uid, .int .i64 n.gid, .int .i64 n.links, .int .i64 n.size, .int .i64 n.tick, .slice a0 n.blocks.length a3, .slice a1 n.acl.length a4, .slice a2 n.dflt.length a5] 26)).cell? ⟨b3, 8, none⟩ = some (.slice a1 n.acl.length a4) := (H3.out).cell 8
  have x9 : (w1.alloc (.cells #[.int .i64 n.kind, .int .i64 n.mode, .int .i64 n.uid, .int .i64 n.gid, .int .i64 n.links, .int .i64 n.size, .int .i64 n.tick, .slice a0 n.blocks.length a3, .slice a1 n.acl.length a4, .slice a2 n.dflt.length a5] 26)).cell? ⟨b3, 9, none⟩ = some (.slice a2 n.dflt.length a5) := (H3.out).cell 9
  go_wp2_with fail
  rw [← HS3.out]
  generalize w1.alloc (.cells #[.int .i64 n.kind, .int .i64 n.mode, .int .i64 n.uid, .int .i64 n.gid, .int .i64 n.links, .int .i64 n.size, .int .i64 n.tick, .slice a0 n.blocks.length a3, .slice a1 n.acl.length a4, .slice a2 n.dflt.length a5] 26) = w2 at H3 HB HL hw2l ⊢
  have hvb : InOk.Vars w2 := HV.out.below HB.out (Nat.le_refl _)
  refine (InPi.pack_any _ _ n hcost HRG.out hvb HL.out).mono ?_
  rintro e w3 ⟨rfl, hb⟩
  replace HL := Lib.hid (In.holds_below HL.out hb)
  replace H3 := Lib.hid (Bk.all H3.out hb)
  replace HB := Lib.hid (HB.out.trans (hb.mono HB.out.size))
  have hs3 := hb.size
  clear hb hvb x0 x1 x2 x3 x4 x5 x6 x7 x8 x9
  go_wp2_with fail
  have hvb : InOk.Vars w3 := HV.out.below HB.out (Nat.le_refl _)
  refine (InUi.unpack_any (packI n) w3 (by omega) hvb).mono ?_
  rw [unpackI_of HOK.out]
  rintro e w4 ⟨v2, S2, rfl, hown, hb⟩
  dsimp only at hown ⊢
  replace HL := Lib.hid (In.holds_below HL.out hb)
  replace H3 := Lib.hid (Bk.all H3.out hb)
  replace HB := Lib.hid (HB.out.trans (hb.mono HB.out.size))
  have hs4 := hb.size
  clear hb hvb
  obtain ⟨c0, c3, c1, c4, c2, c5, rfl⟩ := bk_forms hown
  have HU0 := Lib.hid (In.own_holds hown)
  have H40 := Lib.hid (new w4 #[.int .i64 n.kind, .int .i64 n.mode, .int .i64 n.uid, .int .i64 n.gid, .int .i64 n.links, .int .i64 n.size, .int .i64 n.tick, .slice c0 n.blocks.length c3, .slice c1 n.acl.length c4, .slice c2 n.dflt.length c5] 26)
  clear hown
  replace HL := Lib.hid (In.holds_below HL.out ((Below.refl w4.heap.size w4).alloc (Nat.le_refl _) (.cells #[.int .i64 n.kind, .int .i64 n.mode, .int .i64 n.uid, .int .i64 n.gid, .int .i64 n.links, .int .i64 n.size, .int .i64 n.tick, .slice c0 n.blocks.length c3, .slice c1 n.acl.length c4, .slice c2 n.dflt.length c5] 26)))
  have HU := Lib.hid (In.holds_below HU0.out ((Below.refl w4.heap.size w4).alloc (Nat.le_refl _) (.cells #[.int .i64 n.kind, .int .i64 n.mode, .int .i64 n.uid, .int .i64 n.gid, .int .i64 n.links, .int .i64 n.size, .int .i64 n.tick, .slice c0 n.blocks.length c3, .slice c1 n.acl.length c4, .slice c2 n.dflt.length c5] 26)))
  replace H3 := Lib.hid (Bk.alloc H3.out (.cells #[.int .i64 n.kind, .int .i64 n.mode, .int .i64 n.uid, .int .i64 n.gid, .int .i64 n.links, .int .i64 n.size, .int .i64 n.tick, .slice c0 n.blocks.length c3, .slice c1 n.acl.length c4, .slice c2 n.dflt.length c5] 26))
  replace HB := Lib.hid (HB.out.alloc HB.out.size (.cells #[.int .i64 n.kind, .int .i64 n.mode, .int .i64 n.uid, .int .i64 n.gid, .int .i64 n.links, .int .i64 n.size, .int .i64 n.tick, .slice c0 n.blocks.length c3, .slice c1 n.acl.length c4, .slice c2 n.dflt.length c5] 26))
  clear HU0
  obtain ⟨b4, hb4⟩ : ∃ b, b = w4.heap.size := ⟨_, rfl⟩
  have H4 := Lib.hid H40.out
  rw [← hb4] at H4
  have HS4 := Lib.hid hb4
  have hw5l : b4 < (w4.alloc (.cells #[.int .i64 n.kind, .int .i64 n.mode, .int .i64 n.uid, .int .i64 n.gid, .int .i64 n.links, .int .i64 n.size, .int .i64 n.tick, .slice c0 n.blocks.length c3, .slice c1 n.acl.length c4, .slice c2 n.dflt.length c5] 26)).heap.size := by rw [hb4]; simp
  have hb34 : b3 < b4 := by omega
  clear hb4 H40
  go_wp2_with fail
  rw [← HS4.out]
  generalize w4.alloc (.cells #[.int .i64 n.kind, .int .i64 n.mode, .int .i64 n.uid, .int .i64 n.gid, .int .i64 n.links, .int .i64 n.size, .int .i64 n.tick, .slice c0 n.blocks.length c3, .slice c1 n.acl.length c4, .slice c2 n.dflt.length c5] 26) = w5 at H3 H4 HB HL HU hw5l ⊢
  have HSM := Lib.hid (show ∀ W, Below w5.heap.size w5 W → Calls Tryd.prog 10 #[.agg #[.int .i64 n.kind, .int .i64 n.mode, .int .i64 n.uid, .int .i64 n.gid, .int .i64 n.links, .int .i64 n.size, .int .i64 n.tick, .slice c0 n.blocks.length c3, .slice c1 n.acl.length c4, .slice c2 n.dflt.length c5], .agg #[.int .i64 n.kind, .int .i64 n.mode, .int .i64 n.uid, .int .i64 n.gid, .int .i64 n.links, .int .i64 n.size, .int .i64 n.tick, .slice a0 n.blocks.length a3, .slice a1 n.acl.length a4, .slice a2 n.dflt.length a5]] W fun e w' => e = .returned (.bool true) ∧ Below W.heap.size W w' from fun W hb => by
    have := InSm.same_impl W _ _ n n hcost hcost HRG.out HRG.out (In.holds_below HU.out hb) (In.holds_below HL.out hb)
    rwa [same_refl] at this)
  have HIS := Lib.hid (show ∀ W, Below w5.heap.size w5 W → Calls Tryd.prog 11 #[.agg #[.int .i64 n.kind, .int .i64 n.mode, .int .i64 n.uid, .int .i64 n.gid, .int .i64 n.links, .int .i64 n.size, .int .i64 n.tick, .slice a0 n.blocks.length a3, .slice a1 n.acl.length a4, .slice a2 n.dflt.length a5]] W fun e w' => e = .returned (.bool true) ∧ Below W.heap.size W w' from fun W hb => by
    have := InOk.is_any W _ n hcost HRG.out (HV.out.below (HB.out.trans (hb.mono HB.out.size)) (Nat.le_refl _)) (In.holds_below HL.out hb)
    rwa [HOK.out] at this)
  obtain ⟨PT, hPT⟩ : ∃ PT, PT = packI n := ⟨_, rfl⟩
  rw [← hPT] at hps
  have HPK := Lib.hid (show ∀ W, Below w5.heap.size w5 W → Calls Tryd.prog 9 #[.agg #[.int .i64 n.kind, .int .i64 n.mode, .int .i64 n.uid, .int .i64 n.gid, .int .i64 n.links, .int .i64 n.size, .int .i64 n.tick, .slice a0 n.blocks.length a3, .slice a1 n.acl.length a4, .slice a2 n.dflt.length a5]] W fun e w' => e = .returned (.string PT) ∧ Below W.heap.size W w' from fun W hb => by
    rw [hPT]
    exact InPi.pack_any W _ n hcost HRG.out (HV.out.below (HB.out.trans (hb.mono HB.out.size)) (Nat.le_refl _)) (In.holds_below HL.out hb))
  obtain ⟨U, hU⟩ : ∃ U, U = (usedV n.blocks).length := ⟨_, rfl⟩
  have hul : U ≤ n.blocks.length := by rw [hU]; exact InEq.used_len _
  have hul2 : (U : Int) ≤ (n.blocks.length : Int) := by omega
  have HUS := Lib.hid (show ∀ W, Below w5.heap.size w5 W → Calls Tryd.prog 12 #[.agg #[.int .i64 n.kind, .int .i64 n.mode, .int .i64 n.uid, .int .i64 n.gid, .int .i64 n.links, .int .i64 n.size, .int .i64 n.tick, .slice a0 n.blocks.length a3, .slice a1 n.acl.length a4, .slice a2 n.dflt.length a5]] W fun e w' => ∃ ua uc, e = .returned (.slice ua U uc) ∧ Below W.heap.size W w' from fun W hb => by
    rw [hU]
    refine (InEq.used_impl W _ n (by omega) (In.holds_below HL.out hb)).mono ?_
    rintro e w' ⟨v', S, rfl, ho, hb⟩
    obtain ⟨ua, uc, rfl⟩ := NiF.own_form ho
    exact ⟨ua, uc, rfl, hb⟩)
  have HND := Lib.hid (show ∀ W, Below w5.heap.size w5 W → Calls Tryd.prog 13 #[.int .i64 n.size] W fun e w' => e = .returned (.int .i64 n.blocks.length) ∧ W = w' from fun W hb => by
    have h0 := HNUM.out
    have := InEq.need_impl n.size W (by unfold Rg; omega)
    rwa [hnv] at this)
  clear hPT hU hnv
  have HBE := Lib.hid (Below.refl w5.heap.size w5)
  have TK := Lib.hid trivial
  obtain ⟨x0, x1, x2, x3, x4, x5, x6, x7, x8, x9⟩ := Bk.c10 H3.out
  obtain ⟨y0, y1, y2, y3, y4, y5, y6, y7, y8, y9⟩ := Bk.c10 H4.out
  go_wp2
  go_region_held3 (fun w' => (w'.cell? ⟨b3, 0, none⟩ = some (.int .i64 n.kind) ∧ w'.cell? ⟨b3, 1, none⟩ = some (.int .i64 n.mode) ∧ w'.cell? ⟨b3, 2, none⟩ = some (.int .i64 n.uid) ∧ w'.cell? ⟨b3, 3, none⟩ = some (.int .i64 n.gid) ∧ w'.cell? ⟨b3, 4, none⟩ = some (.int .i64 n.links) ∧ w'.cell? ⟨b3, 5, none⟩ = some (.int .i64 n.size) ∧ w'.cell? ⟨b3, 6, none⟩ = some (.int .i64 n.tick) ∧ w'.cell? ⟨b3, 7, none⟩ = some (.slice a0 n.blocks.length a3) ∧ w'.cell? ⟨b3, 8, none⟩ = some (.slice a1 n.acl.length a4) ∧ w'.cell? ⟨b3, 9, none⟩ = some (.slice a2 n.dflt.length a5)) ∧ (w'.cell? ⟨b4, 0, none⟩ = some (.int .i64 n.kind) ∧ w'.cell? ⟨b4, 1, none⟩ = some (.int .i64 n.mode) ∧ w'.cell? ⟨b4, 2, none⟩ = some (.int .i64 n.uid) ∧ w'.cell? ⟨b4, 3, none⟩ = some (.int .i64 n.gid) ∧ w'.cell? ⟨b4, 4, none⟩ = some (.int .i64 n.links) ∧ w'.cell? ⟨b4, 5, none⟩ = some (.int .i64 n.size) ∧ w'.cell? ⟨b4, 6, none⟩ = some (.int .i64 n.tick) ∧ w'.cell? ⟨b4, 7, none⟩ = some (.slice c0 n.blocks.length c3) ∧ w'.cell? ⟨b4, 8, none⟩ = some (.slice c1 n.acl.length c4) ∧ w'.cell? ⟨b4, 9, none⟩ = some (.slice c2 n.dflt.length c5))) (first | exact ⟨Bk.c10 H3.out, Bk.c10 H4.out⟩ | go_keep)
    (first
      | (go_at_call 10; (try (have _q := TK.out; clear _q TK; replace HBE := Lib.hid HBE.out.drew; replace H3 := Lib.hid (Bk.drew H3.out); replace H4 := Lib.hid (Bk.drew H4.out))); with_reducible refine (HSM.out _ HBE.out).mono ?_; rintro e wq ⟨rfl, hb⟩; replace H3 := Lib.hid (Bk.all H3.out hb); replace H4 := Lib.hid (Bk.all H4.out hb); replace HBE := Lib.hid (HBE.out.trans (hb.mono HBE.out.size)); clear hb)
      | (go_at_call 11; (try (have _q := TK.out; clear _q TK; replace HBE := Lib.hid HBE.out.drew; replace H3 := Lib.hid (Bk.drew H3.out); replace H4 := Lib.hid (Bk.drew H4.out))); with_reducible refine (HIS.out _ HBE.out).mono ?_; rintro e wq ⟨rfl, hb⟩; replace H3 := Lib.hid (Bk.all H3.out hb); replace H4 := Lib.hid (Bk.all H4.out hb); replace HBE := Lib.hid (HBE.out.trans (hb.mono HBE.out.size)); clear hb)
      | (go_at_call 9; (try (have _q := TK.out; clear _q TK; replace HBE := Lib.hid HBE.out.drew; replace H3 := Lib.hid (Bk.drew H3.out); replace H4 := Lib.hid (Bk.drew H4.out))); with_reducible refine (HPK.out _ HBE.out).mono ?_; rintro e wq ⟨rfl, hb⟩; replace H3 := Lib.hid (Bk.all H3.out hb); replace H4 := Lib.hid (Bk.all H4.out hb); replace HBE := Lib.hid (HBE.out.trans (hb.mono HBE.out.size)); clear hb)
      | (go_at_call 12; (try (have _q := TK.out; clear _q TK; replace HBE := Lib.hid HBE.out.drew; replace H3 := Lib.hid (Bk.drew H3.out); replace H4 := Lib.hid (Bk.drew H4.out))); with_reducible refine (HUS.out _ HBE.out).mono ?_; rintro e wq ⟨ua, uc, rfl, hb⟩; replace H3 := Lib.hid (Bk.all H3.out hb); replace H4 := Lib.hid (Bk.all H4.out hb); replace HBE := Lib.hid (HBE.out.trans (hb.mono HBE.out.size)); clear hb)
      | (go_at_call 13; (try (have _q := TK.out; clear _q TK; replace HBE := Lib.hid HBE.out.drew; replace H3 := Lib.hid (Bk.drew H3.out); replace H4 := Lib.hid (Bk.drew H4.out))); with_reducible refine (HND.out _ HBE.out).mono ?_; rintro e wq ⟨rfl, rfl⟩; skip))
  go_wp2
  go_ret
  exact ⟨rfl, HB.out.trans (HBE.out.mono HB.out.size)⟩

theorem law_big (a0 : Option Addr) (len0 cap0 : Nat) (w : World) (h : 1048576 < len0) :
    Calls Tryd.prog 3 #[.slice a0 len0 cap0] w fun e w' => e = .returned (.bool true) ∧ Below w.heap.size w w' := by
  have h2 : (1048576 : Int) < (len0 : Int) := by omega
  go_enter Tryd.func3, Tryd.ntmps3
  go_wp2_with fail
  go_ret
  exact ⟨rfl, Below.refl _ _⟩

set_option maxRecDepth 100000 in
theorem lifted (os : Os) (started : os.Started) (H : Type) (enc : TypeId × Value → H) :
    ReturnsInHanded {} Tryd.checked os 3 .any (fun w args => (Rows.fnInodesSpec.pre enc Tryd.prog Tryd.f3 [] false w args ∧ laidMetH Tryd.prog Rows.fnInodesRow.laid w) ∧ sizedMet enc Tryd.prog Tryd.f3 (OpenSpec.ofChange Rows.fnInodesSpec) false w args)
      (Rows.fnInodesSpec.post enc Tryd.prog Tryd.f3 false true false false) := by
  refine returnsInHanded_of_change_and (C := Tryd.checked) (X := fun w _ => laidMetH Tryd.prog Rows.fnInodesRow.laid w) (fun _ _ _ hh h => h.of_heap hh) Kit.own started (by kernel_rfl) Tryd.func3
    (ChangeSpec.witness_shaped (enc := enc) (C := Tryd.checked) (os := os) (X := fun w _ => laidMetH Tryd.prog Rows.fnInodesRow.laid w) false (World.doorLaid Tryd.prog 400 os) #[.slice none 0 0] 8 rfl (World.shaped_of_RefB (by kernel_rfl) (by kernel_rfl)) (by kernel_rfl) (by kernel_rfl) (by kernel_rfl) (LaidN.door1 os _)) ?_
  intro W base args ds gs before hval0 hW _ _ hL _
  have hval : ∀ (j : Nat) t v, Tryd.f3.params[j]? = some t → args[j]? = some v → Value.okWide Tryd.prog W .any base t v := hval0
  have hW' := hW
  obtain ⟨p, q, hA0, hV, rfl, hfz, hnd⟩ := hW
  have hA : DataW.TrodAll enc Tryd.prog W 0 (fun _ => true) true Tryd.f3.params.toList args.toList ds p := hA0
  rw [Tryd.params3] at hA hval
  obtain ⟨v0, d0, rfl, rfl, h0⟩ := trodAll_one hA
  obtain ⟨a0, len0, cap0, rfl⟩ := okWide_slice Tryd.underlying22 (hval 0 22 v0 rfl rfl)
  have hlaw : Calls Tryd.prog 3 #[.slice a0 len0 cap0] W fun e w' => e = .returned (.bool true) ∧ Below W.heap.size W w' := by
    by_cases hbig : 1048576 < len0
    · exact law_big _ _ _ W hbig
    · obtain ⟨ns, hns, hcode⟩ := Cur.open_code h0 (by omega)
      exact law_any _ ns W hcode (LaidN.vars_of hL)
  refine hlaw.mono fun e W' ⟨he, hb⟩ => ?_
  subst he
  exact ⟨_, rfl, KitV.law_post Kit.laidOut (by kernel_rfl) (by kernel_rfl) Tryd.underlying4 rfl (fun H ds gs hl hg => by match ds, gs, hl, hg with | [d0], [g0], _, _ => rfl) hW' hb⟩

theorem said : Rows.FnInodesSaid :=
  OpenClaim.holds_of_wide 3 Tryd.f3 rfl rfl rfl rfl rfl rfl rfl ⟨rfl, rfl, rfl, rfl, rfl⟩ rfl rfl rfl rfl rfl (by kernel_rfl) Tryd.func3 (by kernel_rfl)
    (of_decide_eq_true (by kernel_rfl)) (by unfold Func.isWrapper; first | (rw [if_pos (by decide +kernel)]; kernel_rfl) | (rw [if_neg (by decide +kernel)]; exact ⟨rfl, rfl⟩))
    (fun os started H enc _ => lifted os started H enc)

theorem plain (f : FuncId) (fn : Func) (hf : Tryd.pinned.checked.prog.funcNamed "loop.example/g00817/laws.FnInodes" = some f) (hfn : Tryd.pinned.checked.prog.funcs[f]? = some fn) :
    Rows.fnInodesCard.stood.looks = Tryd.pinned.checked.prog.looks [] ∧ ∀ (j : Nat) t, fn.params[j]? = some t → Tryd.pinned.checked.prog.wantsStandIn t = false := by
  obtain rfl : f = 3 := Option.some.inj ((show Tryd.prog.funcNamed "loop.example/g00817/laws.FnInodes" = some 3 by kernel_rfl).symm.trans hf) |>.symm
  obtain rfl : fn = Tryd.f3 := (Option.some.inj (Tryd.func3.symm.trans hfn)).symm
  refine ⟨by kernel_rfl, fun j t ht => ?_⟩
  rw [Tryd.params3] at ht
  have hm : t ∈ [22] := by simpa using Array.mem_of_getElem? ht
  have hall : ([22].all fun u => !Tryd.prog.wantsStandIn u) = true := by kernel_rfl
  exact (show Tryd.prog.wantsStandIn t = false by simpa using List.all_eq_true.1 hall t hm)

theorem holds : Rows.FnInodesCardSaid :=
  Claim7.holds_tied_plain_at .later [] _ _ _ _ said (fun _ h => by cases h) (by kernel_rfl) (fun _ h => by cases h) fnInodes_row_tie rfl ⟨rfl, rfl⟩ (by kernel_rfl) rfl plain (by kernel_rfl)
#print axioms holds
end Go.Proofs.YthobdeidjagnhaaDoor.FnInodes

