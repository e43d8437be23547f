/- Contracts of the law's own helpers over slices of ints: marking one that the call owns, asking for the marks. And the uniform face of such a slice: what it holds, owns, costs. Conditions: as each theorem types them. -/
import Derived.Test.YtafmpllkehbmeaaGreatDoorNi
import Derived.Test.YtafmpllkehbmeaaGreatDoorFoot
namespace Go.Proofs.YtafmpllkehbmeaaGreatDoor.NiF
open Go.ChangeShapes Go.WideShapes Go.ChangeAt Go.RowKit Go.Deep
open Foot
open Strs (grow_trans take_set_succ)
open Ni (HoldsN)
set_option linter.unusedVariables false

abbrev L := List Int
def cells (l : List Int) : List Value := l.map (Value.int .i64)
theorem cells_length (l : List Int) : (cells l).length = l.length := by simp [cells]
/-- A slice value, no longer than its capacity, whose cells hold the list. -/
def Holds (w : World) (v : Value) (l : List Int) : Prop := ∃ (a : Option Addr) (cap : Nat), v = .slice a l.length cap ∧ l.length ≤ cap ∧ ∀ i, i < l.length → ∃ b o, a = some ⟨b, o, none⟩ ∧ b < w.heap.size ∧ w.cell? ⟨b, o + i, none⟩ = some (.int .i64 (l.getD i 0))
theorem Holds.old {w : World} {v : Value} {l : List Int} (h : Holds w v l) : HoldsN w v l := by
  obtain ⟨a, c, e, _, hc⟩ := h
  exact ⟨a, c, e, hc⟩
theorem Holds.of_old {w : World} {v : Value} {l : List Int} (h : HoldsN w v l) (hr : ∀ a c, v = .slice a l.length c → l.length ≤ c) : Holds w v l := by
  obtain ⟨a, c, e, hc⟩ := h
  exact ⟨a, c, e, hr a c e, hc⟩
theorem holds_below {w w' : World} {v : Value} {l : List Int} (h : Holds w v l) (hb : Below w.heap.size w w') : Holds w' v l := by
  obtain ⟨a, c, rfl, hle, hc⟩ := h
  exact Holds.of_old (Ni.holds_below ⟨a, c, rfl, hc⟩ hb) (fun a' c' e => by cases e; exact hle)
theorem form {w : World} {v : Value} {l : List Int} (h : Holds w v l) : ∃ a c, v = .slice a l.length c := by
  obtain ⟨a, c, rfl, _⟩ := h
  exact ⟨a, c, rfl⟩
def Own (w : World) (base : Nat) (v : Value) (l : List Int) (S : List Nat) : Prop := (∃ (a : Option Addr) (c c' : Nat), v = .slice a l.length c ∧ l.length ≤ c ∧ c ≤ c' ∧ w.ownsRow base 3 1 (.slice a l.length c') l.length (cells l)) ∧ S = fpR v
theorem own_of {w : World} {base : Nat} {v : Value} {l : List Int} (h : w.ownsRow base 3 1 v l.length (cells l)) : Own w base v l (fpR v) := by
  refine ⟨?_, rfl⟩
  rcases h.2 with ⟨rfl, h0⟩ | ⟨g, cap, cur, rfl, hb, hg, hn, _⟩
  · refine ⟨none, 0, 0, by rw [h0], by omega, Nat.le_refl _, ?_⟩
    rw [show (Value.slice none l.length 0) = .slice none 0 0 from by rw [h0]]
    exact h
  · exact ⟨_, cap, cap, rfl, hn, Nat.le_refl _, h⟩
theorem fpR_slice (a : Option Addr) (n c n' c' : Nat) : fpR (.slice a n c) = fpR (.slice a n' c') := by cases a <;> rfl
theorem own_holds {w : World} {base : Nat} {v : Value} {l : List Int} {S : List Nat} (h : Own w base v l S) : Holds w v l := by
  obtain ⟨⟨a, c, c', rfl, hc, hcc, hr⟩, _⟩ := h
  obtain ⟨a1, cap1, e, hn⟩ := Ni.holds_of_own hr
  rw [Value.slice.injEq] at e
  obtain ⟨rfl, _, _⟩ := e
  refine Holds.of_old ⟨a, c, rfl, hn⟩ fun a2 c2 e2 => ?_
  rw [Value.slice.injEq] at e2
  omega
theorem own_chg {w w' : World} {base : Nat} {v : Value} {l : List Int} {S T : List Nat} (h : Own w base v l S) (hc : Chg w w' T) (ha : Apart S T) : Own w' base v l S := by
  obtain ⟨⟨a, c, c', rfl, h1, h2, hr⟩, rfl⟩ := h
  exact ⟨⟨a, c, c', rfl, h1, h2, row_chg hr hc (by rw [fpR_slice a _ _ l.length c]; exact ha)⟩, rfl⟩
theorem own_below {w w' : World} {base : Nat} {v : Value} {l : List Int} {S : List Nat} (h : Own w base v l S) (hb : Below w.heap.size w w') : Own w' base v l S := by
  obtain ⟨⟨a, c, c', rfl, h1, h2, hr⟩, rfl⟩ := h
  exact ⟨⟨a, c, c', rfl, h1, h2, row_below hr hb⟩, rfl⟩
theorem own_mono {w : World} {base base' : Nat} {v : Value} {l : List Int} {S : List Nat} (h : Own w base v l S) (hb : base' ≤ base) : Own w base' v l S := by
  obtain ⟨⟨a, c, c', rfl, h1, h2, hr⟩, rfl⟩ := h
  exact ⟨⟨a, c, c', rfl, h1, h2, row_mono hr hb⟩, rfl⟩
theorem own_lies {w : World} {base : Nat} {v : Value} {l : List Int} {S : List Nat} (h : Own w base v l S) : Lies S base w.heap.size := by
  obtain ⟨⟨a, c, c', rfl, h1, h2, hr⟩, rfl⟩ := h
  rw [fpR_slice a _ _ l.length c']; exact row_lies hr
theorem own_nodup {w : World} {base : Nat} {v : Value} {l : List Int} {S : List Nat} (h : Own w base v l S) : S.Nodup := by rw [h.2]; exact fpR_nodup v
theorem own_form {w : World} {base : Nat} {v : Value} {l : List Int} {S : List Nat} (h : Own w base v l S) : ∃ a c, v = .slice a l.length c := by
  obtain ⟨⟨a, c, c', rfl, _⟩, _⟩ := h
  exact ⟨a, c, rfl⟩
theorem own_set {w : World} {base : Nat} {v : Value} {l : List Int} {S : List Nat} (h : Own w base v l S) {a : Addr} (ha : a.block < base) (u : Value) : Own (w.setCell a u) base v l S := by
  obtain ⟨⟨a', c, c', rfl, h1, h2, hr⟩, rfl⟩ := h
  exact ⟨⟨a', c, c', rfl, h1, h2, ownsRow_setCell_below hr ha u⟩, rfl⟩
def Lim (l : List Int) : Prop := l.length ≤ maxLen ∧ ∀ x ∈ l, Rg x
def cost (l : List Int) : Nat := l.length
theorem sz_any (w : World) (v : Value) (l : List Int) (left : Nat) (hleft : left ≤ 1073741824) (hl : Lim l) (h : Holds w v l) :
    Calls Tryz.prog 199 #[v, .int .i64 left] w fun e w' => e = .returned (.int .i64 (costOf (cost l) left)) ∧ Below w.heap.size w w' := Ni.sz_any w v l left hleft hl.1 h.old
theorem to_any (w : World) (v : Value) (l : List Int) (hc : cost l ≤ 1073741824) (h : Holds w v l) :
    Calls Tryz.prog 203 #[v] w fun e w' => ∃ v' S, e = .returned v' ∧ Own w' w.heap.size v' l S ∧ Below w.heap.size w w' :=
  (Ni.to_any w v l hc h.old).mono fun e w' ⟨v', he, ho, hb⟩ => ⟨v', _, he, own_of ho, hb⟩
theorem eq_any (w : World) (va vb : Value) (l : List Int) (hc : cost l ≤ 1073741824) (h : Holds w va l) (h' : Holds w vb l) :
    Calls Tryz.prog 205 #[va, vb] w fun e w' => e = .returned (.bool true) ∧ Below w.heap.size w w' := Ni.eq_any w va vb l hc h.old h'.old

/-- Marks from number k on, in the list's place. -/
def marks (k : Nat) (l : List Int) : List Int := (List.range l.length).map fun i => ((k + i : Nat) : Int)
def wid (l : List Int) : Nat := l.length
theorem wid_cost (l : List Int) : wid l ≤ 3 * cost l := by unfold cost wid; omega
theorem wid_le {l : List Int} (h : cost l ≤ 1048576) : 1 + wid l ≤ 1073741824 := by unfold cost at h; unfold wid; omega
theorem marks_length (k : Nat) (l : List Int) : (marks k l).length = l.length := by simp [marks]
theorem marks_getD (k : Nat) (l : List Int) (j : Nat) (h : j < l.length) : (marks k l).getD j 0 = ((k + j : Nat) : Int) := by
  simp [marks, List.getD, h]
/-- The first i marks, then what stood. -/
def part (k : Nat) (l : List Int) (i : Nat) : List Int := (marks k l).take i ++ l.drop i
theorem part_zero (k : Nat) (l : List Int) : part k l 0 = l := by simp [part]
theorem part_all (k : Nat) (l : List Int) : part k l l.length = marks k l := by
  rw [part, List.drop_length, List.append_nil, List.take_of_length_le (by rw [marks_length]; exact Nat.le_refl _)]
theorem part_length (k : Nat) (l : List Int) (i : Nat) (h : i ≤ l.length) : (part k l i).length = l.length := by
  rw [part, List.length_append, List.length_take, List.length_drop, marks_length]; omega
theorem part_set (k : Nat) (l : List Int) (i : Nat) (h : i < l.length) : (cells (part k l i)).set i (.int .i64 ((k : Int) + i)) = cells (part k l (i + 1)) := by
  unfold cells part
  rw [← List.map_set, List.set_append_right _ _ (by rw [List.length_take, marks_length]; omega), List.length_take, marks_length, Nat.min_eq_left (by omega), Nat.sub_self, List.drop_eq_getElem_cons h, List.set_cons_zero, List.take_succ_eq_append_getElem (by rw [marks_length]; exact h), List.append_assoc]
  have e : (marks k l)[i]'(by rw [marks_length]; exact h) = (k : Int) + i := by simp [marks]
  rw [e]; rfl

set_option maxRecDepth 100000 in
set_option maxHeartbeats 800000 in
/-- A row that the call owns is marked; every other block stays. -/
theorem mark_any (w : World) (base : Nat) (v : Value) (l : List Int) (S : List Nat) (k : Nat) (hk : 1 ≤ k) (hn : k + wid l ≤ 1073741824) (h : Own w base v l S) :
    Calls Tryz.prog 167 #[v, .int .i64 k] w fun e w' => e = .returned (.int .i64 (k + wid l : Nat)) ∧ Own w' base v (marks k l) S ∧ Chg w w' S := by
  obtain ⟨⟨a0, c0, c1, rfl, hlc, hcc, hown⟩, rfl⟩ := h
  unfold wid at hn ⊢
  unfold Own
  rw [marks_length]
  obtain ⟨n, hnl⟩ : ∃ n, n = l.length := ⟨_, rfl⟩
  rw [← hnl] at hn hown hlc ⊢
  have HL := Lib.hid hnl
  have HLC := Lib.hid hlc
  have HCC := Lib.hid hcc
  clear hlc hcc
  by_cases h0 : n = 0
  · subst h0
    obtain rfl : l = [] := List.eq_nil_of_length_eq_zero hnl.symm
    have HO := Lib.hid hown
    clear hown hnl
    go_enter Tryz.func167, Tryz.ntmps167
    go_wp2
    refine wp_loop_rounds 1 ?_
    rw [rounds_succ]
    go_wp2
    go_ret
    exact ⟨by simp, ⟨⟨a0, c0, c1, rfl, HLC.out, HCC.out, HO.out⟩, by first | rfl | trivial⟩, Chg.refl _ _⟩
  · obtain ⟨g, rfl, hbg⟩ : ∃ g, a0 = some ⟨g, 0, none⟩ ∧ g < w.heap.size := by
      rcases hown.2 with ⟨_, hz⟩ | ⟨g, cap, cur, e, _, hg, _⟩
      · exact absurd hz h0
      · rw [Value.slice.injEq] at e
        exact ⟨g, e.1, (Array.getElem?_eq_some_iff.1 hg).1⟩
    have HO := Lib.hid hown
    clear hown h0 hnl
    go_enter Tryz.func167, Tryz.ntmps167
    go_wp2
    go_loopw [1, 5] (fun kv iv wr => ∃ i : Nat, i ≤ n ∧ iv = .int .i64 i ∧ kv = .int .i64 ((k : Int) + i) ∧ wr.ownsRow base 3 1 (.slice (some ⟨g, 0, none⟩) n c1) n (cells (part k l i)) ∧ w.grownBy wr (some g)) (fun _ iv _ => n - (intOf iv).toNat)
    case atStart => exact ⟨0, Nat.zero_le _, rfl, by simp, by rw [part_zero]; exact HO.out, World.grownBy.refl _ _⟩
    case round =>
      obtain ⟨i, hi, rfl, rfl, hown, hgr⟩ := hrel
      have HOWN := Lib.hid hown
      have HGR := Lib.hid hgr
      clear hown hgr
      by_cases hlt : i < n
      · have hx : i < l.length := by rw [← HL.out]; exact hlt
        have hcl := HOWN.out.cellAt i (by omega)
        rw [List.getElem?_eq_getElem (by rw [cells_length, part_length k l i (by omega)]; exact hx)] at hcl
        have hf := HOWN.out.frozenAt i
        have hst := HOWN.out.stored i (.int .i64 ((k : Int) + i))
        rw [part_set k l i hx] at hst
        have HST := Lib.hid hst.1
        have HG2 := Lib.hid (grow_trans HGR.out hst.2)
        clear hst
        generalize (cells (part k l i))[i]'_ = y at hcl
        go_wp2
        go_roundw
        case rel => exact ⟨i + 1, by omega, by go_num, by go_num, HST.out, HG2.out⟩
        case measure => simp [intOf]; omega
      · obtain rfl : i = n := by omega
        have HE := Lib.hid (show part k l i = marks k l by rw [HL.out, part_all])
        go_wp2
        go_ret
        exact ⟨by congr 2, ⟨⟨_, c0, c1, rfl, HLC.out, HCC.out, by rw [← HE.out]; exact HOWN.out⟩, by first | rfl | trivial⟩, Chg.of_grown HGR.out⟩

set_option maxRecDepth 100000 in
set_option maxHeartbeats 800000 in
/-- The marks are found. -/
theorem held_any (w : World) (v : Value) (l : List Int) (k : Nat) (hk : 1 ≤ k) (hn : k + wid l ≤ 1073741824) (h : Holds w v (marks k l)) :
    Calls Tryz.prog 169 #[v, .int .i64 k] w fun e w' => e = .returned (.int .i64 (k + wid l : Nat)) ∧ Below w.heap.size w w' := by
  obtain ⟨a, cap, rfl, _, hc⟩ := h
  unfold wid at hn ⊢
  rw [marks_length] at hc ⊢
  obtain ⟨n, hnl⟩ : ∃ n, n = l.length := ⟨_, rfl⟩
  have HG := Lib.hid (marks_getD k l)
  rw [← hnl] at hn hc HG ⊢
  have HC := Lib.hid hc
  clear hc hnl
  go_enter Tryz.func169, Tryz.ntmps169
  go_wp2_with fail
  go_loopw [1, 5] (fun kv iv wr => ∃ i : Nat, i ≤ n ∧ iv = .int .i64 i ∧ kv = .int .i64 ((k : Int) + i) ∧ Below w.heap.size w wr) (fun _ iv _ => n - (intOf iv).toNat)
  case atStart => exact ⟨0, Nat.zero_le _, rfl, by simp, Below.refl _ _⟩
  case round =>
    obtain ⟨i, hi, rfl, rfl, hbel⟩ := hrel
    have HBEL := Lib.hid hbel
    clear hbel
    by_cases hlt : i < n
    · obtain ⟨b, o, rfl, hb, g0⟩ := HC.out i hlt
      rw [HG.out i hlt, ← HBEL.out.cell (p := ⟨b, _, none⟩) hb, show ((k + i : Nat) : Int) = (k : Int) + i from by omega] at g0
      go_wp2
      go_roundw
      case rel => exact ⟨i + 1, by omega, by go_num, by go_num, HBEL.out⟩
      case measure => simp [intOf]; omega
    · obtain rfl : i = n := by omega
      go_wp2
      go_ret
      exact ⟨by congr 2, HBEL.out⟩
set_option maxRecDepth 100000 in
/-- What cells that read as a list of ints hold. -/
theorem in_cell {H : Type} {enc : TypeId × Value → H} {W : World} {fuel : Nat} {v : Value} {x : DataW H × List MemPlace} (hf : DataW.trod enc Tryz.prog W 0 (fun _ => true) true fuel 31 [v] = some x) :
    ∃ l : List Int, Lim l ∧ Holds W v l := by
  rcases open_slice Tryz.underlying31 hf with ⟨hcs, _⟩ | ⟨a, l, c, m, n, D, Pl, hcs, _, hl, hm, hmm, _, hi⟩
  · simp at hcs
    subst hcs
    exact ⟨[], ⟨Nat.zero_le _, fun x hx => by cases hx⟩, none, 0, rfl, Nat.le_refl _, fun i hi => by simp at hi⟩
  · simp at hcs
    subst hcs
    have hmc : m = c := by simpa using hmm
    subst hmc
    have hel : ∀ i, i < l → ∃ y : Int, W.cell? (a.add i) = some (.int .i64 y) ∧ Rg y := by
      intro i hil
      obtain ⟨cs', hc, ht⟩ := hi i (by omega)
      rw [show Tryz.prog.cellsOf 3 = 1 from by kernel_rfl] at hc
      obtain ⟨_, hcl, hat⟩ := World.cells?_some hc
      obtain ⟨y, hy, _, hwf⟩ := DataW.trod_int Tryz.underlying3 ht
      have e0 := hat 0 (by omega)
      rw [Addr.add_add, hy] at e0
      exact ⟨y, by simpa using e0, rg_of hwf⟩
    by_cases hl0 : l = 0
    · subst hl0
      exact ⟨[], ⟨Nat.zero_le _, fun x hx => by cases hx⟩, some a, m, rfl, Nat.zero_le _, fun i hi => by simp at hi⟩
    obtain ⟨y, he0, _⟩ := hel 0 (by omega)
    have hspot : a.spot = none := by simpa [Addr.add] using World.cell?_spot he0
    have hblk : a.block < W.heap.size := by simpa [Addr.add] using Dk.cell_block he0
    obtain ⟨bk, off, spot⟩ := a
    simp only at hspot hblk
    subst hspot
    obtain ⟨f, hfs⟩ := Classical.skolem.1 (show ∀ i, ∃ y : Int, i < l → W.cell? (Addr.add ⟨bk, off, none⟩ i) = some (.int .i64 y) ∧ Rg y from fun i => by
      by_cases hil : i < l
      · obtain ⟨y, hy⟩ := hel i hil
        exact ⟨y, fun _ => hy⟩
      · exact ⟨0, fun h => absurd h hil⟩)
    have hlen : ((List.range l).map f).length = l := by simp
    refine ⟨(List.range l).map f, ⟨show _ ≤ maxLen by rw [hlen]; omega, fun x hx => by
      obtain ⟨i, hi1, rfl⟩ := List.mem_map.1 hx
      exact (hfs i (List.mem_range.1 hi1)).2⟩, some ⟨bk, off, none⟩, m, by rw [hlen], by rw [hlen]; exact hl, fun j hj => ⟨bk, off, rfl, hblk, ?_⟩⟩
    rw [hlen] at hj
    have q0 := (hfs j hj).1
    rw [Addr.add_lit] at q0
    have e : ((List.range l).map f).getD j 0 = f j := by
      rw [List.getD_eq_getElem?_getD, List.getElem?_map, List.getElem?_range hj]; rfl
    rw [e]
    exact q0
set_option maxRecDepth 100000 in
theorem in_any {H : Type} {enc : TypeId × Value → H} {W : World} {b0 : Nat} {v : Value} {x : DataW H} {p : List MemPlace} (hv : Value.okWide Tryz.prog W .any b0 31 v) (h : DataW.Trod enc Tryz.prog W 0 (fun _ => true) true 31 v x p) :
    ∃ l : List Int, Lim l ∧ Holds W v l := by
  obtain ⟨a1, l0, c0, rfl⟩ := okWide_slice Tryz.underlying31 hv
  obtain ⟨fuel, hf⟩ := h
  exact in_cell hf
end Go.Proofs.YtafmpllkehbmeaaGreatDoor.NiF
