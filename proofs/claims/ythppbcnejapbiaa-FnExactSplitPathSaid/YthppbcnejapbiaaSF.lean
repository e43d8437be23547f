/- The uniform face of a slice of strings: what it holds, owns, costs, its marks, what an argument offers. Conditions: as each theorem types them. -/
import Derived.Test.YthppbcnejapbiaaStrsTwo
import Derived.Test.YthppbcnejapbiaaDkOpen
import Derived.Test.YthppbcnejapbiaaFoot
import Derived.Deep.Strs
namespace Go.Proofs.Ythppbcnejapbiaa.SF
open Go.ChangeShapes Go.WideShapes Go.ChangeAt Go.RowKit Go.Deep
open Foot
open Strs (total budgetOf)
set_option linter.unusedVariables false

abbrev L := List ByteArray
def cells (l : L) : List Value := l.map Value.string
def Holds (w : World) (v : Value) (l : L) : Prop := Strs.Holds w v l
theorem holds_below {w w' : World} {v : Value} {l : L} (h : Holds w v l) (hb : Below w.heap.size w w') : Holds w' v l := Strs.holds_below (B := 0) h hb
theorem form {w : World} {v : Value} {l : L} (h : Holds w v l) : ∃ a c, v = .slice a l.length c := by
  obtain ⟨a, c, rfl, _⟩ := h
  exact ⟨a, c, rfl⟩
def Own (w : World) (base : Nat) (v : Value) (l : L) (S : List Nat) : Prop := w.ownsRow base 9 1 v l.length (cells l) ∧ S = fpR v
section
variable {w w' : World} {base : Nat} {v : Value} {l : L} {S T : List Nat}
theorem own_holds (h : Own w base v l S) : Holds w v l := Strs.holds_of_own h.1
theorem own_chg (h : Own w base v l S) (hc : Chg w w' T) (ha : Apart S T) : Own w' base v l S := ⟨row_chg h.1 hc (by rw [← h.2]; exact ha), h.2⟩
theorem own_below (h : Own w base v l S) (hb : Below w.heap.size w w') : Own w' base v l S := ⟨row_below h.1 hb, h.2⟩
theorem own_mono {base' : Nat} (h : Own w base v l S) (hb : base' ≤ base) : Own w base' v l S := ⟨row_mono h.1 hb, h.2⟩
theorem own_lies (h : Own w base v l S) : Lies S base w.heap.size := by rw [h.2]; exact row_lies h.1
theorem own_nodup (h : Own w base v l S) : S.Nodup := by rw [h.2]; exact fpR_nodup v
theorem own_form (h : Own w base v l S) : ∃ a c, v = .slice a l.length c := Dk.slice_of h.1
theorem own_set (h : Own w base v l S) {a : Addr} (ha : a.block < base) (u : Value) : Own (w.setCell a u) base v l S := ⟨ownsRow_setCell_below h.1 ha u, h.2⟩
end
def Lim (l : L) : Prop := l.length ≤ maxLen ∧ ∀ x ∈ l, x.size ≤ maxLen
def cost (l : L) : Nat := l.length + total l
theorem cost_mem {l : L} {x : ByteArray} (h : x ∈ l) : x.size ≤ cost l := by
  unfold cost total
  induction l with
  | nil => cases h
  | cons a r ih =>
    rw [List.map_cons, List.sum_cons, List.length_cons]
    rcases List.mem_cons.1 h with rfl | h
    · omega
    · have := ih h; omega
theorem sz_any (w : World) (v : Value) (l : L) (left : Nat) (hleft : left ≤ 1073741824) (hl : Lim l) (h : Holds w v l) :
    Calls Try.prog 10 #[v, .int .i64 left] w fun e w' => e = .returned (.int .i64 (costOf (cost l) left)) ∧ Below w.heap.size w w' := by
  refine (Strs.sz_any w v l left hleft hl.1 hl.2 h).mono ?_
  rintro e w' ⟨rfl, rfl⟩
  refine ⟨?_, Below.refl _ _⟩
  unfold budgetOf costOf cost
  by_cases hc : l.length + total l ≤ left
  · rw [if_pos hc, if_pos hc, Nat.sub_sub]
  · rw [if_neg hc, if_neg hc]
theorem to_any (w : World) (v : Value) (l : L) (hc : cost l ≤ 1073741824) (h : Holds w v l) :
    Calls Try.prog 12 #[v] w fun e w' => ∃ v' S, e = .returned v' ∧ Own w' w.heap.size v' l S ∧ Below w.heap.size w w' :=
  (Strs.to_any w v l (Nat.le_trans (Nat.le_add_right _ _) hc) h).mono fun e w' ⟨v', he, ho, hb⟩ => ⟨v', _, he, ⟨ho, rfl⟩, hb⟩
theorem eq_any (w : World) (va vb : Value) (l : L) (hc : cost l ≤ 1073741824) (h : Holds w va l) (h' : Holds w vb l) :
    Calls Try.prog 7 #[va, vb] w fun e w' => e = .returned (.bool true) ∧ Below w.heap.size w w' :=
  (Strs.eq_any w va vb l (Nat.le_trans (Nat.le_add_right _ _) hc) h h').mono fun e w' ⟨he, m, hb⟩ => ⟨he, by rw [hb]; exact Joins.below_draws _ w m⟩
def marks (k : Nat) (l : L) : L := Strs.marks k l.length
def wid (l : L) : Nat := l.length
theorem wid_cost (l : L) : wid l ≤ 3 * cost l := by unfold cost wid; omega
theorem wid_le {l : L} (h : cost l ≤ 1048576) : 1 + wid l ≤ 1073741824 := by unfold cost at h; unfold wid; omega
theorem marks_length (k : Nat) (l : L) : (marks k l).length = l.length := Strs.marks_length k l.length
theorem wid_marks (k : Nat) (l : L) : wid (marks k l) = wid l := by unfold wid; rw [marks_length]
theorem mark_any (w : World) (base : Nat) (v : Value) (l : L) (S : List Nat) (k : Nat) (hk : 1 ≤ k) (hn : k + wid l ≤ 1073741824) (h : Own w base v l S) :
    Calls Try.prog 8 #[v, .int .i64 k] w fun e w' => e = .returned (.int .i64 (k + wid l : Nat)) ∧ Own w' base v (marks k l) S ∧ Chg w w' S := by
  obtain ⟨hown, rfl⟩ := h
  refine (Strs.mark_all w base v l.length k l hk hn hown).mono ?_
  rintro e w' ⟨rfl, ho, hg⟩
  exact ⟨by congr 2, ⟨by rw [marks_length]; exact ho, rfl⟩, Chg.of_grown hg⟩
theorem held_any (w : World) (v : Value) (l : L) (k : Nat) (hk : 1 ≤ k) (hn : k + wid l ≤ 1073741824) (h : Holds w v (marks k l)) :
    Calls Try.prog 9 #[v, .int .i64 k] w fun e w' => e = .returned (.int .i64 (k + wid l : Nat)) ∧ Below w.heap.size w w' := by
  refine (Strs.held_all w v l.length k hk hn h).mono ?_
  rintro e w' ⟨rfl, hb⟩
  exact ⟨by congr 2, hb⟩
set_option maxRecDepth 100000 in
/-- What cells that read as a list of strings hold. -/
theorem in_cell {H : Type} {enc : TypeId × Value → H} {W : World} {fuel : Nat} {v : Value} {x : DataW H × List MemPlace} (hf : DataW.trod enc Try.prog W 0 (fun _ => true) true fuel 22 [v] = some x) :
    ∃ l : L, Lim l ∧ Holds W v l := by
  rcases open_slice Try.underlying22 hf with ⟨hcs, _⟩ | ⟨a, l, c, m, n, D, Pl, hcs, _, hl, hm, hmm, _, hi⟩
  · simp at hcs
    subst hcs
    exact ⟨[], ⟨Nat.zero_le _, fun x hx => by cases hx⟩, none, 0, rfl, fun hh => absurd rfl hh⟩
  · simp at hcs
    subst hcs
    have hmc : m = c := by simpa using hmm
    subst hmc
    by_cases hl0 : l = 0
    · subst hl0
      exact ⟨[], ⟨Nat.zero_le _, fun x hx => by cases hx⟩, some a, m, rfl, fun hh => absurd rfl hh⟩
    have hel : ∀ i, i < l → ∃ y : ByteArray, W.cell? (a.add i) = some (.string y) ∧ y.size ≤ maxLen := by
      intro i hil
      obtain ⟨cs', hc, ht⟩ := hi i (by omega)
      rw [show Try.prog.cellsOf 9 = 1 from by kernel_rfl] at hc
      obtain ⟨_, hcl, hat⟩ := World.cells?_some hc
      obtain ⟨y, hy, _, hle⟩ := DataW.trod_string Try.underlying9 ht
      have e0 := hat 0 (by omega)
      rw [Addr.add_add, hy] at e0
      exact ⟨y, by simpa using e0, hle⟩
    obtain ⟨y, he0, _⟩ := hel 0 (by omega)
    have hspot : a.spot = none := by simpa [Addr.add] using World.cell?_spot he0
    have hblk : a.block < W.heap.size := by simpa [Addr.add] using Dk.cell_block he0
    obtain ⟨bk, off, spot⟩ := a
    simp only at hspot hblk
    subst hspot
    obtain ⟨f, hfs⟩ := Classical.skolem.1 (show ∀ i, ∃ y : ByteArray, i < l → W.cell? (Addr.add ⟨bk, off, none⟩ i) = some (.string y) ∧ y.size ≤ maxLen from fun i => by
      by_cases hil : i < l
      · obtain ⟨y, hy⟩ := hel i hil
        exact ⟨y, fun _ => hy⟩
      · exact ⟨⟨#[]⟩, fun h => absurd h hil⟩)
    have hlen : ((List.range l).map f).length = l := by simp
    refine ⟨(List.range l).map f, ⟨show _ ≤ maxLen by rw [hlen]; omega, fun x hx => by
      obtain ⟨i, hi1, rfl⟩ := List.mem_map.1 hx
      exact (hfs i (List.mem_range.1 hi1)).2⟩, some ⟨bk, off, none⟩, m, by rw [hlen], fun _ => ⟨bk, off, rfl, hblk, fun j hj => ?_⟩⟩
    rw [hlen] at hj
    have q0 := (hfs j hj).1
    rw [Addr.add_lit] at q0
    have e : ((List.range l).map f).getD j ⟨#[]⟩ = f j := by
      rw [List.getD_eq_getElem?_getD, List.getElem?_map, List.getElem?_range hj]; rfl
    rw [e]
    exact q0
set_option maxRecDepth 100000 in
theorem in_any {H : Type} {enc : TypeId × Value → H} {W : World} {b0 : Nat} {v : Value} {x : DataW H} {p : List MemPlace} (hv : Value.okWide Try.prog W .any b0 22 v) (h : DataW.Trod enc Try.prog W 0 (fun _ => true) true 22 v x p) :
    ∃ l : L, Lim l ∧ Holds W v l := by
  obtain ⟨a1, l0, c0, rfl⟩ := okWide_slice Try.underlying22 hv
  obtain ⟨fuel, hf⟩ := h
  exact in_cell hf
end Go.Proofs.Ythppbcnejapbiaa.SF
