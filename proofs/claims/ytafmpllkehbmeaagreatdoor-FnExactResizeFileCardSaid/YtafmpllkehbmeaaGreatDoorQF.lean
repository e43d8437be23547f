/- The uniform face of a slice of Quotas: what it holds, owns, costs, its marks. Conditions: as each theorem types them. -/
import Derived.Test.YtafmpllkehbmeaaGreatDoorQt
import Derived.Deep.Strs
import Derived.Test.YtafmpllkehbmeaaGreatDoorFoot
namespace Go.Proofs.YtafmpllkehbmeaaGreatDoor.QF
open Go.ChangeShapes Go.WideShapes Go.ChangeAt Go.RowKit Go.Deep
open Foot
open Qt (At a0)
set_option linter.unusedVariables false

abbrev L := List At
def Holds (w : World) (v : Value) (l : List At) : Prop := Qt.Holds w v l
theorem holds_below {w w' : World} {v : Value} {l : List At} (h : Holds w v l) (hb : Below w.heap.size w w') : Holds w' v l := Qt.holds_below h hb
theorem form {w : World} {v : Value} {l : List At} (h : Holds w v l) : ∃ a c, v = .slice a l.length c := by
  obtain ⟨a, c, rfl, _⟩ := h
  exact ⟨a, c, rfl⟩
def Own (w : World) (base : Nat) (v : Value) (l : List At) (S : List Nat) : Prop := w.ownsRow base 93 2 v l.length (Qt.cells l) ∧ S = fpR v
theorem own_holds {w : World} {base : Nat} {v : Value} {l : List At} {S : List Nat} (h : Own w base v l S) : Holds w v l := Qt.holds_of_own h.1
theorem own_chg {w w' : World} {base : Nat} {v : Value} {l : List At} {S T : List Nat} (h : Own w base v l S) (hc : Chg w w' T) (ha : Apart S T) : Own w' base v l S := ⟨row_chg h.1 hc (by rw [← h.2]; exact ha), h.2⟩
theorem own_below {w w' : World} {base : Nat} {v : Value} {l : List At} {S : List Nat} (h : Own w base v l S) (hb : Below w.heap.size w w') : Own w' base v l S := ⟨row_below h.1 hb, h.2⟩
theorem own_mono {w : World} {base base' : Nat} {v : Value} {l : List At} {S : List Nat} (h : Own w base v l S) (hb : base' ≤ base) : Own w base' v l S := ⟨row_mono h.1 hb, h.2⟩
theorem own_lies {w : World} {base : Nat} {v : Value} {l : List At} {S : List Nat} (h : Own w base v l S) : Lies S base w.heap.size := by rw [h.2]; exact row_lies h.1
theorem own_nodup {w : World} {base : Nat} {v : Value} {l : List At} {S : List Nat} (h : Own w base v l S) : S.Nodup := by rw [h.2]; exact fpR_nodup v
theorem own_form {w : World} {base : Nat} {v : Value} {l : List At} {S : List Nat} (h : Own w base v l S) : ∃ a c, v = .slice a l.length c := Dk.slice_of h.1
theorem own_set {w : World} {base : Nat} {v : Value} {l : List At} {S : List Nat} (h : Own w base v l S) {a : Addr} (ha : a.block < base) (u : Value) : Own (w.setCell a u) base v l S := ⟨ownsRow_setCell_below h.1 ha u, h.2⟩
def Lim (l : List At) : Prop := l.length ≤ maxLen
def cost (l : List At) : Nat := l.length
theorem sz_any (w : World) (v : Value) (l : List At) (left : Nat) (hleft : left ≤ 1073741824) (hl : Lim l) (h : Holds w v l) :
    Calls Tryz.prog 87 #[v, .int .i64 left] w fun e w' => e = .returned (.int .i64 (costOf (cost l) left)) ∧ Below w.heap.size w w' := Qt.sz_any w v l left hleft hl h
theorem to_any (w : World) (v : Value) (l : List At) (hc : cost l ≤ 1073741824) (h : Holds w v l) :
    Calls Tryz.prog 93 #[v] w fun e w' => ∃ v' S, e = .returned v' ∧ Own w' w.heap.size v' l S ∧ Below w.heap.size w w' :=
  (Qt.to_any w v l hc h).mono fun e w' ⟨v', he, ho, hb⟩ => ⟨v', _, he, ⟨ho, rfl⟩, hb⟩
theorem eq_any (w : World) (va vb : Value) (l : List At) (hc : cost l ≤ 1073741824) (h : Holds w va l) (h' : Holds w vb l) :
    Calls Tryz.prog 96 #[va, vb] w fun e w' => e = .returned (.bool true) ∧ Below w.heap.size w w' := Qt.eq_any w va vb l hc h h'
def marks (k : Nat) (l : List At) : List At := Qt.marks k l.length
def wid (l : List At) : Nat := 2 * l.length
theorem wid_cost (l : List At) : wid l ≤ 3 * cost l := by unfold cost wid; omega
theorem wid_le {l : List At} (h : cost l ≤ 1048576) : 1 + wid l ≤ 1073741824 := by unfold cost at h; unfold wid; omega
theorem marks_length (k : Nat) (l : List At) : (marks k l).length = l.length := Qt.marks_length k l.length
theorem mark_any (w : World) (base : Nat) (v : Value) (l : List At) (S : List Nat) (k : Nat) (hk : 1 ≤ k) (hn : k + wid l ≤ 1073741824) (h : Own w base v l S) :
    Calls Tryz.prog 99 #[v, .int .i64 k] w fun e w' => e = .returned (.int .i64 (k + wid l : Nat)) ∧ Own w' base v (marks k l) S ∧ Chg w w' S := by
  obtain ⟨hown, rfl⟩ := h
  refine (Qt.mark_all w base v l.length k l hk hn hown).mono ?_
  rintro e w' ⟨rfl, ho, hg⟩
  exact ⟨by congr 2, ⟨by rw [marks_length]; exact ho, rfl⟩, Chg.of_grown hg⟩
theorem held_any (w : World) (v : Value) (l : List At) (k : Nat) (hk : 1 ≤ k) (hn : k + wid l ≤ 1073741824) (h : Holds w v (marks k l)) :
    Calls Tryz.prog 102 #[v, .int .i64 k] w fun e w' => e = .returned (.int .i64 (k + wid l : Nat)) ∧ Below w.heap.size w w' := by
  refine (Qt.held_all w v l.length k hk hn h).mono ?_
  rintro e w' ⟨rfl, hb⟩
  exact ⟨by congr 2, hb⟩
set_option maxRecDepth 100000 in
/-- What cells that read as a list of the type hold. -/
theorem in_cell {H : Type} {enc : TypeId × Value → H} {W : World} {fuel : Nat} {v : Value} {x : DataW H × List MemPlace} (hf : DataW.trod enc Tryz.prog W 0 (fun _ => true) true fuel 56 [v] = some x) :
    ∃ l : List At, Lim l ∧ Holds W v l := by
  rcases open_slice Tryz.underlying56 hf with ⟨hcs, _⟩ | ⟨a, l, c, m, n, D, Pl, hcs, _, hl, hm, hmm, _, hi⟩
  · simp at hcs
    subst hcs
    exact ⟨[], by simp [Lim], none, 0, rfl, fun hh => absurd rfl hh⟩
  · simp at hcs
    subst hcs
    have hmc : m = c := by simpa using hmm
    subst hmc
    by_cases hl0 : l = 0
    · subst hl0
      exact ⟨[], by simp [Lim], some a, m, rfl, fun hh => absurd rfl hh⟩
    have hel : ∀ i, i < l → ∃ y : At, W.cell? (a.add (i * 2)) = some (.int .i64 y.1) ∧ W.cell? (a.add (i * 2 + 1)) = some (.int .i64 y.2) := by
      intro i hil
      obtain ⟨cs', hc, ht⟩ := hi i (by omega)
      rw [show Tryz.prog.cellsOf 176 = 2 from by kernel_rfl] at hc
      obtain ⟨_, hcl, hat⟩ := World.cells?_some hc
      obtain ⟨xs, fu, _, _, hl', hxl, hfs⟩ := DataW.trod_struct Tryz.underlying176 ht
      obtain ⟨c0, c1, rfl⟩ : ∃ c0 c1, cs' = [c0, c1] := by
        match cs', hcl with
        | [c0, c1], _ => exact ⟨_, _, rfl⟩
      obtain ⟨z0, z1, rfl⟩ : ∃ z0 z1, xs = [z0, z1] := by
        match xs, hxl with
        | [c0, c1], _ => exact ⟨_, _, rfl⟩
      have hci : Tryz.prog.cellsOf 3 = 1 := by kernel_rfl
      have e0 : DataW.trod enc Tryz.prog W 0 (fun _ => true) true fu 3 [c0] = some z0 := by simpa [hci] using hfs 0 _ rfl
      obtain ⟨i0, hi0, _, m0⟩ := DataW.trod_int Tryz.underlying3 e0
      obtain rfl : c0 = .int .i64 i0 := by simpa using hi0
      have q0 := hat 0 (by omega)
      rw [Addr.add_add] at q0
      have e1 : DataW.trod enc Tryz.prog W 0 (fun _ => true) true fu 3 [c1] = some z1 := by simpa [hci] using hfs 1 _ rfl
      obtain ⟨i1, hi1, _, m1⟩ := DataW.trod_int Tryz.underlying3 e1
      obtain rfl : c1 = .int .i64 i1 := by simpa using hi1
      have q1 := hat 1 (by omega)
      rw [Addr.add_add] at q1
      exact ⟨(i0, i1), q0, q1⟩
    obtain ⟨y, he0, _⟩ := hel 0 (by omega)
    have hspot : a.spot = none := by simpa [Addr.add] using World.cell?_spot he0
    have hblk : a.block < W.heap.size := by simpa [Addr.add] using Dk.cell_block he0
    obtain ⟨bk, off, spot⟩ := a
    simp only at hspot hblk
    subst hspot
    obtain ⟨f, hfs⟩ := Classical.skolem.1 (show ∀ i, ∃ y : At, i < l → W.cell? (Addr.add ⟨bk, off, none⟩ (i * 2)) = some (.int .i64 y.1) ∧ W.cell? (Addr.add ⟨bk, off, none⟩ (i * 2 + 1)) = some (.int .i64 y.2) from fun i => by
      by_cases hil : i < l
      · obtain ⟨y, hy⟩ := hel i hil
        exact ⟨y, fun _ => hy⟩
      · exact ⟨a0, fun h => absurd h hil⟩)
    have hlen : ((List.range l).map f).length = l := by simp
    refine ⟨(List.range l).map f, show _ ≤ maxLen by rw [hlen]; omega, some ⟨bk, off, none⟩, m, by rw [hlen], fun _ => ⟨bk, off, rfl, hblk, fun j hj => ?_⟩⟩
    rw [hlen] at hj
    have q := hfs j hj
    simp only [Addr.add_lit] at q
    have e : ((List.range l).map f).getD j a0 = f j := by
      rw [List.getD_eq_getElem?_getD, List.getElem?_map, List.getElem?_range hj]; rfl
    rw [e]
    exact q
set_option maxRecDepth 100000 in
theorem in_any {H : Type} {enc : TypeId × Value → H} {W : World} {b0 : Nat} {v : Value} {x : DataW H} {p : List MemPlace} (hv : Value.okWide Tryz.prog W .any b0 56 v) (h : DataW.Trod enc Tryz.prog W 0 (fun _ => true) true 56 v x p) :
    ∃ l : List At, Lim l ∧ Holds W v l := by
  obtain ⟨a1, l0, c0, rfl⟩ := okWide_slice Tryz.underlying56 hv
  obtain ⟨fuel, hf⟩ := h
  exact in_cell hf
end Go.Proofs.YtafmpllkehbmeaaGreatDoor.QF
