/- The uniform face of a slice of entries: what it holds, owns, costs, its marks. Conditions: as each theorem types them. -/
import Derived.Test.YtafmpllkehbmeaaGreatDoorAeIn
import Derived.Test.YtafmpllkehbmeaaGreatDoorFoot
namespace Go.Proofs.YtafmpllkehbmeaaGreatDoor.AeF
open Go.ChangeShapes Go.WideShapes Go.ChangeAt Go.RowKit Go.Deep
open Foot
open AclV (At a0)
set_option linter.unusedVariables false

abbrev L := List At
def Holds (w : World) (v : Value) (l : List At) : Prop := Ae.Holds w v l
theorem holds_below {w w' : World} {v : Value} {l : List At} (h : Holds w v l) (hb : Below w.heap.size w w') : Holds w' v l := Ae.holds_below h hb
theorem form {w : World} {v : Value} {l : List At} (h : Holds w v l) : ∃ a c, v = .slice a l.length c := by
  obtain ⟨a, c, rfl, _⟩ := h
  exact ⟨a, c, rfl⟩
def Own (w : World) (base : Nat) (v : Value) (l : List At) (S : List Nat) : Prop := w.ownsRow base 137 3 v l.length (Ae.cells l) ∧ S = fpR v
theorem own_holds {w : World} {base : Nat} {v : Value} {l : List At} {S : List Nat} (h : Own w base v l S) : Holds w v l := Ae.holds_of_own h.1
theorem own_chg {w w' : World} {base : Nat} {v : Value} {l : List At} {S T : List Nat} (h : Own w base v l S) (hc : Chg w w' T) (ha : Apart S T) : Own w' base v l S := ⟨row_chg h.1 hc (by rw [← h.2]; exact ha), h.2⟩
theorem own_below {w w' : World} {base : Nat} {v : Value} {l : List At} {S : List Nat} (h : Own w base v l S) (hb : Below w.heap.size w w') : Own w' base v l S := ⟨row_below h.1 hb, h.2⟩
theorem own_mono {w : World} {base base' : Nat} {v : Value} {l : List At} {S : List Nat} (h : Own w base v l S) (hb : base' ≤ base) : Own w base' v l S := ⟨row_mono h.1 hb, h.2⟩
theorem own_lies {w : World} {base : Nat} {v : Value} {l : List At} {S : List Nat} (h : Own w base v l S) : Lies S base w.heap.size := by rw [h.2]; exact row_lies h.1
theorem own_nodup {w : World} {base : Nat} {v : Value} {l : List At} {S : List Nat} (h : Own w base v l S) : S.Nodup := by rw [h.2]; exact fpR_nodup v
theorem own_form {w : World} {base : Nat} {v : Value} {l : List At} {S : List Nat} (h : Own w base v l S) : ∃ a c, v = .slice a l.length c := Dk.slice_of h.1
theorem own_set {w : World} {base : Nat} {v : Value} {l : List At} {S : List Nat} (h : Own w base v l S) {a : Addr} (ha : a.block < base) (u : Value) : Own (w.setCell a u) base v l S := ⟨ownsRow_setCell_below h.1 ha u, h.2⟩
def Lim (l : List At) : Prop := l.length ≤ maxLen
def cost (l : List At) : Nat := l.length
theorem sz_any (w : World) (v : Value) (l : List At) (left : Nat) (hleft : left ≤ 1073741824) (hl : Lim l) (h : Holds w v l) :
    Calls Tryz.prog 200 #[v, .int .i64 left] w fun e w' => e = .returned (.int .i64 (costOf (cost l) left)) ∧ Below w.heap.size w w' := Ae.sz_any w v l left hleft hl h
theorem to_any (w : World) (v : Value) (l : List At) (hc : cost l ≤ 1073741824) (h : Holds w v l) :
    Calls Tryz.prog 204 #[v] w fun e w' => ∃ v' S, e = .returned v' ∧ Own w' w.heap.size v' l S ∧ Below w.heap.size w w' :=
  (Ae.to_any w v l hc h).mono fun e w' ⟨v', he, ho, hb⟩ => ⟨v', _, he, ⟨ho, rfl⟩, hb⟩
theorem eq_any (w : World) (va vb : Value) (l : List At) (hc : cost l ≤ 1073741824) (h : Holds w va l) (h' : Holds w vb l) :
    Calls Tryz.prog 206 #[va, vb] w fun e w' => e = .returned (.bool true) ∧ Below w.heap.size w w' := Ae.eq_any w va vb l hc h h'
def marks (k : Nat) (l : List At) : List At := Ae.marks k l.length
def wid (l : List At) : Nat := 3 * l.length
theorem wid_cost (l : List At) : wid l ≤ 3 * cost l := by unfold cost wid; omega
theorem wid_le {l : List At} (h : cost l ≤ 1048576) : 1 + wid l ≤ 1073741824 := by unfold cost at h; unfold wid; omega
theorem marks_length (k : Nat) (l : List At) : (marks k l).length = l.length := Ae.marks_length k l.length
theorem mark_any (w : World) (base : Nat) (v : Value) (l : List At) (S : List Nat) (k : Nat) (hk : 1 ≤ k) (hn : k + wid l ≤ 1073741824) (h : Own w base v l S) :
    Calls Tryz.prog 168 #[v, .int .i64 k] w fun e w' => e = .returned (.int .i64 (k + wid l : Nat)) ∧ Own w' base v (marks k l) S ∧ Chg w w' S := by
  obtain ⟨hown, rfl⟩ := h
  refine (Ae.mark_all w base v l.length k l hk hn hown).mono ?_
  rintro e w' ⟨rfl, ho, hg⟩
  exact ⟨by congr 2, ⟨by rw [marks_length]; exact ho, rfl⟩, Chg.of_grown hg⟩
theorem held_any (w : World) (v : Value) (l : List At) (k : Nat) (hk : 1 ≤ k) (hn : k + wid l ≤ 1073741824) (h : Holds w v (marks k l)) :
    Calls Tryz.prog 170 #[v, .int .i64 k] w fun e w' => e = .returned (.int .i64 (k + wid l : Nat)) ∧ Below w.heap.size w w' := by
  refine (Ae.held_all w v l.length k hk hn h).mono ?_
  rintro e w' ⟨rfl, hb⟩
  exact ⟨by congr 2, hb⟩
/-- What cells that read as a list of entries hold. -/
theorem in_cell {H : Type} {enc : TypeId × Value → H} {W : World} {fuel : Nat} {v : Value} {x : DataW H × List MemPlace} (hf : DataW.trod enc Tryz.prog W 0 (fun _ => true) true fuel 168 [v] = some x) :
    ∃ l : List At, Lim l ∧ Holds W v l := Ae.ents_of hf
set_option maxRecDepth 100000 in
theorem in_any {H : Type} {enc : TypeId × Value → H} {W : World} {b0 : Nat} {v : Value} {x : DataW H} {p : List MemPlace} (hv : Value.okWide Tryz.prog W .any b0 168 v) (h : DataW.Trod enc Tryz.prog W 0 (fun _ => true) true 168 v x p) :
    ∃ l : List At, Lim l ∧ Holds W v l := by
  obtain ⟨a1, l0, c0, rfl⟩ := okWide_slice Tryz.underlying168 hv
  obtain ⟨fuel, hf⟩ := h
  exact in_cell hf
end Go.Proofs.YtafmpllkehbmeaaGreatDoor.AeF
