/- What an argument that is a slice of steps offers. Conditions: as each theorem types them. -/
import Derived.Test.YtgapjdkelkmdgaaSpTwo
import Derived.Test.YtgapjdkelkmdgaaDkOpen
import Derived.Test.YtgapjdkelkmdgaaWrIn
namespace Go.Proofs.Ytgapjdkelkmdgaa.Sp
open Go.ChangeShapes Go.WideShapes Go.ChangeAt Go.RowKit Go.Deep
open Strs (budgetOf total)
open Txn (St s0)
set_option linter.unusedVariables false

set_option maxRecDepth 100000 in
theorem steps_of {H : Type} {enc : TypeId × Value → H} {W : World} {fuel : Nat} {v : Value} {x : DataW H × List MemPlace} (hf : DataW.trod enc Try.prog W 0 (fun _ => true) true fuel 65 [v] = some x) :
    ∃ ws : List St, ws.length ≤ maxLen ∧ (∀ y ∈ ws, y.2.2.size ≤ maxLen) ∧ Holds W v ws := by
  rcases open_slice Try.underlying65 hf with ⟨hcs, _⟩ | ⟨a, l, c, m, n, D, Pl, hcs, _, hl, hm, hmm, _, hi⟩
  · simp at hcs
    subst hcs
    exact ⟨[], by simp, by simp, none, 0, rfl, fun hh => absurd rfl hh⟩
  · simp at hcs
    subst hcs
    have hmc : m = c := by simpa using hmm
    subst hmc
    by_cases hl0 : l = 0
    · subst hl0
      exact ⟨[], by simp, by simp, some a, m, rfl, fun hh => absurd rfl hh⟩
    have hel : ∀ i, i < l → ∃ y : St, W.cell? (a.add (i * 3)) = some (.bool y.1) ∧ W.cell? (a.add (i * 3 + 1)) = some (.int .i64 y.2.1) ∧ W.cell? (a.add (i * 3 + 2)) = some (.string y.2.2) ∧ y.2.2.size ≤ maxLen := by
      intro i hil
      obtain ⟨cs', hc, ht⟩ := hi i (by omega)
      rw [show Try.prog.cellsOf 121 = 3 from by kernel_rfl] at hc
      obtain ⟨_, hcl, hat⟩ := World.cells?_some hc
      obtain ⟨y0, y1, n', _, hlen, h0, h1⟩ := trod_struct2 Try.underlying121 ht
      obtain ⟨y2, y3, n2, _, hlen2, h2, h3⟩ := trod_struct2 Try.underlying109 h1
      obtain ⟨c0, c1, c2, rfl⟩ : ∃ c0 c1 c2, cs' = [c0, c1, c2] := by
        match cs', hcl with
        | [c0, c1, c2], _ => exact ⟨c0, c1, c2, rfl⟩
      have e0 := hat 0 (by omega)
      have e1 := hat 1 (by omega)
      have e2 := hat 2 (by omega)
      obtain ⟨b, hb, _⟩ := DataW.trod_bool Try.underlying4 h0
      obtain ⟨z, hz, _, _⟩ := DataW.trod_int Try.underlying3 h2
      obtain ⟨s, hs, _, hw⟩ := DataW.trod_string Try.underlying9 h3
      have hb' : c0 = .bool b := by simpa [show Try.prog.cellsOf 4 = 1 from by kernel_rfl] using hb
      have hz' : c1 = .int .i64 z := by simpa [show Try.prog.cellsOf 4 = 1 from by kernel_rfl, show Try.prog.cellsOf 3 = 1 from by kernel_rfl, show Try.prog.cellsOf 109 = 2 from by kernel_rfl] using hz
      have hs' : c2 = .string s := by simpa [show Try.prog.cellsOf 4 = 1 from by kernel_rfl, show Try.prog.cellsOf 3 = 1 from by kernel_rfl, show Try.prog.cellsOf 9 = 1 from by kernel_rfl, show Try.prog.cellsOf 109 = 2 from by kernel_rfl] using hs
      rw [Addr.add_add] at e0 e1 e2
      exact ⟨(b, z, s), by rw [← hb']; exact e0, by rw [← hz']; exact e1, by rw [← hs']; exact e2, hw⟩
    obtain ⟨y, he0, _, _⟩ := hel 0 (by omega)
    have hspot : a.spot = none := by simpa [Addr.add] using World.cell?_spot he0
    have hblk : a.block < W.heap.size := by simpa [Addr.add] using Dk.cell_block he0
    obtain ⟨bk, off, spot⟩ := a
    simp only at hspot hblk
    subst hspot
    obtain ⟨f, hfs⟩ := Classical.skolem.1 (show ∀ i, ∃ y : St, i < l → W.cell? (Addr.add ⟨bk, off, none⟩ (i * 3)) = some (.bool y.1) ∧ W.cell? (Addr.add ⟨bk, off, none⟩ (i * 3 + 1)) = some (.int .i64 y.2.1) ∧ W.cell? (Addr.add ⟨bk, off, none⟩ (i * 3 + 2)) = some (.string y.2.2) ∧ y.2.2.size ≤ maxLen from fun i => by
      by_cases hil : i < l
      · obtain ⟨y, hy⟩ := hel i hil
        exact ⟨y, fun _ => hy⟩
      · exact ⟨s0, fun h => absurd h hil⟩)
    have hlen : ((List.range l).map f).length = l := by simp
    refine ⟨(List.range l).map f, by rw [hlen]; omega, fun y hy => ?_, some ⟨bk, off, none⟩, m, by rw [hlen], fun _ => ⟨bk, off, rfl, hblk, fun j hj => ?_⟩⟩
    · obtain ⟨i, hi', rfl⟩ := List.mem_map.1 hy
      exact (hfs i (by simpa using hi')).2.2.2
    · rw [hlen] at hj
      obtain ⟨q0, q1, q2, _⟩ := hfs j hj
      rw [Addr.add_lit] at q0 q1 q2
      have e : ((List.range l).map f).getD j s0 = f j := by
        rw [List.getD_eq_getElem?_getD, List.getElem?_map, List.getElem?_range hj]; rfl
      rw [e]
      exact ⟨q0, q1, q2⟩
/-- What an argument that is a slice of steps offers. -/
structure LIn (w : World) (v : Value) (l : List St) : Prop where
  len : l.length ≤ maxLen
  sz : ∀ y ∈ l, y.2.2.size ≤ maxLen
  holds : Holds w v l
set_option maxRecDepth 100000 in
theorem list_of {H : Type} {enc : TypeId × Value → H} {W : World} {b0 : Nat} {v : Value} {x : DataW H} {p : List MemPlace} (hv : Value.okWide Try.prog W .any b0 65 v) (h : DataW.Trod enc Try.prog W 0 (fun _ => true) true 65 v x p) :
    ∃ l : List St, LIn W v l := by
  obtain ⟨a0, l0, c0, rfl⟩ := okWide_slice Try.underlying65 hv
  obtain ⟨fuel, hf⟩ := h
  obtain ⟨ws, q1, q2, q3⟩ := steps_of hf
  exact ⟨ws, q1, q2, q3⟩
/-- What reading the list costs. -/
def lcost (l : List St) : Nat := l.length + total (datas l)
theorem budget_pos {l : List St} {r : Nat} (h : lcost l ≤ r) : budgetOf (datas l) r = ((r - lcost l : Nat) : Int) := by
  unfold lcost at h
  rw [budgetOf, if_pos (by rw [datas_length]; exact h), datas_length, lcost, Nat.sub_sub]
theorem budget_neg {l : List St} {r : Nat} (h : ¬ lcost l ≤ r) : budgetOf (datas l) r = -1 := by
  unfold lcost at h
  rw [budgetOf, if_neg (by rw [datas_length]; exact h)]
theorem mem_total : ∀ (l : List St), ∀ x ∈ l, x.2.2.size ≤ total (datas l) := by
  intro l
  induction l with
  | nil => intro x hx; cases hx
  | cons a l ih =>
    intro x hx
    have h : total (datas (a :: l)) = a.2.2.size + total (datas l) := by simp [total, datas]
    rcases List.mem_cons.1 hx with rfl | hx
    · omega
    · have := ih x hx; omega
end Go.Proofs.Ytgapjdkelkmdgaa.Sp
