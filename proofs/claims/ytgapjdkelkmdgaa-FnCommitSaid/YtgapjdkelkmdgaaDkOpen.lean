/- What an argument that is a disk of the law's own, or a slice of strings, of writes, holds. Conditions: it reads as data. -/
import Derived.Test.YtgapjdkelkmdgaaDkAt
import Derived.SliceStrings
namespace Go.Proofs.Ytgapjdkelkmdgaa.Dk
open Go.ChangeShapes Go.WideShapes Go.ChangeAt Go.RowKit Go.Deep
open Wr (Wt wcells datas d0)
set_option linter.unusedVariables false
section
variable {H : Type} {enc : TypeId × Value → H} {W : World}

theorem cell_block {w : World} {p : Addr} {v : Value} (h : w.cell? p = some v) : p.block < w.heap.size := by
  simp only [World.cell?] at h
  split at h
  · rename_i heq; exact (Array.getElem?_eq_some_iff.1 heq).1
  · cases h

set_option maxRecDepth 100000 in
theorem strs_of {fuel : Nat} {v : Value} {x : DataW H × List MemPlace} (hf : DataW.trod enc Try.prog W 0 (fun _ => true) true fuel 23 [v] = some x) :
    ∃ xs : List ByteArray, xs.length ≤ maxLen ∧ (∀ y ∈ xs, y.size ≤ maxLen) ∧ Strs.Holds W v xs := by
  rcases open_strings Try.underlying23 Try.underlying9 (by kernel_rfl) hf with ⟨hcs, _⟩ | ⟨x, l, c, ss, hcs, _, hl, hm, hz, _, hcell, hwz⟩
  · simp at hcs
    subst hcs
    exact ⟨[], by simp, by simp, none, 0, rfl, fun hh => absurd rfl hh⟩
  · simp at hcs
    subst hcs
    have hz' : ss.length = c := by simpa using hz
    have htl : (ss.take l).length = l := by simp; omega
    refine ⟨ss.take l, by rw [htl]; omega, fun y hy => hwz y (List.mem_of_mem_take hy), some x, c, by rw [htl], fun hne => ?_⟩
    have hpos : 0 < l := by
      rcases Nat.eq_zero_or_pos l with h | h
      · subst h; exact absurd rfl hne
      · exact h
    obtain ⟨bk, off, spot⟩ := x
    have hc0 := hcell 0 (by omega)
    have hspot : spot = none := by simpa [Addr.add] using World.cell?_spot hc0
    subst hspot
    refine ⟨bk, off, rfl, by simpa [Addr.add] using cell_block hc0, fun j hj => ?_⟩
    rw [htl] at hj
    have := hcell j (by omega)
    rw [Addr.add_lit] at this
    have e : (ss.take l).getD j ⟨#[]⟩ = ss.getD j ByteArray.empty := by
      rw [List.getD_eq_getElem?_getD, List.getD_eq_getElem?_getD, List.getElem?_take_of_lt hj]; rfl
    rw [this, e]

set_option maxRecDepth 100000 in
theorem wrs_of {fuel : Nat} {v : Value} {x : DataW H × List MemPlace} (hf : DataW.trod enc Try.prog W 0 (fun _ => true) true fuel 48 [v] = some x) :
    ∃ ws : List Wt, ws.length ≤ maxLen ∧ (∀ y ∈ ws, y.2.size ≤ maxLen) ∧ Wr.Holds W v ws := by
  rcases open_slice Try.underlying48 hf with ⟨hcs, _⟩ | ⟨a, l, c, m, n, D, Pl, hcs, _, hl, hm, hmm, _, hi⟩
  · simp at hcs
    subst hcs
    exact ⟨[], by simp, by simp, none, 0, rfl, fun hh => absurd rfl hh⟩
  · simp at hcs
    subst hcs
    have hmc : m = c := by simpa using hmm
    subst hmc
    by_cases hl0 : l = 0
    · subst hl0
      exact ⟨[], by simp, by simp, some a, m, rfl, fun hh => absurd rfl hh⟩
    have hel : ∀ i, i < l → ∃ y : Wt, W.cell? (a.add (i * 2)) = some (.int .i64 y.1) ∧ W.cell? (a.add (i * 2 + 1)) = some (.string y.2) ∧ y.2.size ≤ maxLen := by
      intro i hil
      obtain ⟨cs', hc, ht⟩ := hi i (by omega)
      rw [show Try.prog.cellsOf 109 = 2 from by kernel_rfl] at hc
      obtain ⟨_, hcl, hat⟩ := World.cells?_some hc
      obtain ⟨y0, y1, n', _, hlen, h0, h1⟩ := trod_struct2 Try.underlying109 ht
      obtain ⟨c0, c1, rfl⟩ : ∃ c0 c1, cs' = [c0, c1] := by
        match cs', hcl with
        | [c0, c1], _ => exact ⟨c0, c1, rfl⟩
      have e0 := hat 0 (by omega)
      have e1 := hat 1 (by omega)
      obtain ⟨z, hz, _, _⟩ := DataW.trod_int Try.underlying3 h0
      obtain ⟨s, hs, _, hw⟩ := DataW.trod_string Try.underlying9 h1
      have hz' : c0 = .int .i64 z := by simpa [show Try.prog.cellsOf 3 = 1 from by kernel_rfl] using hz
      have hs' : c1 = .string s := by simpa [show Try.prog.cellsOf 9 = 1 from by kernel_rfl] using hs
      rw [Addr.add_add] at e0 e1
      exact ⟨(z, s), by rw [← hz']; exact e0, by rw [← hs']; exact e1, hw⟩
    obtain ⟨y, he0, _, _⟩ := hel 0 (by omega)
    have hspot : a.spot = none := by simpa [Addr.add] using World.cell?_spot he0
    have hblk : a.block < W.heap.size := by simpa [Addr.add] using cell_block he0
    obtain ⟨bk, off, spot⟩ := a
    simp only at hspot hblk
    subst hspot
    obtain ⟨f, hfs⟩ := Classical.skolem.1 (show ∀ i, ∃ y : Wt, i < l → W.cell? (Addr.add ⟨bk, off, none⟩ (i * 2)) = some (.int .i64 y.1) ∧ W.cell? (Addr.add ⟨bk, off, none⟩ (i * 2 + 1)) = some (.string y.2) ∧ y.2.size ≤ maxLen from fun i => by
      by_cases hil : i < l
      · obtain ⟨y, hy⟩ := hel i hil
        exact ⟨y, fun _ => hy⟩
      · exact ⟨d0, fun h => absurd h hil⟩)
    have hlen : ((List.range l).map f).length = l := by simp
    refine ⟨(List.range l).map f, by rw [hlen]; omega, fun y hy => ?_, some ⟨bk, off, none⟩, m, by rw [hlen], fun _ => ⟨bk, off, rfl, hblk, fun j hj => ?_⟩⟩
    · obtain ⟨i, hi', rfl⟩ := List.mem_map.1 hy
      exact (hfs i (by simpa using hi')).2.2
    · rw [hlen] at hj
      obtain ⟨q0, q1, _⟩ := hfs j hj
      rw [Addr.add_lit] at q0 q1
      have e : ((List.range l).map f).getD j d0 = f j := by
        rw [List.getD_eq_getElem?_getD, List.getElem?_map, List.getElem?_range hj]; rfl
      rw [e]
      exact ⟨q0, q1⟩

/-- What an argument that is a disk offers. -/
structure In (w : World) (vs vp : Value) (d : D) : Prop where
  l1 : d.1.length ≤ maxLen
  z1 : ∀ y ∈ d.1, y.size ≤ maxLen
  l2 : d.2.length ≤ maxLen
  z2 : ∀ y ∈ d.2, y.2.size ≤ maxLen
  holds : Holds w vs vp d
set_option maxRecDepth 100000 in
theorem disk_of {b0 : Nat} {v : Value} {x : DataW H} {p : List MemPlace} (hv : Value.okWide Try.prog W .any b0 50 v) (h : DataW.Trod enc Try.prog W 0 (fun _ => true) true 50 v x p) :
    ∃ (vs vp : Value) (d : D), v = .agg #[vs, vp] ∧ In W vs vp d := by
  obtain ⟨v0, v1, y0, y1, n, rfl, _, _, h0, h1⟩ := Joins.open_agg2 Try.underlying50 (by kernel_rfl) (by kernel_rfl) hv h
  obtain ⟨ss, q1, q2, q3⟩ := strs_of h0
  obtain ⟨ws, q4, q5, q6⟩ := wrs_of h1
  exact ⟨v0, v1, (ss, ws), rfl, q1, q2, q4, q5, q3, q6⟩
end
theorem cost_pos {d : D} {left : Nat} (h : cost d ≤ left) : costOf d left = ((left - cost d : Nat) : Int) := if_pos h
theorem cost_neg {d : D} {left : Nat} (h : ¬ cost d ≤ left) : costOf d left = -1 := if_neg h
theorem cost_len {d : D} {left : Nat} (h : cost d ≤ left) : d.1.length ≤ left ∧ d.2.length ≤ left := by unfold cost at h; omega
end Go.Proofs.Ytgapjdkelkmdgaa.Dk
