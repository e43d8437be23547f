/- Contracts and plain facts that a law of this seat leans on. Conditions: as each theorem types them. -/
import Derived.Test.YthppbcnejapbiaaDkAt
import Derived.SliceStrings
namespace Go.Proofs.Ythppbcnejapbiaa.Dk
open Go.ChangeShapes Go.WideShapes Go.ChangeAt Go.RowKit Go.Deep
open Wr (Wt wcells datas d0)
set_option linter.unusedVariables false
section
variable {H : Type} {enc : TypeId × Value → H} {W : World}

theorem cell_block {w : World} {p : Addr} {v : Value} (h : w.cell? p = some v) : p.block < w.heap.size := by
  simp only [World.cell?] at h
  split at h
  · rename_i heq; exact (Array.getElem?_eq_some_iff.1 heq).1
  · cases h

set_option maxRecDepth 100000 in
theorem strs_of {fuel : Nat} {v : Value} {x : DataW H × List MemPlace} (hf : DataW.trod enc Try.prog W 0 (fun _ => true) true fuel 22 [v] = some x) :
    ∃ xs : List ByteArray, xs.length ≤ maxLen ∧ (∀ y ∈ xs, y.size ≤ maxLen) ∧ Strs.Holds W v xs := by
  rcases open_strings Try.underlying22 Try.underlying9 (by kernel_rfl) hf with ⟨hcs, _⟩ | ⟨x, l, c, ss, hcs, _, hl, hm, hz, _, hcell, hwz⟩
  · simp at hcs
    subst hcs
    exact ⟨[], by simp, by simp, none, 0, rfl, fun hh => absurd rfl hh⟩
  · simp at hcs
    subst hcs
    have hz' : ss.length = c := by simpa using hz
    have htl : (ss.take l).length = l := by simp; omega
    refine ⟨ss.take l, by rw [htl]; omega, fun y hy => hwz y (List.mem_of_mem_take hy), some x, c, by rw [htl], fun hne => ?_⟩
    have hpos : 0 < l := by
      rcases Nat.eq_zero_or_pos l with h | h
      · subst h; exact absurd rfl hne
      · exact h
    obtain ⟨bk, off, spot⟩ := x
    have hc0 := hcell 0 (by omega)
    have hspot : spot = none := by simpa [Addr.add] using World.cell?_spot hc0
    subst hspot
    refine ⟨bk, off, rfl, by simpa [Addr.add] using cell_block hc0, fun j hj => ?_⟩
    rw [htl] at hj
    have := hcell j (by omega)
    rw [Addr.add_lit] at this
    have e : (ss.take l).getD j ⟨#[]⟩ = ss.getD j ByteArray.empty := by
      rw [List.getD_eq_getElem?_getD, List.getD_eq_getElem?_getD, List.getElem?_take_of_lt hj]; rfl
    rw [this, e]

/-- What an argument that is a disk offers. -/
structure In (w : World) (vs vp : Value) (d : D) : Prop where
  l1 : d.1.length ≤ maxLen
  z1 : ∀ y ∈ d.1, y.size ≤ maxLen
  l2 : d.2.length ≤ maxLen
  z2 : ∀ y ∈ d.2, y.2.size ≤ maxLen
  holds : Holds w vs vp d
end
theorem cost_pos {d : D} {left : Nat} (h : cost d ≤ left) : costOf d left = ((left - cost d : Nat) : Int) := if_pos h
theorem cost_neg {d : D} {left : Nat} (h : ¬ cost d ≤ left) : costOf d left = -1 := if_neg h
theorem cost_len {d : D} {left : Nat} (h : cost d ≤ left) : d.1.length ≤ left ∧ d.2.length ≤ left := by unfold cost at h; omega
end Go.Proofs.Ythppbcnejapbiaa.Dk
