/- A drawn code that came in as a slice of bytes: what its reading gives the contracts of the laws' cursor. No condition of its own. -/
import Derived.Test.YtjdehgadfjopiaaCur
import Derived.OpenShut
namespace Go.Proofs.Ytjdehgadfjopiaa.Cur
open Go.ChangeShapes Go.WideShapes Go.ChangeAt Go.RowKit
set_option linter.unusedVariables false

theorem add_at (b o j : Nat) : (⟨b, o, none⟩ : Addr).add j = ⟨b, o + j, none⟩ := by
  simp only [Addr.add]
  split
  · rename_i h; subst h; rfl
  · rfl
theorem open_code {H : Type} {enc : TypeId × Value → H} {W : World} {a0 : Option Addr} {len0 cap0 : Nat} {d : DataW H} {p : List MemPlace}
    (h0 : DataW.Trod enc Try.prog W 0 (fun _ => true) true 22 (.slice a0 len0 cap0) d p) (hlen : len0 ≤ 1048576) :
    ∃ ns : List Nat, ns.length = len0 ∧ CodeIn W W.heap.size (.slice a0 len0 cap0) ns := by
  obtain ⟨fuel, hf⟩ := h0
  rcases open_ints Try.underlying22 Try.underlying5 (by kernel_rfl) hf with ⟨hcs, _⟩ | ⟨x, l, c, zs, hcs, _, hl, hm, hz, _, hcell, hwz⟩
  · simp [Value.cells] at hcs
    obtain ⟨rfl, rfl, rfl⟩ := hcs
    exact ⟨[], rfl, none, 0, rfl, by simp, by simp, fun h => by simp at h⟩
  · simp [Value.cells] at hcs
    obtain ⟨rfl, rfl, rfl⟩ := hcs
    have hz' : zs.length = cap0 := by simpa using hz
    have hlen2 : ((zs.take len0).map Int.toNat).length = len0 := by simp; omega
    refine ⟨(zs.take len0).map Int.toNat, hlen2, some x, cap0, by rw [hlen2], by rw [hlen2]; exact hlen, ?_, fun hp => ?_⟩
    · intro y hy
      obtain ⟨z, hz1, rfl⟩ := List.mem_map.1 hy
      have := hwz z (List.mem_of_mem_take hz1)
      simp [Lit.wf, IntKind.min, IntKind.max, IntKind.signed, IntKind.bits] at this
      omega
    · rw [hlen2] at hp
      obtain ⟨bk, off, spot⟩ := x
      have hc0 := hcell 0 (by omega)
      have hspot : spot = none := by simpa [Addr.add] using World.cell?_spot hc0
      subst hspot
      refine ⟨bk, off, rfl, ?_, fun j hj => ?_⟩
      · have := hc0
        simp only [World.cell?, Addr.add] at this
        split at this
        · rename_i heq; exact (Array.getElem?_eq_some_iff.1 heq).1
        · cases this
      · rw [hlen2] at hj
        have := hcell j (by omega)
        rw [add_at bk off j] at this
        rw [this]
        have hjl : j < zs.length := by omega
        have hw := hwz zs[j] (List.getElem_mem hjl)
        simp [Lit.wf, IntKind.min, IntKind.max, IntKind.signed, IntKind.bits] at hw
        have e : ((zs.take len0).map Int.toNat).getD j 0 = zs[j].toNat := by
          rw [List.getD_eq_getElem?_getD, List.getElem?_map, List.getElem?_take_of_lt hj, List.getElem?_eq_getElem hjl]; rfl
        rw [e, List.getD_eq_getElem?_getD, List.getElem?_eq_getElem hjl]
        simp only [Option.getD_some]
        congr 2
        omega
end Go.Proofs.Ytjdehgadfjopiaa.Cur
