/- Contracts and plain facts that a law of this seat leans on. Conditions: as each theorem types them. -/
import Derived.Test.YtmljjdglmlnbaaaGreatDoorNi
import Derived.Test.YtmljjdglmlnbaaaGreatDoorBx
import Derived.Test.YtmljjdglmlnbaaaGreatDoorCredV
namespace Go.Proofs.YtmljjdglmlnbaaaGreatDoor.Cr
open Go.ChangeShapes Go.WideShapes Go.ChangeAt Go.RowKit Go.Deep
open Bx
open CredV (Cr)
open Strs (ret_int own_below)
open Ni (HoldsN)
set_option linter.unusedVariables false

def costOf (n left : Nat) : Int := if n ≤ left then ((left - n : Nat) : Int) else -1
theorem cost_pos {n left : Nat} (h : n ≤ left) : costOf n left = ((left - n : Nat) : Int) := if_pos h
theorem cost_neg {n left : Nat} (h : ¬ n ≤ left) : costOf n left = -1 := if_neg h

/-- What an argument of that type offers. -/
structure In (w : World) (gv : Value) (l : List Int) : Prop where
  len : l.length ≤ maxLen
  holds : HoldsN w gv l
set_option maxRecDepth 100000 in
theorem ints_in {H : Type} {enc : TypeId × Value → H} {W : World} {fuel : Nat} {v : Value} {x : DataW H × List MemPlace} (hf : DataW.trod enc Tryz.prog W 0 (fun _ => true) true fuel 44 [v] = some x) :
    ∃ l : List Int, In W v l := by
  rcases open_slice Tryz.underlying44 hf with ⟨hcs, _⟩ | ⟨a, l, c, m, n, D, Pl, hcs, _, hl, hm, hmm, _, hi⟩
  · simp at hcs
    subst hcs
    exact ⟨[], by simp, none, 0, rfl, fun i hi => by simp at hi⟩
  · simp at hcs
    subst hcs
    have hmc : m = c := by simpa using hmm
    subst hmc
    have hel : ∀ i, i < l → ∃ y : Int, W.cell? (a.add i) = some (.int .i64 y) := by
      intro i hil
      obtain ⟨cs', hc, ht⟩ := hi i (by omega)
      rw [show Tryz.prog.cellsOf 3 = 1 from by kernel_rfl] at hc
      obtain ⟨_, hcl, hat⟩ := World.cells?_some hc
      obtain ⟨y, hy, _, _⟩ := DataW.trod_int Tryz.underlying3 ht
      have e0 := hat 0 (by omega)
      rw [Addr.add_add, hy] at e0
      exact ⟨y, by simpa using e0⟩
    by_cases hl0 : l = 0
    · subst hl0
      exact ⟨[], by simp, some a, m, rfl, fun i hi => by simp at hi⟩
    obtain ⟨y, he0⟩ := hel 0 (by omega)
    have hspot : a.spot = none := by simpa [Addr.add] using World.cell?_spot he0
    have hblk : a.block < W.heap.size := by simpa [Addr.add] using Dk.cell_block he0
    obtain ⟨bk, off, spot⟩ := a
    simp only at hspot hblk
    subst hspot
    obtain ⟨f, hfs⟩ := Classical.skolem.1 (show ∀ i, ∃ y : Int, i < l → W.cell? (Addr.add ⟨bk, off, none⟩ i) = some (.int .i64 y) from fun i => by
      by_cases hil : i < l
      · obtain ⟨y, hy⟩ := hel i hil
        exact ⟨y, fun _ => hy⟩
      · exact ⟨0, fun h => absurd h hil⟩)
    have hlen : ((List.range l).map f).length = l := by simp
    refine ⟨(List.range l).map f, by rw [hlen]; omega, some ⟨bk, off, none⟩, m, by rw [hlen], fun j hj => ⟨bk, off, rfl, hblk, ?_⟩⟩
    rw [hlen] at hj
    have q0 := hfs j hj
    rw [Addr.add_lit] at q0
    have e : ((List.range l).map f).getD j 0 = f j := by
      rw [List.getD_eq_getElem?_getD, List.getElem?_map, List.getElem?_range hj]; rfl
    rw [e]
    exact q0
end Go.Proofs.YtmljjdglmlnbaaaGreatDoor.Cr
