/- What an argument that is a slice of entries of the law's own offers. Condition: it reads as data. -/
import Derived.Test.YtafmpllkehbmeaaGreatDoorAe
import Derived.Deep.Strs
namespace Go.Proofs.YtafmpllkehbmeaaGreatDoor.Ae
open Go.ChangeShapes Go.WideShapes Go.ChangeAt Go.RowKit Go.Deep
open AclV (At a0)
set_option linter.unusedVariables false

/-- What an argument that is a slice of entries offers. -/
structure LIn (w : World) (v : Value) (l : List At) : Prop where
  len : l.length ≤ maxLen
  holds : Holds w v l
set_option maxRecDepth 100000 in
theorem ents_of {H : Type} {enc : TypeId × Value → H} {W : World} {fuel : Nat} {v : Value} {x : DataW H × List MemPlace} (hf : DataW.trod enc Tryz.prog W 0 (fun _ => true) true fuel 168 [v] = some x) :
    ∃ ws : List At, ws.length ≤ maxLen ∧ Holds W v ws := by
  rcases open_slice Tryz.underlying168 hf with ⟨hcs, _⟩ | ⟨a, l, c, m, n, D, Pl, hcs, _, hl, hm, hmm, _, hi⟩
  · simp at hcs
    subst hcs
    exact ⟨[], by simp, none, 0, rfl, fun hh => absurd rfl hh⟩
  · simp at hcs
    subst hcs
    have hmc : m = c := by simpa using hmm
    subst hmc
    by_cases hl0 : l = 0
    · subst hl0
      exact ⟨[], by simp, some a, m, rfl, fun hh => absurd rfl hh⟩
    have hel : ∀ i, i < l → ∃ y : At, W.cell? (a.add (i * 3)) = some (.int .i64 y.1) ∧ W.cell? (a.add (i * 3 + 1)) = some (.int .i64 y.2.1) ∧ W.cell? (a.add (i * 3 + 2)) = some (.int .i64 y.2.2) := by
      intro i hil
      obtain ⟨cs', hc, ht⟩ := hi i (by omega)
      rw [show Tryz.prog.cellsOf 223 = 3 from by kernel_rfl] at hc
      obtain ⟨_, hcl, hat⟩ := World.cells?_some hc
      obtain ⟨y0, y1, y2, n', _, hlen, h0, h1, h2⟩ := trod_struct3 Tryz.underlying223 ht
      obtain ⟨c0, c1, c2, rfl⟩ : ∃ c0 c1 c2, cs' = [c0, c1, c2] := by
        match cs', hcl with
        | [c0, c1, c2], _ => exact ⟨c0, c1, c2, rfl⟩
      have e0 := hat 0 (by omega)
      have e1 := hat 1 (by omega)
      have e2 := hat 2 (by omega)
      have hci : Tryz.prog.cellsOf 3 = 1 := by kernel_rfl
      obtain ⟨z, hz, _, _⟩ := DataW.trod_int Tryz.underlying3 h0
      obtain ⟨s, hs, _, _⟩ := DataW.trod_int Tryz.underlying3 h1
      obtain ⟨q, hq, _, _⟩ := DataW.trod_int Tryz.underlying3 h2
      have hz' : c0 = .int .i64 z := by simpa [hci] using hz
      have hs' : c1 = .int .i64 s := by simpa [hci] using hs
      have hq' : c2 = .int .i64 q := by simpa [hci] using hq
      rw [Addr.add_add] at e0 e1 e2
      exact ⟨(z, s, q), by rw [← hz']; exact e0, by rw [← hs']; exact e1, by rw [← hq']; exact e2⟩
    obtain ⟨y, he0, _, _⟩ := hel 0 (by omega)
    have hspot : a.spot = none := by simpa [Addr.add] using World.cell?_spot he0
    have hblk : a.block < W.heap.size := by simpa [Addr.add] using Dk.cell_block he0
    obtain ⟨bk, off, spot⟩ := a
    simp only at hspot hblk
    subst hspot
    obtain ⟨f, hfs⟩ := Classical.skolem.1 (show ∀ i, ∃ y : At, i < l → W.cell? (Addr.add ⟨bk, off, none⟩ (i * 3)) = some (.int .i64 y.1) ∧ W.cell? (Addr.add ⟨bk, off, none⟩ (i * 3 + 1)) = some (.int .i64 y.2.1) ∧ W.cell? (Addr.add ⟨bk, off, none⟩ (i * 3 + 2)) = some (.int .i64 y.2.2) from fun i => by
      by_cases hil : i < l
      · obtain ⟨y, hy⟩ := hel i hil
        exact ⟨y, fun _ => hy⟩
      · exact ⟨a0, fun h => absurd h hil⟩)
    have hlen : ((List.range l).map f).length = l := by simp
    refine ⟨(List.range l).map f, by rw [hlen]; omega, some ⟨bk, off, none⟩, m, by rw [hlen], fun _ => ⟨bk, off, rfl, hblk, fun j hj => ?_⟩⟩
    rw [hlen] at hj
    obtain ⟨q0, q1, q2⟩ := hfs j hj
    rw [Addr.add_lit] at q0 q1 q2
    have e : ((List.range l).map f).getD j a0 = f j := by
      rw [List.getD_eq_getElem?_getD, List.getElem?_map, List.getElem?_range hj]; rfl
    rw [e]
    exact ⟨q0, q1, q2⟩
end Go.Proofs.YtafmpllkehbmeaaGreatDoor.Ae
