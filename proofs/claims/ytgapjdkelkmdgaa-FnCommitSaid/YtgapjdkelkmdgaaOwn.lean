/- More of rows that a call owns: wider bounds, a store into a boxed disk, a result of two parts. Conditions: as each theorem types them. -/
import Derived.Test.YtgapjdkelkmdgaaCopy
import Derived.Laws.ResultCell
namespace Go.Proofs.Ytgapjdkelkmdgaa.Dk
open Go.ChangeShapes Go.WideShapes Go.ChangeAt Go.RowKit
open Wr (Wt wcells d0)
set_option linter.unusedVariables false

theorem Own.wide {w : World} {lo hi lo' hi' : Nat} {us up : Value} {d : D} (h : Own w lo hi us up d) (h1 : lo' ≤ lo) (h2 : hi ≤ hi') : Own w lo' hi' us up d := ⟨h.1.wide h1 h2, h.2.wide h1 h2⟩
theorem row_set {w : World} {lo b i : Nat} {x y u : Value} {t e : TypeId} {size : Nat} {v : Value} {n : Nat} {xs : List Value} (h : w.ownsRow lo e size v n xs) (hb : Box w b x y t) (hne : e ≠ t) : (w.setCell ⟨b, i, none⟩ u).ownsRow lo e size v n xs := by
  refine ⟨h.1, ?_⟩
  rcases h.2 with hn | ⟨g, cap, cur, rfl, hg, hgb, rest⟩
  · exact .inl hn
  · refine .inr ⟨g, cap, cur, rfl, hg, ?_, rest⟩
    have hgne : g ≠ b := by
      intro hh
      subst hh
      unfold Box at hb
      rw [hgb] at hb
      simp at hb
      exact hne hb.2
    exact (Below.heap_setCell w ⟨b, i, none⟩ u g hgne).trans hgb
theorem Own.set {w : World} {lo hi b i : Nat} {x y u us up : Value} {d : D} (h : Own w lo hi us up d) (hb : Box w b x y 26) : Own (w.setCell ⟨b, i, none⟩ u) lo hi us up d :=
  ⟨⟨row_set h.1.1 hb (by decide), h.1.2⟩, ⟨row_set h.2.1 hb (by decide), h.2.2⟩⟩
theorem Box.set0 {w : World} {b : Nat} {x y u : Value} {t : TypeId} (h : Box w b x y t) : Box (w.setCell ⟨b, 0, none⟩ u) b u y t := blk_set0 h u
theorem Box.set1 {w : World} {b : Nat} {x y u : Value} {t : TypeId} (h : Box w b x y t) : Box (w.setCell ⟨b, 1, none⟩ u) b x u t := blk_set1 h u
theorem Box.other {w : World} {b c i : Nat} {x y u : Value} {t : TypeId} (h : Box w b x y t) (hne : b ≠ c) : Box (w.setCell ⟨c, i, none⟩ u) b x y t := blk_set h (p := ⟨c, i, none⟩) hne u
theorem Box.four {w : World} {b : Nat} {x y : Value} {t : TypeId} (h : Box w b x y t) : w.cell? ⟨b, 0, none⟩ = some x ∧ w.cell? ⟨b, 1, none⟩ = some y ∧ w.frozen? ⟨b, 0, none⟩ = false ∧ w.frozen? ⟨b, 1, none⟩ = false := blk_two h
/-- A disk is stored into its box whole. -/
theorem Own.into {w : World} {lo hi b : Nat} {x y us up : Value} {d : D} (h : Own w lo hi us up d) (hb : Box w b x y 26) :
    Own ((w.setCell ⟨b, 0, none⟩ us).setCell ⟨b, 1, none⟩ up) lo hi us up d ∧ Box ((w.setCell ⟨b, 0, none⟩ us).setCell ⟨b, 1, none⟩ up) b us up 26 ∧ ((w.setCell ⟨b, 0, none⟩ us).setCell ⟨b, 1, none⟩ up).heap.size = w.heap.size :=
  ⟨(h.set hb).set (Box.set0 hb), Box.set1 (Box.set0 hb), by rw [World.size_setCell, World.size_setCell]⟩
theorem below_into {w0 w : World} {B b : Nat} (h : Below B w0 w) (hb : B ≤ b) (u v : Value) : Below B w0 ((w.setCell ⟨b, 0, none⟩ u).setCell ⟨b, 1, none⟩ v) := (h.setCell (p := ⟨b, 0, none⟩) hb u).setCell (p := ⟨b, 1, none⟩) hb v
theorem cell_two_new (w : World) (x y : Value) (t : TypeId) (j : Nat) (u : Value) (hj : [x, y][j]? = some u) : (w.alloc (.cells #[x, y] t)).cell? ((⟨w.heap.size, 0, none⟩ : Addr).add j) = some u := by
  rw [Addr.add_lit, Nat.zero_add, World.cell?_alloc_at _ _ _ _ rfl]
  simpa using hj
theorem cell_two_at (w : World) (x y : Value) (t : TypeId) (g : Nat) (hg : g = w.heap.size) (j : Nat) (u : Value) (hj : [x, y][j]? = some u) : (w.alloc (.cells #[x, y] t)).cell? ((⟨g, 0, none⟩ : Addr).add j) = some u := by
  subst hg; exact cell_two_new w x y t j u hj
end Go.Proofs.Ytgapjdkelkmdgaa.Dk
