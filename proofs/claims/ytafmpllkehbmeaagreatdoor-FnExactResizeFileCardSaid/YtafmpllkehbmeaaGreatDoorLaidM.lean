/- What the rows' listed variables give the walks, where the table of an inode's fields stands among the library's tables: it reads as it is laid. No condition of its own. -/
import Derived.Test.YtafmpllkehbmeaaGreatDoorLaidN
import Derived.Lay
namespace Go.Proofs.YtafmpllkehbmeaaGreatDoor.LaidM
open Go.ChangeShapes Go.WideShapes Go.ChangeAt Go.RowKit
open InOk (Vars NF)
open LaidN (gN gNType cells_of)
set_option linter.unusedVariables false

def list3 : List (String × DataW Unit) := [("unicode/utf8.acceptRanges", Rows.laid_unicode_utf8_acceptRanges), ("loop.example/g00817/impl.numberFields", Rows.laid_loop_example_g00817_impl_numberFields), ("unicode/utf8.first", Rows.laid_unicode_utf8_first)]
theorem vars_at {W : World} {rest : List (String × DataW Unit)} (h : laidMet Tryz.prog (("loop.example/g00817/impl.numberFields", Rows.laid_loop_example_g00817_impl_numberFields) :: rest) W) : Vars W := by
  obtain ⟨ps, ⟨g', t', cs, fuel, p, q, hg', ht', hvar, hd, _, _⟩, _⟩ := h
  obtain rfl := Option.some.inj (gN.symm.trans hg')
  obtain rfl := Option.some.inj (gNType.symm.trans ht')
  have hcs := cells_of hd
  have hc : ∀ j, j < 14 → W.cell? ⟨1, j, none⟩ = some (.int .i64 (NF.getD j 0)) := by
    intro j hj
    have := World.var?_cell gN hvar j
    rw [this, ← Array.getElem?_toList, hcs, List.getElem?_map]
    have hl : j < NF.length := by simpa [NF] using hj
    rw [List.getElem?_eq_getElem hl, List.getD_eq_getElem?_getD, List.getElem?_eq_getElem hl]; rfl
  refine ⟨?_, hc⟩
  have := hc 0 (by omega)
  simp only [World.cell?] at this
  split at this
  · rename_i heq; exact (Array.getElem?_eq_some_iff.1 heq).1
  · cases this
theorem vars_of {W : World} (h : laidMetH Tryz.prog list3 W) : Vars W := by
  rw [MakeChecks.laidMetH_plain _ _ _ (by kernel_rfl)] at h
  exact vars_at (laidMet.tail h)
end Go.Proofs.YtafmpllkehbmeaaGreatDoor.LaidM
