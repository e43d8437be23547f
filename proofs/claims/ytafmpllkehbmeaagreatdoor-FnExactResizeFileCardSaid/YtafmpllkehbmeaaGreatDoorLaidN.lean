/- What the rows' listed variable gives the walks: the table of an inode's fields reads as it is laid; and the heap that the door's run leaves meets the list. No condition of its own. -/
import Derived.Test.YtafmpllkehbmeaaGreatDoorInOk
import Derived.LaidMore
import Derived.MakeChecks
import Derived.Lib.LaidTab
import Derived.OpenShut
import Derived.Stop.LaidErr
import Derived.Stop.Joined
namespace Go.Proofs.YtafmpllkehbmeaaGreatDoor.LaidN
open Go.ChangeShapes Go.WideShapes Go.ChangeAt Go.RowKit
open InOk (Vars NF)
set_option linter.unusedVariables false

theorem gN : Tryz.prog.globalNamed "loop.example/g00817/impl.numberFields" = some 1 := by kernel_rfl
theorem gNType : (Tryz.prog.globals[1]?).map (·.type) = some 228 := by kernel_rfl
def list1 : List (String × DataW Unit) := [("loop.example/g00817/impl.numberFields", Rows.laid_loop_example_g00817_impl_numberFields)]
theorem elem_of {H : Type} {enc : TypeId × Value → H} {w : World} {base : Nat} {sp : Nat → Bool} {held : Bool} {m : Nat} {a b : Int} {u v : Value} {z : DataW H × List MemPlace}
    (h : DataW.trod enc Tryz.prog w base sp held m 227 [u, v] = some z) (hz : z.1 = .agg [.lit (.int .i64 a), .lit (.int .i64 b)]) : u = .int .i64 a ∧ v = .int .i64 b := by
  obtain ⟨y0, y1, n, rfl, hl, h0, h1⟩ := trod_struct2 Tryz.underlying227 h
  have hci : Tryz.prog.cellsOf 3 = 1 := by kernel_rfl
  obtain ⟨i0, e0, rfl, _⟩ := DataW.trod_int Tryz.underlying3 h0
  obtain ⟨i1, e1, rfl, _⟩ := DataW.trod_int Tryz.underlying3 h1
  simp only [DataW.agg.injEq, List.cons.injEq, DataW.lit.injEq, Lit.int.injEq, true_and, and_true] at hz
  obtain ⟨rfl, rfl⟩ := hz
  exact ⟨by simpa [hci] using e0, by simpa [hci] using e1⟩
set_option maxRecDepth 100000 in
theorem cells_of {H : Type} {enc : TypeId × Value → H} {w : World} {base : Nat} {sp : Nat → Bool} {held : Bool} {fuel : Nat} {cs : List Value} {p : List MemPlace}
    (h : DataW.trod enc Tryz.prog w base sp held fuel 228 cs = some (Rows.laid_loop_example_g00817_impl_numberFields, p)) : cs = NF.map (Value.int .i64) := by
  obtain ⟨xs, m, rfl, hx, hl, hxl, hf⟩ := DataW.trod_array Tryz.underlying228 h
  rw [show Tryz.prog.cellsOf 228 = 14 from by kernel_rfl] at hl
  rw [show Tryz.prog.cellsOf 227 = 2 from by kernel_rfl] at hf
  obtain ⟨z0, z1, z2, z3, z4, z5, z6, rfl⟩ : ∃ z0 z1 z2 z3 z4 z5 z6, xs = [z0, z1, z2, z3, z4, z5, z6] := by
    match xs, hxl with
    | [z0, z1, z2, z3, z4, z5, z6], _ => exact ⟨_, _, _, _, _, _, _, rfl⟩
  obtain ⟨c0, c1, c2, c3, c4, c5, c6, c7, c8, c9, ca, cb, cc, cd, rfl⟩ : ∃ c0 c1 c2 c3 c4 c5 c6 c7 c8 c9 ca cb cc cd, cs = [c0, c1, c2, c3, c4, c5, c6, c7, c8, c9, ca, cb, cc, cd] := by
    match cs, hl with
    | [c0, c1, c2, c3, c4, c5, c6, c7, c8, c9, ca, cb, cc, cd], _ => exact ⟨_, _, _, _, _, _, _, _, _, _, _, _, _, _, rfl⟩
  have hx1 := congrArg Prod.fst hx
  simp only [Rows.laid_loop_example_g00817_impl_numberFields, List.map_cons, List.map_nil, DataW.agg.injEq, List.cons.injEq, and_true] at hx1
  obtain ⟨q0, q1, q2, q3, q4, q5, q6⟩ := hx1
  obtain ⟨rfl, rfl⟩ := elem_of (hf 0 (by omega)) q0.symm
  obtain ⟨rfl, rfl⟩ := elem_of (hf 1 (by omega)) q1.symm
  obtain ⟨rfl, rfl⟩ := elem_of (hf 2 (by omega)) q2.symm
  obtain ⟨rfl, rfl⟩ := elem_of (hf 3 (by omega)) q3.symm
  obtain ⟨rfl, rfl⟩ := elem_of (hf 4 (by omega)) q4.symm
  obtain ⟨rfl, rfl⟩ := elem_of (hf 5 (by omega)) q5.symm
  obtain ⟨rfl, rfl⟩ := elem_of (hf 6 (by omega)) q6.symm
  rfl
theorem vars_of {W : World} (h : laidMetH Tryz.prog list1 W) : Vars W := by
  rw [MakeChecks.laidMetH_plain _ _ _ (by kernel_rfl)] at h
  obtain ⟨ps, ⟨g', t', cs, fuel, p, q, hg', ht', hvar, hd, _, _⟩, _⟩ := h
  obtain rfl := Option.some.inj (gN.symm.trans hg')
  obtain rfl := Option.some.inj (gNType.symm.trans ht')
  have hcs := cells_of hd
  have hc : ∀ j, j < 14 → W.cell? ⟨1, j, none⟩ = some (.int .i64 (NF.getD j 0)) := by
    intro j hj
    have := World.var?_cell gN hvar j
    rw [this, ← Array.getElem?_toList, hcs, List.getElem?_map]
    have hl : j < NF.length := by simpa [NF] using hj
    rw [List.getElem?_eq_getElem hl, List.getD_eq_getElem?_getD, List.getElem?_eq_getElem hl]; rfl
  refine ⟨?_, hc⟩
  have := hc 0 (by omega)
  simp only [World.cell?] at this
  split at this
  · rename_i heq; exact (Array.getElem?_eq_some_iff.1 heq).1
  · cases this
end Go.Proofs.YtafmpllkehbmeaaGreatDoor.LaidN
