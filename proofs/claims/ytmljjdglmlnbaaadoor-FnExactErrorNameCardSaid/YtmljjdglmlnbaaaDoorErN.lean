/- Contracts: ErrorName, the program's and the model's; the table of names that the program reads is as its text lays it. Conditions: as each theorem types them. -/
import Derived.Test.YtmljjdglmlnbaaaDoorAclS
import Derived.Test.YtmljjdglmlnbaaaDoorDkAt
import Derived.LaidMore
import Derived.MakeChecks
import Derived.Lib.LaidTab
import Derived.OpenShut
import Derived.Stop.LaidErr
import Derived.Stop.Joined
namespace Go.Proofs.YtmljjdglmlnbaaaDoor.ErN
open Go.ChangeShapes Go.WideShapes Go.ChangeAt Go.RowKit
set_option linter.unusedVariables false

def EN : List ByteArray := [⟨#[111, 107]⟩, ⟨#[105, 110, 118, 97, 108, 105, 100]⟩, ⟨#[97, 99, 99, 101, 115, 115]⟩, ⟨#[109, 105, 115, 115, 105, 110, 103]⟩, ⟨#[101, 120, 105, 115, 116, 115]⟩, ⟨#[110, 111, 116, 100, 105, 114]⟩, ⟨#[105, 115, 100, 105, 114]⟩, ⟨#[113, 117, 111, 116, 97]⟩, ⟨#[115, 112, 97, 99, 101]⟩, ⟨#[98, 105, 103]⟩, ⟨#[110, 111, 116, 101, 109, 112, 116, 121]⟩, ⟨#[110, 97, 109, 101]⟩, ⟨#[112, 101, 114, 109]⟩, ⟨#[98, 97, 100, 102, 100]⟩, ⟨#[98, 117, 115, 121]⟩, ⟨#[108, 105, 110, 107, 115]⟩]
def errV (n : Int) : ByteArray := if 0 ≤ n ∧ n ≤ 15 then EN.getD n.toNat ⟨#[]⟩ else ⟨#[63]⟩
theorem ret_str {a b : ByteArray} (h : a = b) : Ending.returned (.string a) = .returned (.string b) := by rw [h]
/-- The table reads as it is laid. -/
structure Vars (w : World) : Prop where
  lt : 0 < w.heap.size
  cell : ∀ j, j < 16 → w.cell? ⟨0, j, none⟩ = some (.string (EN.getD j ⟨#[]⟩))
theorem Vars.all {w w' : World} (h : Vars w) (hb : Below w.heap.size w w') : Vars w' :=
  ⟨Nat.lt_of_lt_of_le h.lt hb.size, fun j hj => by rw [hb.cell (p := ⟨0, j, none⟩) h.lt]; exact h.cell j hj⟩
theorem gE : Tryd.prog.globalNamed "loop.example/g00817/impl.errorNames" = some 0 := by kernel_rfl
theorem gEType : (Tryd.prog.globals[0]?).map (·.type) = some 41 := by kernel_rfl
def list1 : List (String × DataW Unit) := [("loop.example/g00817/impl.errorNames", Rows.laid_loop_example_g00817_impl_errorNames)]
theorem elem_of {H : Type} {enc : TypeId × Value → H} {w : World} {base : Nat} {sp : Nat → Bool} {held : Bool} {m : Nat} {b : List UInt8} {u : Value} {z : DataW H × List MemPlace}
    (h : DataW.trod enc Tryd.prog w base sp held m 9 [u] = some z) (hz : z.1 = .lit (.string b)) : u = .string ⟨b.toArray⟩ := by
  obtain ⟨s, hs, rfl, _⟩ := DataW.trod_string Tryd.underlying9 h
  simp only [DataW.lit.injEq, Lit.string.injEq] at hz
  subst hz
  simpa using hs
set_option maxRecDepth 100000 in
theorem cells_of {H : Type} {enc : TypeId × Value → H} {w : World} {base : Nat} {sp : Nat → Bool} {held : Bool} {fuel : Nat} {cs : List Value} {p : List MemPlace}
    (h : DataW.trod enc Tryd.prog w base sp held fuel 41 cs = some (Rows.laid_loop_example_g00817_impl_errorNames, p)) : cs = EN.map Value.string := by
  obtain ⟨xs, m, rfl, hx, hl, hxl, hf⟩ := DataW.trod_array Tryd.underlying41 h
  rw [show Tryd.prog.cellsOf 41 = 16 from by kernel_rfl] at hl
  rw [show Tryd.prog.cellsOf 9 = 1 from by kernel_rfl] at hf
  obtain ⟨z0, z1, z2, z3, z4, z5, z6, z7, z8, z9, z10, z11, z12, z13, z14, z15, rfl⟩ : ∃ z0 z1 z2 z3 z4 z5 z6 z7 z8 z9 z10 z11 z12 z13 z14 z15, xs = [z0, z1, z2, z3, z4, z5, z6, z7, z8, z9, z10, z11, z12, z13, z14, z15] := by
    match xs, hxl with
    | [z0, z1, z2, z3, z4, z5, z6, z7, z8, z9, z10, z11, z12, z13, z14, z15], _ => exact ⟨_, _, _, _, _, _, _, _, _, _, _, _, _, _, _, _, rfl⟩
  obtain ⟨c0, c1, c2, c3, c4, c5, c6, c7, c8, c9, c10, c11, c12, c13, c14, c15, rfl⟩ : ∃ c0 c1 c2 c3 c4 c5 c6 c7 c8 c9 c10 c11 c12 c13 c14 c15, cs = [c0, c1, c2, c3, c4, c5, c6, c7, c8, c9, c10, c11, c12, c13, c14, c15] := by
    match cs, hl with
    | [c0, c1, c2, c3, c4, c5, c6, c7, c8, c9, c10, c11, c12, c13, c14, c15], _ => exact ⟨_, _, _, _, _, _, _, _, _, _, _, _, _, _, _, _, rfl⟩
  have hx1 := congrArg Prod.fst hx
  simp only [Rows.laid_loop_example_g00817_impl_errorNames, List.map_cons, List.map_nil, DataW.agg.injEq, List.cons.injEq, and_true] at hx1
  obtain ⟨q0, q1, q2, q3, q4, q5, q6, q7, q8, q9, q10, q11, q12, q13, q14, q15⟩ := hx1
  obtain rfl := elem_of (hf 0 (by omega)) q0.symm
  obtain rfl := elem_of (hf 1 (by omega)) q1.symm
  obtain rfl := elem_of (hf 2 (by omega)) q2.symm
  obtain rfl := elem_of (hf 3 (by omega)) q3.symm
  obtain rfl := elem_of (hf 4 (by omega)) q4.symm
  obtain rfl := elem_of (hf 5 (by omega)) q5.symm
  obtain rfl := elem_of (hf 6 (by omega)) q6.symm
  obtain rfl := elem_of (hf 7 (by omega)) q7.symm
  obtain rfl := elem_of (hf 8 (by omega)) q8.symm
  obtain rfl := elem_of (hf 9 (by omega)) q9.symm
  obtain rfl := elem_of (hf 10 (by omega)) q10.symm
  obtain rfl := elem_of (hf 11 (by omega)) q11.symm
  obtain rfl := elem_of (hf 12 (by omega)) q12.symm
  obtain rfl := elem_of (hf 13 (by omega)) q13.symm
  obtain rfl := elem_of (hf 14 (by omega)) q14.symm
  obtain rfl := elem_of (hf 15 (by omega)) q15.symm
  rfl
theorem vars_of {W : World} (h : laidMetH Tryd.prog list1 W) : Vars W := by
  rw [MakeChecks.laidMetH_plain _ _ _ (by kernel_rfl)] at h
  obtain ⟨ps, ⟨g', t', cs, fuel, p, q, hg', ht', hvar, hd, _, _⟩, _⟩ := h
  obtain rfl := Option.some.inj (gE.symm.trans hg')
  obtain rfl := Option.some.inj (gEType.symm.trans ht')
  have hcs := cells_of hd
  have hc : ∀ j, j < 16 → W.cell? ⟨0, j, none⟩ = some (.string (EN.getD j ⟨#[]⟩)) := by
    intro j hj
    have := World.var?_cell gE hvar j
    rw [this, ← Array.getElem?_toList, hcs, List.getElem?_map]
    have hl : j < EN.length := by simpa [EN] using hj
    rw [List.getElem?_eq_getElem hl, List.getD_eq_getElem?_getD, List.getElem?_eq_getElem hl]; rfl
  refine ⟨?_, hc⟩
  have := hc 0 (by omega)
  simp only [World.cell?] at this
  split at this
  · rename_i heq; exact (Array.getElem?_eq_some_iff.1 heq).1
  · cases this
theorem door1 (os : Os) (args : Array Value) : laidMetH Tryd.prog list1 ((World.doorLaid Tryd.prog 400 os).forCall (fun _ _ => 0) ⟨#[], args, []⟩).memory :=
  laidMetH_of_parts3 (fuel := 8) (laidMet_of_run' 8 (by kernel_rfl) (by kernel_rfl)) (by kernel_rfl) (by kernel_rfl)

set_option maxRecDepth 100000 in
set_option maxHeartbeats 1600000 in
theorem name_spec (n : Int) (w : World) : Calls Tryd.prog 6 #[.int .i64 n] w fun e w' => e = .returned (.string (errV n)) ∧ Below w.heap.size w w' := by
  have hin := AclS.in_any n 0 15 w
  cases hi : (decide (0 ≤ n) && decide (n ≤ 15))
  · have hn : ¬ (0 ≤ n ∧ n ≤ 15) := by simpa using hi
    have HV := Lib.hid (show errV n = ⟨#[63]⟩ from by rw [errV, if_neg hn])
    rw [hi] at hin
    have HIN := Lib.hid hin
    clear hin hi hn
    go_enter Tryd.func6, Tryd.ntmps6
    go_wp2_with fail
    refine HIN.out.mono ?_
    rintro e w1 ⟨rfl, rfl⟩
    go_wp2
    go_ret
    exact ⟨ret_str HV.out.symm, Below.refl _ _⟩
  · have hn : 0 ≤ n ∧ n ≤ 15 := by simpa using hi
    rw [hi] at hin
    have hc : n = 0 ∨ n = 1 ∨ n = 2 ∨ n = 3 ∨ n = 4 ∨ n = 5 ∨ n = 6 ∨ n = 7 ∨ n = 8 ∨ n = 9 ∨ n = 10 ∨ n = 11 ∨ n = 12 ∨ n = 13 ∨ n = 14 ∨ n = 15 := by omega
    clear hi hn
    rcases hc with rfl | rfl | rfl | rfl | rfl | rfl | rfl | rfl | rfl | rfl | rfl | rfl | rfl | rfl | rfl | rfl
    all_goals
      have HIN := Lib.hid hin
      clear hin
      go_enter Tryd.func6, Tryd.ntmps6
      go_wp2_with fail
      refine HIN.out.mono ?_
      rintro e w1 ⟨rfl, rfl⟩
      go_wp2
      go_ret
      exact ⟨rfl, by first | exact (Below.refl _ _).alloc (Nat.le_refl _) _ | exact Below.refl _ _⟩

set_option maxRecDepth 100000 in
set_option maxHeartbeats 1600000 in
theorem name_impl (n : Int) (w : World) (hv : Vars w) : Calls Tryd.prog 7 #[.int .i64 n] w fun e w' => e = .returned (.string (errV n)) ∧ Below w.heap.size w w' := by
  have HV := Lib.hid hv
  clear hv
  by_cases hn : 0 ≤ n ∧ n ≤ 15
  · have hc : n = 0 ∨ n = 1 ∨ n = 2 ∨ n = 3 ∨ n = 4 ∨ n = 5 ∨ n = 6 ∨ n = 7 ∨ n = 8 ∨ n = 9 ∨ n = 10 ∨ n = 11 ∨ n = 12 ∨ n = 13 ∨ n = 14 ∨ n = 15 := by omega
    clear hn
    rcases hc with rfl | rfl | rfl | rfl | rfl | rfl | rfl | rfl | rfl | rfl | rfl | rfl | rfl | rfl | rfl | rfl
    all_goals
      have h0 := HV.out.cell
      first
      | (have c := h0 0 (by omega)
         rw [show EN.getD 0 ⟨#[]⟩ = ⟨#[111, 107]⟩ from rfl] at c
         have HC := Lib.hid (show errV 0 = ⟨#[111, 107]⟩ from rfl)
         rw [HC.out]
         clear h0 HC
         go_enter Tryd.func7, Tryd.ntmps7
         go_wp2
         go_ret
         exact ⟨rfl, Below.refl _ _⟩)
      | (have c := h0 1 (by omega)
         rw [show EN.getD 1 ⟨#[]⟩ = ⟨#[105, 110, 118, 97, 108, 105, 100]⟩ from rfl] at c
         have HC := Lib.hid (show errV 1 = ⟨#[105, 110, 118, 97, 108, 105, 100]⟩ from rfl)
         rw [HC.out]
         clear h0 HC
         go_enter Tryd.func7, Tryd.ntmps7
         go_wp2
         go_ret
         exact ⟨rfl, Below.refl _ _⟩)
      | (have c := h0 2 (by omega)
         rw [show EN.getD 2 ⟨#[]⟩ = ⟨#[97, 99, 99, 101, 115, 115]⟩ from rfl] at c
         have HC := Lib.hid (show errV 2 = ⟨#[97, 99, 99, 101, 115, 115]⟩ from rfl)
         rw [HC.out]
         clear h0 HC
         go_enter Tryd.func7, Tryd.ntmps7
         go_wp2
         go_ret
         exact ⟨rfl, Below.refl _ _⟩)
      | (have c := h0 3 (by omega)
         rw [show EN.getD 3 ⟨#[]⟩ = ⟨#[109, 105, 115, 115, 105, 110, 103]⟩ from rfl] at c
         have HC := Lib.hid (show errV 3 = ⟨#[109, 105, 115, 115, 105, 110, 103]⟩ from rfl)
         rw [HC.out]
         clear h0 HC
         go_enter Tryd.func7, Tryd.ntmps7
         go_wp2
         go_ret
         exact ⟨rfl, Below.refl _ _⟩)
      | (have c := h0 4 (by omega)
         rw [show EN.getD 4 ⟨#[]⟩ = ⟨#[101, 120, 105, 115, 116, 115]⟩ from rfl] at c
         have HC := Lib.hid (show errV 4 = ⟨#[101, 120, 105, 115, 116, 115]⟩ from rfl)
         rw [HC.out]
         clear h0 HC
         go_enter Tryd.func7, Tryd.ntmps7
         go_wp2
         go_ret
         exact ⟨rfl, Below.refl _ _⟩)
      | (have c := h0 5 (by omega)
         rw [show EN.getD 5 ⟨#[]⟩ = ⟨#[110, 111, 116, 100, 105, 114]⟩ from rfl] at c
         have HC := Lib.hid (show errV 5 = ⟨#[110, 111, 116, 100, 105, 114]⟩ from rfl)
         rw [HC.out]
         clear h0 HC
         go_enter Tryd.func7, Tryd.ntmps7
         go_wp2
         go_ret
         exact ⟨rfl, Below.refl _ _⟩)
      | (have c := h0 6 (by omega)
         rw [show EN.getD 6 ⟨#[]⟩ = ⟨#[105, 115, 100, 105, 114]⟩ from rfl] at c
         have HC := Lib.hid (show errV 6 = ⟨#[105, 115, 100, 105, 114]⟩ from rfl)
         rw [HC.out]
         clear h0 HC
         go_enter Tryd.func7, Tryd.ntmps7
         go_wp2
         go_ret
         exact ⟨rfl, Below.refl _ _⟩)
      | (have c := h0 7 (by omega)
         rw [show EN.getD 7 ⟨#[]⟩ = ⟨#[113, 117, 111, 116, 97]⟩ from rfl] at c
         have HC := Lib.hid (show errV 7 = ⟨#[113, 117, 111, 116, 97]⟩ from rfl)
         rw [HC.out]
         clear h0 HC
         go_enter Tryd.func7, Tryd.ntmps7
         go_wp2
         go_ret
         exact ⟨rfl, Below.refl _ _⟩)
      | (have c := h0 8 (by omega)
         rw [show EN.getD 8 ⟨#[]⟩ = ⟨#[115, 112, 97, 99, 101]⟩ from rfl] at c
         have HC := Lib.hid (show errV 8 = ⟨#[115, 112, 97, 99, 101]⟩ from rfl)
         rw [HC.out]
         clear h0 HC
         go_enter Tryd.func7, Tryd.ntmps7
         go_wp2
         go_ret
         exact ⟨rfl, Below.refl _ _⟩)
      | (have c := h0 9 (by omega)
         rw [show EN.getD 9 ⟨#[]⟩ = ⟨#[98, 105, 103]⟩ from rfl] at c
         have HC := Lib.hid (show errV 9 = ⟨#[98, 105, 103]⟩ from rfl)
         rw [HC.out]
         clear h0 HC
         go_enter Tryd.func7, Tryd.ntmps7
         go_wp2
         go_ret
         exact ⟨rfl, Below.refl _ _⟩)
      | (have c := h0 10 (by omega)
         rw [show EN.getD 10 ⟨#[]⟩ = ⟨#[110, 111, 116, 101, 109, 112, 116, 121]⟩ from rfl] at c
         have HC := Lib.hid (show errV 10 = ⟨#[110, 111, 116, 101, 109, 112, 116, 121]⟩ from rfl)
         rw [HC.out]
         clear h0 HC
         go_enter Tryd.func7, Tryd.ntmps7
         go_wp2
         go_ret
         exact ⟨rfl, Below.refl _ _⟩)
      | (have c := h0 11 (by omega)
         rw [show EN.getD 11 ⟨#[]⟩ = ⟨#[110, 97, 109, 101]⟩ from rfl] at c
         have HC := Lib.hid (show errV 11 = ⟨#[110, 97, 109, 101]⟩ from rfl)
         rw [HC.out]
         clear h0 HC
         go_enter Tryd.func7, Tryd.ntmps7
         go_wp2
         go_ret
         exact ⟨rfl, Below.refl _ _⟩)
      | (have c := h0 12 (by omega)
         rw [show EN.getD 12 ⟨#[]⟩ = ⟨#[112, 101, 114, 109]⟩ from rfl] at c
         have HC := Lib.hid (show errV 12 = ⟨#[112, 101, 114, 109]⟩ from rfl)
         rw [HC.out]
         clear h0 HC
         go_enter Tryd.func7, Tryd.ntmps7
         go_wp2
         go_ret
         exact ⟨rfl, Below.refl _ _⟩)
      | (have c := h0 13 (by omega)
         rw [show EN.getD 13 ⟨#[]⟩ = ⟨#[98, 97, 100, 102, 100]⟩ from rfl] at c
         have HC := Lib.hid (show errV 13 = ⟨#[98, 97, 100, 102, 100]⟩ from rfl)
         rw [HC.out]
         clear h0 HC
         go_enter Tryd.func7, Tryd.ntmps7
         go_wp2
         go_ret
         exact ⟨rfl, Below.refl _ _⟩)
      | (have c := h0 14 (by omega)
         rw [show EN.getD 14 ⟨#[]⟩ = ⟨#[98, 117, 115, 121]⟩ from rfl] at c
         have HC := Lib.hid (show errV 14 = ⟨#[98, 117, 115, 121]⟩ from rfl)
         rw [HC.out]
         clear h0 HC
         go_enter Tryd.func7, Tryd.ntmps7
         go_wp2
         go_ret
         exact ⟨rfl, Below.refl _ _⟩)
      | (have c := h0 15 (by omega)
         rw [show EN.getD 15 ⟨#[]⟩ = ⟨#[108, 105, 110, 107, 115]⟩ from rfl] at c
         have HC := Lib.hid (show errV 15 = ⟨#[108, 105, 110, 107, 115]⟩ from rfl)
         rw [HC.out]
         clear h0 HC
         go_enter Tryd.func7, Tryd.ntmps7
         go_wp2
         go_ret
         exact ⟨rfl, Below.refl _ _⟩)
  · have HE := Lib.hid (show errV n = ⟨#[63]⟩ from by rw [errV, if_neg hn])
    rw [HE.out]
    by_cases h0 : n < 0
    · have q0 : decide (n < 0) = true := decide_eq_true h0
      clear hn h0
      go_enter Tryd.func7, Tryd.ntmps7
      go_wp2
      go_ret
      exact ⟨rfl, Below.refl _ _⟩
    · have q0 : decide (n < 0) = false := decide_eq_false h0
      have q1 : decide (16 ≤ n) = true := decide_eq_true (by omega)
      clear hn h0
      go_enter Tryd.func7, Tryd.ntmps7
      go_wp2
      go_ret
      exact ⟨rfl, Below.refl _ _⟩
end Go.Proofs.YtmljjdglmlnbaaaDoor.ErN
