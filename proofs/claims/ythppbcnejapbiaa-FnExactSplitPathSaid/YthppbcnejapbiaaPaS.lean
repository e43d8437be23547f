/- Contracts: SplitPath of the program and of the model. Conditions: the path's size. -/
import Derived.Test.YthppbcnejapbiaaPaV
import Derived.Test.YthppbcnejapbiaaTlF
import Derived.Test.YthppbcnejapbiaaSplitAnyImpl
namespace Go.Proofs.Ythppbcnejapbiaa.PaS
open Go.ChangeShapes Go.WideShapes Go.ChangeAt Go.RowKit
open Foot
open SplitAny (parts)
open EnN (nameB)
open PaV
set_option linter.unusedVariables false

theorem ret_sl {a b : Bool} {v : Value} (h : a = b) : Ending.returned (.tuple #[v, .bool a]) = .returned (.tuple #[v, .bool b]) := by rw [h]
theorem toList_eq (b : ByteArray) : b.toList = b.data.toList := Lib.toList_data b
theorem own_nil (w : World) (base : Nat) : TlF.Own w base (.slice none 0 0) [] [] := .inl ⟨⟨rfl, .inl ⟨rfl, rfl⟩⟩, rfl⟩
theorem all_succ (t : List ByteArray) (j : Nat) (h : j < t.length) : (t.take (j + 1)).all nameB = ((t.take j).all nameB && nameB (t.getD j ⟨#[]⟩)) := by
  rw [List.take_succ_eq_append_getElem h, List.all_append]
  simp [List.getD, List.getElem?_eq_getElem h]
theorem getD_mem {t : List ByteArray} {j : Nat} (h : j < t.length) : t.getD j ⟨#[]⟩ ∈ t := by
  rw [List.getD_eq_getElem?_getD, List.getElem?_eq_getElem h]
  exact List.getElem_mem h
/-- The program's answer: a slice of names behind the first part, or nil. -/
def Post (w : World) (p : ByteArray) (e : Ending) (w' : World) : Prop := ∃ v S, e = .returned (.tuple #[v, .bool (splitV p).2]) ∧ TlF.Own w' w.heap.size v (splitV p).1 S ∧ Below w.heap.size w w'
theorem post_no {w w' : World} {p : ByteArray} {r : List ByteArray × Bool} (h : splitV p = r) (hr : r = ([], false)) (hb : Below w.heap.size w w') : Post w p (.returned (.tuple #[.slice none 0 0, .bool false])) w' := by
  refine ⟨.slice none 0 0, [], ?_, ?_, hb⟩
  · rw [h, hr]
  · rw [h, hr]; exact own_nil _ _
theorem post_root {w w' : World} {p : ByteArray} (h : splitV p = ([], true)) (hb : Below w.heap.size w w') : Post w p (.returned (.tuple #[.slice none 0 0, .bool true])) w' := by
  refine ⟨.slice none 0 0, [], ?_, ?_, hb⟩
  · rw [h]
  · rw [h]; exact own_nil _ _
theorem post_yes {w w' : World} {p : ByteArray} {t : List ByteArray} {g cap : Nat} {x : Value} (h : splitV p = (t, true)) (hown : w'.ownsRow w.heap.size 9 1 (.slice (some ⟨g, 0, none⟩) (t.length + 1) (cap + 1)) (t.length + 1) (x :: t.map Value.string)) (hb : Below w.heap.size w w') : Post w p (.returned (.tuple #[.slice (some ⟨g, 1, none⟩) t.length cap, .bool true])) w' := by
  refine ⟨.slice (some ⟨g, 1, none⟩) t.length cap, fpR (.slice (some ⟨g, 1, none⟩) t.length cap), ?_, ?_, hb⟩
  · rw [h]
  · rw [h]; exact .inr ⟨⟨g, cap, x, rfl, hown⟩, rfl⟩

set_option maxRecDepth 100000 in
set_option maxHeartbeats 3200000 in
theorem split_impl (p : ByteArray) (w : World) (hs : p.size ≤ 1048576) :
    Calls Try.prog 6 #[.string p] w (Post w p) := by
  cases hr : isRoot p
  · have q0 : (p.toList == [47]) = false := hr
    obtain ⟨x, t, hxt⟩ := parts_cons p
    have HV := Lib.hid (split_prog hr hxt)
    have hps : ∀ y ∈ t, y.size ≤ 1048576 := fun y hy => Nat.le_trans (part_size p slB y (by rw [hxt]; exact List.mem_cons_of_mem _ hy)) hs
    have HPS := Lib.hid hps
    have hml : t.length ≤ 1048577 := by
      have := parts_length p slB
      rw [hxt, List.length_cons] at this
      omega
    have HSA := Lib.hid (SplitAny.impl_any p slB w hs (by decide))
    rw [hxt, List.length_cons, List.map_cons] at HSA
    obtain ⟨m, hm⟩ : ∃ m, m = t.length := ⟨_, rfl⟩
    have HM := Lib.hid hm
    rw [← hm] at HSA hml
    clear hxt hm hr hps
    go_enter Try.func6, Try.ntmps6
    go_wp2_with fail
    refine (HSA.out).mono ?_
    rintro e w1 ⟨v, rfl, hown, hb⟩
    obtain ⟨g, cap, rfl, hg, hcap⟩ : ∃ g cap, v = .slice (some ⟨g, 0, none⟩) (m + 1) (cap + 1) ∧ g < w1.heap.size ∧ m ≤ cap := by
      rcases hown.2 with ⟨_, h0⟩ | ⟨g, C, cur, rfl, _, hg, hn, _⟩
      · omega
      · exact ⟨g, C - 1, by rw [show C - 1 + 1 = C from by omega], (Array.getElem?_eq_some_iff.1 hg).1, by omega⟩
    have c0 := hown.cellAt 0 (by simp)
    rw [List.getElem?_cons_zero] at c0
    have HO := Lib.hid hown
    have HB := Lib.hid hb
    have HC := Lib.hid (fun j (hj : j < m) => show w1.cell? ⟨g, 1 + j, none⟩ = some (.string (t.getD j ⟨#[]⟩)) from by
      rw [HO.out.cellAt (1 + j) (by omega), Nat.add_comm 1 j, List.getElem?_cons_succ, List.getElem?_map, List.getElem?_eq_getElem (by rw [← HM.out]; exact hj)]
      simp [List.getD, List.getElem?_eq_getElem (show j < t.length by rw [← HM.out]; exact hj)])
    have hl1 : (1 : Int) ≤ ((m + 1 : Nat) : Int) := by omega
    clear hown hb HSA
    obtain ⟨E, hE⟩ : ∃ E : Bool, x.toList.isEmpty = E := ⟨_, rfl⟩
    have HEX := Lib.hid (show (x.data.toList = []) ↔ E = true from by
      rw [← hE, List.isEmpty_iff, toList_eq])
    by_cases h1 : 0 < m
    · have hg1 : (0 : Int) < m := by omega
      by_cases h2 : m ≤ 8
      · have hg2 : (m : Int) ≤ 8 := by omega
        have HB0 := Lib.hid (show splitV p = if E && t.all nameB then (t, true) else ([], false) from by
          rw [HV.out, ← HM.out]
          cases E with
          | false => rw [if_neg (fun h => by have := HEX.out.1 h.2.1; cases this)]; rfl
          | true =>
            rw [Bool.true_and]
            by_cases ha : t.all nameB = true
            · rw [if_pos ⟨⟨h1, h2⟩, HEX.out.2 rfl, ha⟩, if_pos ha]
            · rw [if_neg (fun h => ha h.2.2), if_neg ha])
        clear HV HEX
        go_wp2
        go_loopw [6, 31] (fun bv iv wr => ∃ (j : Nat) (B : Bool), j ≤ m ∧ iv = .int .i64 j ∧ bv = .bool B ∧ B = (E && (t.take j).all nameB) ∧ Below w1.heap.size w1 wr) (fun _ iv _ => m - (intOf iv).toNat)
        case atStart => exact ⟨0, E, Nat.zero_le _, rfl, rfl, by simp, Below.refl _ _⟩
        case round =>
          obtain ⟨j, B, hj, rfl, rfl, hB, hbel⟩ := hrel
          have HBE := Lib.hid hbel
          have HBB := Lib.hid hB
          have hsz := hbel.size
          clear hB hbel
          by_cases hlt : j < m
          · obtain ⟨y, hy⟩ : ∃ y, y = t.getD j ⟨#[]⟩ := ⟨_, rfl⟩
            have HN := Lib.hid (show (E && (t.take (j + 1)).all nameB) = (B && nameB y) from by rw [all_succ t j (by rw [← HM.out]; exact hlt), ← Bool.and_assoc, ← HBB.out, hy])
            have hyc : wr.cell? ⟨g, 1 + j, none⟩ = some (.string y) := by rw [HBE.out.cell (p := ⟨g, 1 + j, none⟩) hg, HC.out j hlt, hy]
            have hys : y.size ≤ 1048576 := by rw [hy]; exact HPS.out _ (getD_mem (by rw [← HM.out]; exact hlt))
            have HNA := Lib.hid (EnN.name_impl y hys wr)
            clear hy
            cases B
            · go_wp2
              go_roundw
              case rel => exact ⟨j + 1, false, by omega, by go_num, rfl, by rw [HN.out]; rfl, HBE.out⟩
              case measure => simp [intOf]; omega
            · go_wp2_with fail
              refine (HNA.out).mono ?_
              rintro e w3 ⟨rfl, hb3⟩
              have HB3 := Lib.hid (HBE.out.trans (hb3.mono hsz))
              clear hb3 hyc
              go_wp2
              go_roundw
              case rel => exact ⟨j + 1, nameB y, by omega, by go_num, rfl, by rw [HN.out]; rfl, HB3.out⟩
              case measure => simp [intOf]; omega
          · obtain rfl : j = m := by omega
            have HT := Lib.hid (show splitV p = if B then (t, true) else ([], false) from by rw [HB0.out, HBB.out, List.take_of_length_le (by rw [HM.out]; exact Nat.le_refl _)])
            cases B
            · go_wp2
              go_ret2
              exact post_no HT.out rfl (HB.out.trans (HBE.out.mono HB.out.size))
            · go_wp2
              go_ret2
              have hr2 := row_below HO.out HBE.out
              rw [HM.out] at hr2 ⊢
              exact post_yes HT.out hr2 (HB.out.trans (HBE.out.mono HB.out.size))
      · have hg2 : ¬ ((m : Int) ≤ 8) := by omega
        have hg3 : decide ((m : Int) ≤ 8) = false := decide_eq_false hg2
        have HB0 := Lib.hid (show splitV p = if false && t.all nameB then (t, true) else ([], false) from by
          rw [HV.out, ← HM.out, if_neg (fun h => h2 h.1.2)]; rfl)
        clear HV HEX hg2
        go_wp2
        go_loopw [6, 31] (fun bv iv wr => ∃ (j : Nat) (B : Bool), j ≤ m ∧ iv = .int .i64 j ∧ bv = .bool B ∧ B = (false && (t.take j).all nameB) ∧ Below w1.heap.size w1 wr) (fun _ iv _ => m - (intOf iv).toNat)
        case atStart => exact ⟨0, false, Nat.zero_le _, rfl, rfl, by simp, Below.refl _ _⟩
        case round =>
          obtain ⟨j, B, hj, rfl, rfl, hB, hbel⟩ := hrel
          have HBE := Lib.hid hbel
          have HBB := Lib.hid hB
          have hsz := hbel.size
          clear hB hbel
          by_cases hlt : j < m
          · obtain ⟨y, hy⟩ : ∃ y, y = t.getD j ⟨#[]⟩ := ⟨_, rfl⟩
            have HN := Lib.hid (show (false && (t.take (j + 1)).all nameB) = (B && nameB y) from by rw [all_succ t j (by rw [← HM.out]; exact hlt), ← Bool.and_assoc, ← HBB.out, hy])
            have hyc : wr.cell? ⟨g, 1 + j, none⟩ = some (.string y) := by rw [HBE.out.cell (p := ⟨g, 1 + j, none⟩) hg, HC.out j hlt, hy]
            have hys : y.size ≤ 1048576 := by rw [hy]; exact HPS.out _ (getD_mem (by rw [← HM.out]; exact hlt))
            have HNA := Lib.hid (EnN.name_impl y hys wr)
            clear hy
            cases B
            · go_wp2
              go_roundw
              case rel => exact ⟨j + 1, false, by omega, by go_num, rfl, by rw [HN.out]; rfl, HBE.out⟩
              case measure => simp [intOf]; omega
            · go_wp2_with fail
              refine (HNA.out).mono ?_
              rintro e w3 ⟨rfl, hb3⟩
              have HB3 := Lib.hid (HBE.out.trans (hb3.mono hsz))
              clear hb3 hyc
              go_wp2
              go_roundw
              case rel => exact ⟨j + 1, nameB y, by omega, by go_num, rfl, by rw [HN.out]; rfl, HB3.out⟩
              case measure => simp [intOf]; omega
          · obtain rfl : j = m := by omega
            have HT := Lib.hid (show splitV p = if B then (t, true) else ([], false) from by rw [HB0.out, HBB.out, List.take_of_length_le (by rw [HM.out]; exact Nat.le_refl _)])
            cases B
            · go_wp2
              go_ret2
              exact post_no HT.out rfl (HB.out.trans (HBE.out.mono HB.out.size))
            · go_wp2
              go_ret2
              have hr2 := row_below HO.out HBE.out
              rw [HM.out] at hr2 ⊢
              exact post_yes HT.out hr2 (HB.out.trans (HBE.out.mono HB.out.size))
    · obtain rfl : m = 0 := by omega
      have HB0 := Lib.hid (show splitV p = if false && t.all nameB then (t, true) else ([], false) from by
          rw [HV.out, ← HM.out, if_neg (fun h => h1 h.1.1)]; rfl)
      clear HV HEX
      go_wp2
      all_goals
        refine wp_loop_rounds 1 ?_
        rw [rounds_succ]
        go_wp2
        go_ret2
        exact post_no HB0.out rfl HB.out
  · have q0 : (p.toList == [47]) = true := hr
    have HV := Lib.hid (show splitV p = ([], true) from by unfold splitV; rw [if_pos hr])
    clear hr
    go_enter Try.func6, Try.ntmps6
    go_wp2
    go_ret2
    exact post_root HV.out (Below.refl _ _)
end Go.Proofs.Ythppbcnejapbiaa.PaS
