/- Helper texts joined, one behind another (a claim has at most 60 files): what each proves, its own head says: YthppbcnejapbiaaGreatDoorTlF, YthppbcnejapbiaaGreatDoorPaS, YthppbcnejapbiaaGreatDoorPaT, YthppbcnejapbiaaGreatDoorPwR, YthppbcnejapbiaaGreatDoorPwS. -/
import Derived.Test.YthppbcnejapbiaaGreatDoorFsBaseA
import Derived.Test.YthppbcnejapbiaaGreatDoorEnBaseM
import Derived.Test.YthppbcnejapbiaaGreatDoorSplitAnyImpl
import Derived.Test.YthppbcnejapbiaaGreatDoorEnBaseF
import Derived.WalkMore

-- YthppbcnejapbiaaGreatDoorTlF
/- The face of a slice of strings that may begin behind the first element of a row of the call's own: what it owns, its marks. Conditions: as each theorem types them. -/
namespace Go.Proofs.YthppbcnejapbiaaGreatDoor.TlF
open Go.ChangeShapes Go.WideShapes Go.ChangeAt Go.RowKit Go.Deep
open Foot
open Strs (total budgetOf markT mark_any grow_trans grow_below set_mark)
set_option linter.unusedVariables false

abbrev L := SF.L
/-- All but the first of a row. -/
def Tail (w : World) (base : Nat) (v : Value) (l : L) : Prop := ∃ g cap x, v = .slice (some ⟨g, 1, none⟩) l.length cap ∧ w.ownsRow base 9 1 (.slice (some ⟨g, 0, none⟩) (l.length + 1) (cap + 1)) (l.length + 1) (x :: SF.cells l)
def Own (w : World) (base : Nat) (v : Value) (l : L) (S : List Nat) : Prop := SF.Own w base v l S ∨ (Tail w base v l ∧ S = fpR v)
section
variable {w w' : World} {base : Nat} {v : Value} {l : L} {S T : List Nat}
theorem tail_holds (h : Tail w base v l) : SF.Holds w v l := by
  obtain ⟨g, cap, x, rfl, hown⟩ := h
  refine ⟨some ⟨g, 1, none⟩, cap, rfl, fun _ => ⟨g, 1, rfl, ?_, fun j hj => ?_⟩⟩
  · exact (hown.lt g rfl).2
  · rw [hown.cellAt (1 + j) (by omega), Nat.add_comm 1 j, List.getElem?_cons_succ]
    simp [SF.cells, List.getD, List.getElem?_eq_getElem hj]
theorem own_holds (h : Own w base v l S) : SF.Holds w v l := h.elim SF.own_holds (fun h => tail_holds h.1)
theorem own_chg (h : Own w base v l S) (hc : Chg w w' T) (ha : Apart S T) : Own w' base v l S := by
  rcases h with h | ⟨⟨g, cap, x, rfl, hown⟩, hs⟩
  · exact .inl (SF.own_chg h hc ha)
  · refine .inr ⟨⟨g, cap, x, rfl, row_chg hown hc ?_⟩, hs⟩
    rw [hs] at ha
    exact ha
theorem own_below (h : Own w base v l S) (hb : Below w.heap.size w w') : Own w' base v l S := own_chg h (Chg.of_below hb (Nat.le_refl _) []) (fun k _ hh => by cases hh)
theorem own_mono {base' : Nat} (h : Own w base v l S) (hb : base' ≤ base) : Own w base' v l S := by
  rcases h with h | ⟨⟨g, cap, x, rfl, hown⟩, hs⟩
  · exact .inl (SF.own_mono h hb)
  · exact .inr ⟨⟨g, cap, x, rfl, row_mono hown hb⟩, hs⟩
theorem own_lies (h : Own w base v l S) : Lies S base w.heap.size := by
  rcases h with h | ⟨⟨g, cap, x, rfl, hown⟩, rfl⟩
  · exact SF.own_lies h
  · exact row_lies (v := .slice (some ⟨g, 0, none⟩) (l.length + 1) (cap + 1)) hown
theorem own_form (h : Own w base v l S) : ∃ a c, v = .slice a l.length c := by
  rcases h with h | ⟨⟨g, cap, x, rfl, hown⟩, rfl⟩
  · exact SF.own_form h
  · exact ⟨_, _, rfl⟩
end
def cost (l : L) : Nat := SF.cost l
def wid (l : L) : Nat := SF.wid l
def marks (k : Nat) (l : L) : L := SF.marks k l
theorem eq_any (w : World) (va vb : Value) (l : L) (hc : cost l ≤ 1073741824) (h : SF.Holds w va l) (h' : SF.Holds w vb l) :
    Calls Tryz.prog 53 #[va, vb] w fun e w' => e = .returned (.bool true) ∧ Below w.heap.size w w' := SF.eq_any w va vb l hc h h'
theorem held_any (w : World) (v : Value) (l : L) (k : Nat) (hk : 1 ≤ k) (hn : k + wid l ≤ 1073741824) (h : SF.Holds w v (marks k l)) :
    Calls Tryz.prog 69 #[v, .int .i64 k] w fun e w' => e = .returned (.int .i64 (k + wid l : Nat)) ∧ Below w.heap.size w w' := SF.held_any w v l k hk hn h
theorem set_tail (k i : Nat) (x : Value) (xs : List ByteArray) (h : i < xs.length) : (x :: (Strs.marks k i ++ xs.drop i).map Value.string).set (i + 1) (.string (markT (k + i))) = x :: (Strs.marks k (i + 1) ++ xs.drop (i + 1)).map Value.string := by
  rw [List.set_cons_succ, set_mark k i xs h]

set_option maxRecDepth 100000 in
set_option maxHeartbeats 400000 in
/-- The rest of a row is marked. -/
theorem mark_tail (w : World) (base g n cap k : Nat) (x : Value) (xs : List ByteArray) (hk : 1 ≤ k) (hn : k + n ≤ 1073741824) (hlen : xs.length = n) (hown : w.ownsRow base 9 1 (.slice (some ⟨g, 0, none⟩) (n + 1) (cap + 1)) (n + 1) (x :: xs.map Value.string)) :
    Calls Tryz.prog 59 #[.slice (some ⟨g, 1, none⟩) n cap, .int .i64 k] w fun e w' => e = .returned (.int .i64 ((k : Int) + n)) ∧ w'.ownsRow base 9 1 (.slice (some ⟨g, 0, none⟩) (n + 1) (cap + 1)) (n + 1) (x :: (Strs.marks k n).map Value.string) ∧ w.grownBy w' (some g) := by
  have hbg : g < w.heap.size := (hown.lt g rfl).2
  have HO := Lib.hid hown
  have HX := Lib.hid hlen
  clear hown hlen
  go_enter Tryz.func59, Tryz.ntmps59
  go_wp2
  go_loopw [1, 5] (fun kv iv wr => ∃ i : Nat, i ≤ n ∧ iv = .int .i64 i ∧ kv = .int .i64 ((k + i : Nat)) ∧ wr.ownsRow base 9 1 (.slice (some ⟨g, 0, none⟩) (n + 1) (cap + 1)) (n + 1) (x :: (Strs.marks k i ++ xs.drop i).map Value.string) ∧ w.grownBy wr (some g)) (fun _ iv _ => n - (intOf iv).toNat)
  case atStart => exact ⟨0, Nat.zero_le _, rfl, rfl, by simpa [Strs.marks] using HO.out, World.grownBy.refl _ _⟩
  case round =>
    obtain ⟨i, hi, rfl, rfl, hown, hgr⟩ := hrel
    have HOWN := Lib.hid hown
    have HGR := Lib.hid hgr
    clear hown hgr
    by_cases hlt : i < n
    · have hx : i < xs.length := by rw [HX.out]; exact hlt
      go_wp2_with fail
      rw [show ((k : Int) + (i : Int)) = ((k + i : Nat) : Int) from by omega]
      refine (mark_any (k + i) _ (by omega) (by omega)).mono ?_
      rintro e w1 ⟨rfl, hb1⟩
      have hown1 := Strs.own_below HOWN.out hb1
      have hgr1 := grow_below HGR.out hb1
      have hc := hown1.cellAt (1 + i) (by omega)
      have hf := hown1.frozenAt (1 + i)
      have hst := hown1.stored (i + 1) (.string (markT (k + i)))
      rw [set_tail k i x xs hx, show (⟨g, i + 1, none⟩ : Addr) = ⟨g, 1 + i, none⟩ from by rw [Nat.add_comm]] at hst
      have HST := Lib.hid hst.1
      have HGR1 := Lib.hid (grow_trans hgr1 hst.2)
      obtain ⟨y, hc'⟩ : ∃ y, w1.cell? ⟨g, 1 + i, none⟩ = some y := by
        rw [hc]
        have : 1 + i < (x :: (Strs.marks k i ++ xs.drop i).map Value.string).length := by
          simp [Strs.marks_length]; omega
        exact ⟨_, List.getElem?_eq_getElem this⟩
      clear hown1 hgr1 hc hst hb1
      generalize markT (k + i) = M at HST HGR1 ⊢
      go_wp2
      go_roundw
      case rel => exact ⟨i + 1, by omega, by go_num, by go_num, HST.out, HGR1.out⟩
      case measure => simp [intOf]; omega
    · obtain rfl : i = n := by omega
      have e : ((Strs.marks k i ++ xs.drop i).map Value.string) = (Strs.marks k i).map Value.string := by rw [List.drop_of_length_le (by rw [HX.out]; exact Nat.le_refl _), List.append_nil]
      have HE := Lib.hid e
      clear e
      go_wp2
      go_ret
      exact ⟨by simp, by rw [← HE.out]; exact HOWN.out, HGR.out⟩
theorem mark_any (w : World) (base : Nat) (v : Value) (l : L) (S : List Nat) (k : Nat) (hk : 1 ≤ k) (hn : k + wid l ≤ 1073741824) (h : Own w base v l S) :
    Calls Tryz.prog 59 #[v, .int .i64 k] w fun e w' => e = .returned (.int .i64 (k + wid l : Nat)) ∧ Own w' base v (marks k l) S ∧ Chg w w' S := by
  rcases h with h | ⟨⟨g, cap, x, rfl, hown⟩, rfl⟩
  · exact (SF.mark_any w base v l S k hk hn h).mono fun e w' ⟨he, ho, hc⟩ => ⟨he, .inl ho, hc⟩
  · refine (mark_tail w base g l.length cap k x l hk hn rfl hown).mono ?_
    rintro e w' ⟨rfl, ho, hg⟩
    refine ⟨by congr 2, .inr ⟨⟨g, cap, x, by rw [marks, SF.marks_length], ?_⟩, rfl⟩, Chg.of_grown hg⟩
    rw [marks, SF.marks_length]
    exact ho
end Go.Proofs.YthppbcnejapbiaaGreatDoor.TlF

-- YthppbcnejapbiaaGreatDoorPaS
/- Contracts: SplitPath of the program and of the model. Conditions: the path's size. -/
namespace Go.Proofs.YthppbcnejapbiaaGreatDoor.PaS
open Go.ChangeShapes Go.WideShapes Go.ChangeAt Go.RowKit
open Foot
open SplitAny (parts)
open EnN (nameB)
open PaV
set_option linter.unusedVariables false

theorem toList_eq (b : ByteArray) : b.toList = b.data.toList := Lib.toList_data b
theorem own_nil (w : World) (base : Nat) : TlF.Own w base (.slice none 0 0) [] [] := .inl ⟨⟨rfl, .inl ⟨rfl, rfl⟩⟩, rfl⟩
theorem all_succ (t : List ByteArray) (j : Nat) (h : j < t.length) : (t.take (j + 1)).all nameB = ((t.take j).all nameB && nameB (t.getD j ⟨#[]⟩)) := by
  rw [List.take_succ_eq_append_getElem h, List.all_append]
  simp [List.getD, List.getElem?_eq_getElem h]
theorem getD_mem {t : List ByteArray} {j : Nat} (h : j < t.length) : t.getD j ⟨#[]⟩ ∈ t := by
  rw [List.getD_eq_getElem?_getD, List.getElem?_eq_getElem h]
  exact List.getElem_mem h
/-- The program's answer: a slice of names behind the first part, or nil. -/
def Post (w : World) (p : ByteArray) (e : Ending) (w' : World) : Prop := ∃ v S, e = .returned (.tuple #[v, .bool (splitV p).2]) ∧ TlF.Own w' w.heap.size v (splitV p).1 S ∧ Below w.heap.size w w'
theorem post_no {w w' : World} {p : ByteArray} {r : List ByteArray × Bool} (h : splitV p = r) (hr : r = ([], false)) (hb : Below w.heap.size w w') : Post w p (.returned (.tuple #[.slice none 0 0, .bool false])) w' := by
  refine ⟨.slice none 0 0, [], ?_, ?_, hb⟩
  · rw [h, hr]
  · rw [h, hr]; exact own_nil _ _
theorem post_root {w w' : World} {p : ByteArray} (h : splitV p = ([], true)) (hb : Below w.heap.size w w') : Post w p (.returned (.tuple #[.slice none 0 0, .bool true])) w' := by
  refine ⟨.slice none 0 0, [], ?_, ?_, hb⟩
  · rw [h]
  · rw [h]; exact own_nil _ _
theorem post_yes {w w' : World} {p : ByteArray} {t : List ByteArray} {g cap : Nat} {x : Value} (h : splitV p = (t, true)) (hown : w'.ownsRow w.heap.size 9 1 (.slice (some ⟨g, 0, none⟩) (t.length + 1) (cap + 1)) (t.length + 1) (x :: t.map Value.string)) (hb : Below w.heap.size w w') : Post w p (.returned (.tuple #[.slice (some ⟨g, 1, none⟩) t.length cap, .bool true])) w' := by
  refine ⟨.slice (some ⟨g, 1, none⟩) t.length cap, fpR (.slice (some ⟨g, 1, none⟩) t.length cap), ?_, ?_, hb⟩
  · rw [h]
  · rw [h]; exact .inr ⟨⟨g, cap, x, rfl, hown⟩, rfl⟩

set_option maxRecDepth 100000 in
set_option maxHeartbeats 3200000 in
theorem split_impl (p : ByteArray) (w : World) (hs : p.size ≤ 1048576) :
    Calls Tryz.prog 141 #[.string p] w (Post w p) := by
  cases hr : isRoot p
  · have q0 : (p.toList == [47]) = false := hr
    obtain ⟨x, t, hxt⟩ := parts_cons p
    have HV := Lib.hid (split_prog hr hxt)
    have hps : ∀ y ∈ t, y.size ≤ 1048576 := fun y hy => Nat.le_trans (part_size p slB y (by rw [hxt]; exact List.mem_cons_of_mem _ hy)) hs
    have HPS := Lib.hid hps
    have hml : t.length ≤ 1048577 := by
      have := parts_length p slB
      rw [hxt, List.length_cons] at this
      omega
    have HSA := Lib.hid (SplitAny.impl_any p slB w hs (by decide))
    rw [hxt, List.length_cons, List.map_cons] at HSA
    obtain ⟨m, hm⟩ : ∃ m, m = t.length := ⟨_, rfl⟩
    have HM := Lib.hid hm
    rw [← hm] at HSA hml
    clear hxt hm hr hps
    go_enter Tryz.func141, Tryz.ntmps141
    go_wp2_with fail
    refine (HSA.out).mono ?_
    rintro e w1 ⟨v, rfl, hown, hb⟩
    obtain ⟨g, cap, rfl, hg, hcap⟩ : ∃ g cap, v = .slice (some ⟨g, 0, none⟩) (m + 1) (cap + 1) ∧ g < w1.heap.size ∧ m ≤ cap := by
      rcases hown.2 with ⟨_, h0⟩ | ⟨g, C, cur, rfl, _, hg, hn, _⟩
      · omega
      · exact ⟨g, C - 1, by rw [show C - 1 + 1 = C from by omega], (Array.getElem?_eq_some_iff.1 hg).1, by omega⟩
    have c0 := hown.cellAt 0 (by simp)
    rw [List.getElem?_cons_zero] at c0
    have HO := Lib.hid hown
    have HB := Lib.hid hb
    have HC := Lib.hid (fun j (hj : j < m) => show w1.cell? ⟨g, 1 + j, none⟩ = some (.string (t.getD j ⟨#[]⟩)) from by
      rw [HO.out.cellAt (1 + j) (by omega), Nat.add_comm 1 j, List.getElem?_cons_succ, List.getElem?_map, List.getElem?_eq_getElem (by rw [← HM.out]; exact hj)]
      simp [List.getD, List.getElem?_eq_getElem (show j < t.length by rw [← HM.out]; exact hj)])
    have hl1 : (1 : Int) ≤ ((m + 1 : Nat) : Int) := by omega
    clear hown hb HSA
    obtain ⟨E, hE⟩ : ∃ E : Bool, x.toList.isEmpty = E := ⟨_, rfl⟩
    have HEX := Lib.hid (show (x.data.toList = []) ↔ E = true from by
      rw [← hE, List.isEmpty_iff, toList_eq])
    by_cases h1 : 0 < m
    · have hg1 : (0 : Int) < m := by omega
      by_cases h2 : m ≤ 8
      · have hg2 : (m : Int) ≤ 8 := by omega
        have HB0 := Lib.hid (show splitV p = if E && t.all nameB then (t, true) else ([], false) from by
          rw [HV.out, ← HM.out]
          cases E with
          | false => rw [if_neg (fun h => by have := HEX.out.1 h.2.1; cases this)]; rfl
          | true =>
            rw [Bool.true_and]
            by_cases ha : t.all nameB = true
            · rw [if_pos ⟨⟨h1, h2⟩, HEX.out.2 rfl, ha⟩, if_pos ha]
            · rw [if_neg (fun h => ha h.2.2), if_neg ha])
        clear HV HEX
        go_wp2
        go_loopw [6, 31] (fun bv iv wr => ∃ (j : Nat) (B : Bool), j ≤ m ∧ iv = .int .i64 j ∧ bv = .bool B ∧ B = (E && (t.take j).all nameB) ∧ Below w1.heap.size w1 wr) (fun _ iv _ => m - (intOf iv).toNat)
        case atStart => exact ⟨0, E, Nat.zero_le _, rfl, rfl, by simp, Below.refl _ _⟩
        case round =>
          obtain ⟨j, B, hj, rfl, rfl, hB, hbel⟩ := hrel
          have HBE := Lib.hid hbel
          have HBB := Lib.hid hB
          have hsz := hbel.size
          clear hB hbel
          by_cases hlt : j < m
          · obtain ⟨y, hy⟩ : ∃ y, y = t.getD j ⟨#[]⟩ := ⟨_, rfl⟩
            have HN := Lib.hid (show (E && (t.take (j + 1)).all nameB) = (B && nameB y) from by rw [all_succ t j (by rw [← HM.out]; exact hlt), ← Bool.and_assoc, ← HBB.out, hy])
            have hyc : wr.cell? ⟨g, 1 + j, none⟩ = some (.string y) := by rw [HBE.out.cell (p := ⟨g, 1 + j, none⟩) hg, HC.out j hlt, hy]
            have hys : y.size ≤ 1048576 := by rw [hy]; exact HPS.out _ (getD_mem (by rw [← HM.out]; exact hlt))
            have HNA := Lib.hid (EnN.name_impl y hys wr)
            clear hy
            cases B
            · go_wp2
              go_roundw
              case rel => exact ⟨j + 1, false, by omega, by go_num, rfl, by rw [HN.out]; rfl, HBE.out⟩
              case measure => simp [intOf]; omega
            · go_wp2_with fail
              refine (HNA.out).mono ?_
              rintro e w3 ⟨rfl, hb3⟩
              have HB3 := Lib.hid (HBE.out.trans (hb3.mono hsz))
              clear hb3 hyc
              go_wp2
              go_roundw
              case rel => exact ⟨j + 1, nameB y, by omega, by go_num, rfl, by rw [HN.out]; rfl, HB3.out⟩
              case measure => simp [intOf]; omega
          · obtain rfl : j = m := by omega
            have HT := Lib.hid (show splitV p = if B then (t, true) else ([], false) from by rw [HB0.out, HBB.out, List.take_of_length_le (by rw [HM.out]; exact Nat.le_refl _)])
            cases B
            · go_wp2
              go_ret2
              exact post_no HT.out rfl (HB.out.trans (HBE.out.mono HB.out.size))
            · go_wp2
              go_ret2
              have hr2 := row_below HO.out HBE.out
              rw [HM.out] at hr2 ⊢
              exact post_yes HT.out hr2 (HB.out.trans (HBE.out.mono HB.out.size))
      · have hg2 : ¬ ((m : Int) ≤ 8) := by omega
        have hg3 : decide ((m : Int) ≤ 8) = false := decide_eq_false hg2
        have HB0 := Lib.hid (show splitV p = if false && t.all nameB then (t, true) else ([], false) from by
          rw [HV.out, ← HM.out, if_neg (fun h => h2 h.1.2)]; rfl)
        clear HV HEX hg2
        go_wp2
        go_loopw [6, 31] (fun bv iv wr => ∃ (j : Nat) (B : Bool), j ≤ m ∧ iv = .int .i64 j ∧ bv = .bool B ∧ B = (false && (t.take j).all nameB) ∧ Below w1.heap.size w1 wr) (fun _ iv _ => m - (intOf iv).toNat)
        case atStart => exact ⟨0, false, Nat.zero_le _, rfl, rfl, by simp, Below.refl _ _⟩
        case round =>
          obtain ⟨j, B, hj, rfl, rfl, hB, hbel⟩ := hrel
          have HBE := Lib.hid hbel
          have HBB := Lib.hid hB
          have hsz := hbel.size
          clear hB hbel
          by_cases hlt : j < m
          · obtain ⟨y, hy⟩ : ∃ y, y = t.getD j ⟨#[]⟩ := ⟨_, rfl⟩
            have HN := Lib.hid (show (false && (t.take (j + 1)).all nameB) = (B && nameB y) from by rw [all_succ t j (by rw [← HM.out]; exact hlt), ← Bool.and_assoc, ← HBB.out, hy])
            have hyc : wr.cell? ⟨g, 1 + j, none⟩ = some (.string y) := by rw [HBE.out.cell (p := ⟨g, 1 + j, none⟩) hg, HC.out j hlt, hy]
            have hys : y.size ≤ 1048576 := by rw [hy]; exact HPS.out _ (getD_mem (by rw [← HM.out]; exact hlt))
            have HNA := Lib.hid (EnN.name_impl y hys wr)
            clear hy
            cases B
            · go_wp2
              go_roundw
              case rel => exact ⟨j + 1, false, by omega, by go_num, rfl, by rw [HN.out]; rfl, HBE.out⟩
              case measure => simp [intOf]; omega
            · go_wp2_with fail
              refine (HNA.out).mono ?_
              rintro e w3 ⟨rfl, hb3⟩
              have HB3 := Lib.hid (HBE.out.trans (hb3.mono hsz))
              clear hb3 hyc
              go_wp2
              go_roundw
              case rel => exact ⟨j + 1, nameB y, by omega, by go_num, rfl, by rw [HN.out]; rfl, HB3.out⟩
              case measure => simp [intOf]; omega
          · obtain rfl : j = m := by omega
            have HT := Lib.hid (show splitV p = if B then (t, true) else ([], false) from by rw [HB0.out, HBB.out, List.take_of_length_le (by rw [HM.out]; exact Nat.le_refl _)])
            cases B
            · go_wp2
              go_ret2
              exact post_no HT.out rfl (HB.out.trans (HBE.out.mono HB.out.size))
            · go_wp2
              go_ret2
              have hr2 := row_below HO.out HBE.out
              rw [HM.out] at hr2 ⊢
              exact post_yes HT.out hr2 (HB.out.trans (HBE.out.mono HB.out.size))
    · obtain rfl : m = 0 := by omega
      have HB0 := Lib.hid (show splitV p = if false && t.all nameB then (t, true) else ([], false) from by
          rw [HV.out, ← HM.out, if_neg (fun h => h1 h.1.1)]; rfl)
      clear HV HEX
      go_wp2
      all_goals
        refine wp_loop_rounds 1 ?_
        rw [rounds_succ]
        go_wp2
        go_ret2
        exact post_no HB0.out rfl HB.out
  · have q0 : (p.toList == [47]) = true := hr
    have HV := Lib.hid (show splitV p = ([], true) from by unfold splitV; rw [if_pos hr])
    clear hr
    go_enter Tryz.func141, Tryz.ntmps141
    go_wp2
    go_ret2
    exact post_root HV.out (Below.refl _ _)
end Go.Proofs.YthppbcnejapbiaaGreatDoor.PaS

-- YthppbcnejapbiaaGreatDoorPaT
/- Contract: SplitPath of the model. Conditions: the path's size. -/
namespace Go.Proofs.YthppbcnejapbiaaGreatDoor.PaT
open Go.ChangeShapes Go.WideShapes Go.ChangeAt Go.RowKit
open Foot
open SplitAny (parts)
open EnN (nameB)
open PaV PaS
set_option linter.unusedVariables false

theorem post_own {w w' : World} {p : ByteArray} {l : List ByteArray} {v : Value} (h : splitV p = (l, true)) (hown : w'.ownsRow w.heap.size 9 1 v l.length (l.map Value.string)) (hb : Below w.heap.size w w') : Post w p (.returned (.tuple #[v, .bool true])) w' := by
  refine ⟨v, fpR v, ?_, ?_, hb⟩
  · rw [h]
  · rw [h]; exact .inl ⟨hown, rfl⟩

set_option maxRecDepth 100000 in
set_option maxHeartbeats 3200000 in
theorem split_spec (p : ByteArray) (w : World) (hs : p.size ≤ 1048576) :
    Calls Tryz.prog 83 #[.string p] w (Post w p) := by
  cases hr : isRoot p
  · have q0 : (p.toList == [47]) = false := hr
    by_cases h0 : p.size = 0
    · have HV := Lib.hid (split_no hr (by omega))
      have q1 : p.toList.isEmpty = true := by rw [toList_eq, List.isEmpty_iff]; exact List.eq_nil_of_length_eq_zero (by rw [ba_len]; exact h0)
      clear hr h0
      go_enter Tryz.func83, Tryz.ntmps83
      go_wp2
      go_ret2
      exact post_no HV.out rfl (Below.refl _ _)
    · have q1 : p.toList.isEmpty = false := by
        rw [toList_eq, Bool.eq_false_iff]
        intro hh
        rw [List.isEmpty_iff] at hh
        exact h0 (by rw [← ba_len, hh]; rfl)
      have hz : 0 < p.size := by omega
      have hg0 : p.data.toList.getD 0 0 = p[0] := SplitAny.byte_at p 0 hz
      have hidx : ∀ W : World, (Instr.index 9 (.string p) (.int .i64 0)).run Tryz.prog W = .ok (.int .u8 (p[0].toNat : Int)) W := fun W => EnC.idx p 0 hz 0 rfl W
      obtain ⟨c, hc⟩ : ∃ c, c = p[0] := ⟨_, rfl⟩
      rw [← hc] at hg0 hidx
      clear hc
      by_cases h47 : c = 47
      · subst h47
        obtain ⟨r, hre⟩ : ∃ r, r = restB p := ⟨_, rfl⟩
        have hrs : r.size ≤ 1048576 := by rw [hre, rest_size]; omega
        have hi1 : (1 : Int) ≤ p.size := by omega
        have hsl : ∀ W : World, (Instr.slice 9 (.string p) (some (.int .i64 1)) none none).run Tryz.prog W = .ok (.string r) W := fun W => by
          rw [run_slice_string_l W 9 p Tryz.underlying9 .i64 1 (by decide) hi1, hre]; rfl
        have HY := Lib.hid (fun h => split_yes hr hz hg0 h)
        have HN := Lib.hid (fun (h : okN (parts (restB p) slB) = false) => split_no hr (fun hh => by rw [h] at hh; cases hh.2.2))
        rw [← hre] at HY HN
        have HPS := Lib.hid (fun y (hy : y ∈ parts r slB) => Nat.le_trans (part_size r slB y hy) hrs)
        have HSA := Lib.hid (SplitAny.spec_any r slB w hrs (by decide))
        have hml := parts_length r slB
        generalize parts r slB = t at HY HN HPS HSA hml
        obtain ⟨m, hm⟩ : ∃ m, m = t.length := ⟨_, rfl⟩
        have HM := Lib.hid hm
        rw [← hm] at HSA hml
        have u47 : ((UInt8.toNat 47 : Nat) : Int) = 47 := rfl
        rw [u47] at hidx
        clear hr h0 hg0 hre hm u47
        go_enter Tryz.func83, Tryz.ntmps83
        go_wp2_with fail
        refine (HSA.out).mono ?_
        rintro e w1 ⟨v, rfl, hown, hb⟩
        obtain ⟨a, cap, rfl⟩ := Dk.slice_of hown
        have HO := Lib.hid hown
        have HB := Lib.hid hb
        have HH := Lib.hid (show Strs.Holds w1 (.slice a m cap) t from Strs.holds_of_own hown)
        clear hown hb HSA hidx hsl
        go_wp2
        go_loopw [21] (fun iv wr => ∃ (j : Nat), j ≤ m ∧ iv = .int .i64 j ∧ (t.take j).all nameB = true ∧ wr = w1) (fun iv _ => m - (intOf iv).toNat)
        case atStart => exact ⟨0, Nat.zero_le _, rfl, by simp, rfl⟩
        case round =>
          obtain ⟨j, hj, rfl, hB, rfl⟩ := hrel
          have HBB := Lib.hid hB
          clear hB
          by_cases hlt : j < m
          · obtain ⟨b1, o1, rfl, hyc⟩ : ∃ b o, a = some ⟨b, o, none⟩ ∧ wr.cell? ⟨b, o + j, none⟩ = some (.string (t.getD j ⟨#[]⟩)) := by
              obtain ⟨a', c', e', hc'⟩ := HH.out
              obtain ⟨b, o, rfl, _, hcell⟩ := hc' (fun h => by have := HM.out; rw [h] at this; simp at this; omega)
              rw [Value.slice.injEq] at e'
              exact ⟨b, o, e'.1, hcell j (by rw [← HM.out]; exact hlt)⟩
            obtain ⟨y, hy⟩ : ∃ y, y = t.getD j ⟨#[]⟩ := ⟨_, rfl⟩
            rw [← hy] at hyc
            have HNX := Lib.hid (show (t.take (j + 1)).all nameB = nameB y from by rw [all_succ t j (by rw [← HM.out]; exact hlt), HBB.out, ← hy]; rfl)
            have hys : y.size ≤ 1048576 := by rw [hy]; exact HPS.out _ (getD_mem (by rw [← HM.out]; exact hlt))
            have HALL := Lib.hid (show nameB y = false → t.all nameB = false from fun h => by
              rw [Bool.eq_false_iff]
              intro hh
              rw [List.all_eq_true] at hh
              have := hh y (by rw [hy]; exact getD_mem (by rw [← HM.out]; exact hlt))
              rw [h] at this
              cases this)
            have HNA := Lib.hid (EnN.name_spec y hys wr)
            clear hy
            obtain ⟨B, hBe⟩ : ∃ B, B = nameB y := ⟨_, rfl⟩
            rw [← hBe] at HNX HALL HNA
            clear hBe
            cases B
            · have HV := Lib.hid (HN.out (by unfold okN; rw [HALL.out rfl, Bool.and_false]))
              go_wp2_with fail
              refine (HNA.out).mono ?_
              rintro e w3 ⟨rfl, rfl⟩
              go_wp2
              go_ret2
              exact post_no HV.out rfl HB.out
            · go_wp2_with fail
              refine (HNA.out).mono ?_
              rintro e w3 ⟨rfl, rfl⟩
              go_wp2
              go_roundw
              case rel => exact ⟨j + 1, by omega, by go_num, HNX.out, by trivial⟩
              case measure => simp [intOf]; omega
          · obtain rfl : j = m := by omega
            have HA := Lib.hid (show t.all nameB = true from by have := HBB.out; rwa [List.take_of_length_le (by rw [HM.out]; exact Nat.le_refl _)] at this)
            by_cases h8 : j ≤ 8
            · have hq : decide ((8 : Int) < j) = false := decide_eq_false (by omega)
              have HV := Lib.hid (HY.out (by unfold okN; rw [HA.out, ← HM.out, decide_eq_true h8]; rfl))
              clear h8
              go_wp2
              go_ret2
              refine post_own HV.out ?_ HB.out
              rw [← HM.out]; exact HO.out
            · have hq : decide ((8 : Int) < j) = true := decide_eq_true (by omega)
              have HV := Lib.hid (HN.out (by unfold okN; rw [← HM.out, decide_eq_false h8]; rfl))
              clear h8
              go_wp2
              go_ret2
              exact post_no HV.out rfl HB.out
      · have HV := Lib.hid (split_no hr (fun h => h47 (by rw [← hg0]; exact h.2.1)))
        have q2 : ((c.toNat : Int) != 47) = true := by
          rw [bne_iff_ne]
          intro hh
          exact h47 (UInt8.toNat_inj.1 (by show c.toNat = 47; omega))
        have q3 : ((c.toNat : Int) == 47) = false := by rw [← Bool.not_eq_true', ← bne]; exact q2
        clear hr h0 hg0 h47
        go_enter Tryz.func83, Tryz.ntmps83
        go_wp2
        go_ret2
        exact post_no HV.out rfl (Below.refl _ _)
  · have q0 : (p.toList == [47]) = true := hr
    have HV := Lib.hid (show splitV p = ([], true) from by unfold splitV; rw [if_pos hr])
    clear hr
    go_enter Tryz.func83, Tryz.ntmps83
    go_wp2
    go_ret2
    exact post_root HV.out (Below.refl _ _)
end Go.Proofs.YthppbcnejapbiaaGreatDoor.PaT

-- YthppbcnejapbiaaGreatDoorPwR
/- Contracts: the program's namesFor and followNames, ResolvePath and ResolveParent. Conditions: as each theorem types them. -/
namespace Go.Proofs.YthppbcnejapbiaaGreatDoor.PwR
open Go.ChangeShapes Go.WideShapes Go.ChangeAt Go.RowKit
open Foot Bx
open InoV (I)
open FsV (F okF)
open FsY (ino hasObjB)
open FsZ (GoodF)
open CredV (allowedV credB)
open CrS (tri)
open PaV (splitV)
open PwV PwA PwM OpF
open EnV EnF
set_option linter.unusedVariables false

theorem ret_ii {a b c d : Int} (h : a = b) (h2 : c = d) : Ending.returned (.tuple #[.int .i64 a, .int .i64 c]) = .returned (.tuple #[.int .i64 b, .int .i64 d]) := by rw [h, h2]
theorem ret_isi {a b c d : Int} {s t : ByteArray} (h : a = b) (h1 : s = t) (h2 : c = d) : Ending.returned (.tuple #[.int .i64 a, .string s, .int .i64 c]) = .returned (.tuple #[.int .i64 b, .string t, .int .i64 d]) := by rw [h, h1, h2]
def nmC (f : F) (c : CrS.C) (p : ByteArray) : Int := if okF f = true ∧ credB (tri c) = true then (if (splitV p).2 = true then 0 else 11) else 1
def nmL (f : F) (c : CrS.C) (p : ByteArray) : List ByteArray := if okF f = true ∧ credB (tri c) = true ∧ (splitV p).2 = true then (splitV p).1 else []
theorem holds_nil (w : World) : SF.Holds w (.slice none 0 0) [] := ⟨none, 0, rfl, fun h => absurd rfl h⟩
theorem ret_nm {na : Option Addr} {n m nc : Nat} {a b : Int} (h : n = m) (h2 : a = b) : Ending.returned (.tuple #[.slice na n nc, .int .i64 a]) = .returned (.tuple #[.slice na m nc, .int .i64 b]) := by rw [h, h2]
theorem own_cap {w : World} {base : Nat} {v : Value} {l : List ByteArray} {S : List Nat} (h : TlF.Own w base v l S) : ∃ a c, v = .slice a l.length c ∧ l.length ≤ c := by
  rcases h with h | ⟨⟨g, cap, x, rfl, hown⟩, rfl⟩
  · rcases h.1.2 with ⟨hv, h0⟩ | ⟨g, cap, cur, hv, _, _, hn, _⟩
    · exact ⟨none, 0, by rw [hv, h0], by omega⟩
    · exact ⟨_, cap, hv, hn⟩
  · refine ⟨_, cap, rfl, ?_⟩
    rcases hown.2 with ⟨hv, _⟩ | ⟨_, _, _, hv, _, _, hn, _⟩
    · cases hv
    · rw [Value.slice.injEq] at hv; omega
theorem prefix_holds {w : World} {a : Option Addr} {n nc : Nat} {l : List ByteArray} (h : SF.Holds w (.slice a n nc) l) (hn : n = l.length) (nc' : Nat) : SF.Holds w (.slice a (n - 1) nc') l.dropLast := by
  obtain ⟨a', c', e, hc⟩ := h
  rw [Value.slice.injEq] at e
  obtain ⟨rfl, _, _⟩ := e
  refine ⟨a, nc', by rw [List.length_dropLast, hn], fun hne => ?_⟩
  have hl : 0 < l.dropLast.length := by
    cases hd : l.dropLast with
    | nil => exact absurd hd hne
    | cons x r => simp
  rw [List.length_dropLast] at hl
  obtain ⟨b, o, rfl, hlt, hcell⟩ := hc (fun hh => by rw [hh] at hl; simp at hl)
  refine ⟨b, o, rfl, hlt, fun j hj => ?_⟩
  rw [List.length_dropLast] at hj
  rw [hcell j (by omega), List.getD_eq_getElem?_getD, List.getD_eq_getElem?_getD, List.getElem?_dropLast, if_pos hj]
theorem drop_at {l : List ByteArray} {j : Nat} (h : j < l.length) : l.drop j = l.getD j ⟨#[]⟩ :: l.drop (j + 1) := by
  rw [List.drop_eq_getElem_cons h, List.getD_eq_getElem?_getD, List.getElem?_eq_getElem h]; rfl

set_option maxRecDepth 100000 in
set_option maxHeartbeats 3200000 in
theorem names_impl (w : World) (v cv : Value) (f : F) (c : CrS.C) (p : ByteArray) (hc : FsF.cost f ≤ 1073741824) (hl : FsF.Lim f) (hv : InOk.Vars w) (hgl : c.groups.length ≤ 1073741824) (hp : p.size ≤ 1048576) (h : FsF.Holds w v f) (hC : CrF.Holds w cv c) :
    Calls Tryz.prog 86 #[v, cv, .string p] w fun e w' => ∃ (na : Option Addr) (nc : Nat), e = .returned (.tuple #[.slice na (nmL f c p).length nc, .int .i64 (nmC f c p)]) ∧ (nmL f c p).length ≤ nc ∧ SF.Holds w' (.slice na (nmL f c p).length nc) (nmL f c p) ∧ Below w.heap.size w w' := by
  obtain ⟨T, qa, Q, qc, ia, M, ic, da, D, dc, rfl⟩ := form_fs h
  obtain ⟨ga, gn, gc, rfl, hG⟩ := open_cr hC
  have HCR := Lib.hid hC
  have HGR := Lib.hid hG
  obtain ⟨U, hU⟩ : ∃ U, U = c.uid := ⟨_, rfl⟩
  obtain ⟨G, hG'⟩ : ∃ G, G = c.gid := ⟨_, rfl⟩
  rw [← hU, ← hG'] at HCR ⊢
  have HU := Lib.hid hU
  have HG := Lib.hid hG'
  clear hU hG' hG hC
  have HFS := Lib.hid h
  clear h
  obtain ⟨w0, hw0⟩ : ∃ w0, (w.alloc (.cells #[.int .i64 T, .slice qa Q qc, .slice ia M ic, .slice da D dc] 33)).alloc (.cells #[.int .i64 U, .int .i64 G, .slice ga gn gc] 54) = w0 := ⟨_, rfl⟩
  have hB : Below w.heap.size w w0 := by rw [← hw0]; exact ((Below.refl _ w).alloc (Nat.le_refl _) _).alloc (by simp) _
  have bF : Bk w0 w.heap.size #[.int .i64 T, .slice qa Q qc, .slice ia M ic, .slice da D dc] 33 := by rw [← hw0]; exact (new w _ _).alloc _
  have bC : Bk w0 (w.heap.size + 1) #[.int .i64 U, .int .i64 G, .slice ga gn gc] 54 := by
    have := new (w.alloc (.cells #[.int .i64 T, .slice qa Q qc, .slice ia M ic, .slice da D dc] 33)) #[.int .i64 U, .int .i64 G, .slice ga gn gc] 54
    rw [World.size_alloc, hw0] at this; exact this
  have HB := Lib.hid hB
  obtain ⟨x0, x1, x2, x3⟩ := Bk.c4 bF
  obtain ⟨y0, y1, y2⟩ := bC.three
  obtain ⟨B, hBe⟩ : ∃ B, B = okF f := ⟨_, rfl⟩
  have HIS := Lib.hid (show Calls Tryz.prog 75 #[.agg #[.int .i64 T, .slice qa Q qc, .slice ia M ic, .slice da D dc]] w0 fun e w' => e = .returned (.bool B) ∧ Below w0.heap.size w0 w' from by rw [hBe]; exact FsE.is_impl w0 _ f hc hl (hv.all hB) (FsF.holds_below HFS.out hB))
  have HBE := Lib.hid hBe
  obtain ⟨K, hKe⟩ : ∃ K, K = credB (tri c) := ⟨_, rfl⟩
  have HIC := Lib.hid (fun (W : World) (hb : Below w.heap.size w W) => show Calls Tryz.prog 140 #[.agg #[.int .i64 U, .int .i64 G, .slice ga gn gc]] W fun e w' => e = .returned (.bool K) ∧ Below W.heap.size W w' from by rw [hKe, HU.out, HG.out]; exact CrI.cred_impl W c.uid c.gid (.slice ga gn gc) c.groups hgl (NiF.holds_below HGR.out hb).old)
  have HKE := Lib.hid hKe
  have HBF := Lib.hid bF
  have HBC := Lib.hid bC
  have HSP := Lib.hid (fun (W : World) => PaS.split_impl p W hp)
  clear hBe hKe bF bC hB hc hl hv hp
  cases B
  · have H1 := Lib.hid (show nmC f c p = 1 from if_neg (fun h => by have := h.1; rw [← HBE.out] at this; cases this))
    have H2 := Lib.hid (show nmL f c p = [] from if_neg (fun h => by have := h.1; rw [← HBE.out] at this; cases this))
    go_enter Tryz.func86, Tryz.ntmps86
    go_wp2_with fail
    refine (HIS.out).mono ?_
    rintro e w2 ⟨rfl, hb2⟩
    go_wp2
    go_ret2
    exact ⟨none, 0, ret_nm (by rw [H2.out]; rfl) H1.out.symm, by rw [H2.out]; exact Nat.le_refl _, by rw [H2.out]; exact holds_nil _, HB.out.trans (hb2.mono HB.out.size)⟩
  · cases K
    · have H1 := Lib.hid (show nmC f c p = 1 from if_neg (fun h => by have := h.2; rw [← HKE.out] at this; cases this))
      have H2 := Lib.hid (show nmL f c p = [] from if_neg (fun h => by have := h.2.1; rw [← HKE.out] at this; cases this))
      go_enter Tryz.func86, Tryz.ntmps86
      go_wp2_with fail
      refine (HIS.out).mono ?_
      rintro e w2 ⟨rfl, hb2⟩
      have HB2 := Lib.hid (HB.out.trans (hb2.mono HB.out.size))
      obtain ⟨y0, y1, y2⟩ := (HBC.out.all hb2).three
      clear x0 x1 x2 x3 hb2
      go_wp2_with fail
      refine (HIC.out _ HB2.out).mono ?_
      rintro e w3 ⟨rfl, hb3⟩
      have HB3 := Lib.hid (HB2.out.trans (hb3.mono HB2.out.size))
      clear hb3
      go_wp2
      go_ret2
      exact ⟨none, 0, ret_nm (by rw [H2.out]; rfl) H1.out.symm, by rw [H2.out]; exact Nat.le_refl _, by rw [H2.out]; exact holds_nil _, HB3.out⟩
    · obtain ⟨L, hL⟩ : ∃ L, L = (splitV p).1 := ⟨_, rfl⟩
      obtain ⟨E, hE⟩ : ∃ E, E = (splitV p).2 := ⟨_, rfl⟩
      have H1 := Lib.hid (show nmC f c p = if E = true then 0 else 11 from by unfold nmC; rw [if_pos ⟨HBE.out.symm, HKE.out.symm⟩, ← hE])
      have H2 := Lib.hid (show nmL f c p = if E = true then L else [] from by
        unfold nmL
        rw [← hE, ← hL]
        cases E with
        | true => rw [if_pos ⟨HBE.out.symm, HKE.out.symm, rfl⟩, if_pos rfl]
        | false => rw [if_neg (fun h => by cases h.2.2), if_neg (fun h => by cases h)])
      unfold PaS.Post at HSP
      rw [← hL, ← hE] at HSP
      clear hL hE
      go_enter Tryz.func86, Tryz.ntmps86
      go_wp2_with fail
      refine (HIS.out).mono ?_
      rintro e w2 ⟨rfl, hb2⟩
      have HB2 := Lib.hid (HB.out.trans (hb2.mono HB.out.size))
      obtain ⟨y0, y1, y2⟩ := (HBC.out.all hb2).three
      clear x0 x1 x2 x3 hb2
      go_wp2_with fail
      refine (HIC.out _ HB2.out).mono ?_
      rintro e w3 ⟨rfl, hb3⟩
      have HB3 := Lib.hid (HB2.out.trans (hb3.mono HB2.out.size))
      clear hb3 y0 y1 y2
      go_wp2_with fail
      refine (HSP.out _).mono ?_
      rintro e w4 ⟨nv, S, rfl, hown, hb4⟩
      have HB4 := Lib.hid (HB3.out.trans (hb4.mono HB3.out.size))
      have HH := Lib.hid (TlF.own_holds hown)
      obtain ⟨na, nc, rfl, hcp⟩ := own_cap hown
      have HCP := Lib.hid hcp
      clear hown hb4 hcp
      cases E
      · go_wp2
        go_ret2
        exact ⟨none, 0, ret_nm (by rw [H2.out]; rfl) H1.out.symm, by rw [H2.out]; exact Nat.le_refl _, by rw [H2.out]; exact holds_nil _, HB4.out⟩
      · go_wp2
        go_ret2
        exact ⟨na, nc, ret_nm (by rw [H2.out]; rfl) H1.out.symm, by rw [H2.out]; exact HCP.out, by rw [H2.out]; exact HH.out, HB4.out⟩

set_option maxRecDepth 100000 in
set_option maxHeartbeats 6400000 in
theorem follow_impl (w : World) (v cv nv : Value) (f : F) (c : CrS.C) (names : List ByteArray) (hc : FsF.cost f ≤ 1073741824) (hl : FsF.Lim f) (hv : InOk.Vars w) (hgl : c.groups.length ≤ 1073741824) (hok : okF f = true) (hn : names.length ≤ 8) (h : FsF.Holds w v f) (hC : CrF.Holds w cv c) (hN : SF.Holds w nv names) :
    Calls Tryz.prog 87 #[v, cv, nv] w fun e w' => e = .returned (.tuple #[.int .i64 ((walkV f c names 0).1 : Int), .int .i64 (walkV f c names 0).2]) ∧ Below w.heap.size w w' := by
  obtain ⟨T, qa, Q, qc, b, o, ic, da, D, dc, rfl, hb, hic, hat⟩ := open_fs hok h
  have HFS := Lib.hid h
  have HAT := Lib.hid hat
  have HHB := Lib.hid hb
  clear h hat hb
  obtain ⟨ga, gn, gc, rfl, hG⟩ := open_cr hC
  have HCR := Lib.hid hC
  have HGR := Lib.hid hG
  obtain ⟨U, hU⟩ : ∃ U, U = c.uid := ⟨_, rfl⟩
  obtain ⟨G, hG'⟩ : ∃ G, G = c.gid := ⟨_, rfl⟩
  rw [← hU, ← hG'] at HCR ⊢
  have HU := Lib.hid hU
  have HG := Lib.hid hG'
  clear hU hG' hG hC
  obtain ⟨na, nc, rfl⟩ := SF.form hN
  have HNM := Lib.hid hN
  clear hN
  obtain ⟨w0, hw0⟩ : ∃ w0, (w.alloc (.cells #[.int .i64 T, .slice qa Q qc, .slice (some ⟨b, o, none⟩) 20 ic, .slice da D dc] 33)).alloc (.cells #[.int .i64 U, .int .i64 G, .slice ga gn gc] 54) = w0 := ⟨_, rfl⟩
  have hB : Below w.heap.size w w0 := by rw [← hw0]; exact ((Below.refl _ w).alloc (Nat.le_refl _) _).alloc (by simp) _
  have bF : Bk w0 w.heap.size #[.int .i64 T, .slice qa Q qc, .slice (some ⟨b, o, none⟩) 20 ic, .slice da D dc] 33 := by rw [← hw0]; exact (new w _ _).alloc _
  have bC : Bk w0 (w.heap.size + 1) #[.int .i64 U, .int .i64 G, .slice ga gn gc] 54 := by
    have := new (w.alloc (.cells #[.int .i64 T, .slice qa Q qc, .slice (some ⟨b, o, none⟩) 20 ic, .slice da D dc] 33)) #[.int .i64 U, .int .i64 G, .slice ga gn gc] 54
    rw [World.size_alloc, hw0] at this; exact this
  have HB := Lib.hid hB
  have HFI := Lib.hid (fun (W : World) (hb : Below w.heap.size w W) (k : Nat) (s : ByteArray) => EnF.find_impl W _ f (k : Int) s hc hl (hv.all hb) (FsF.holds_below HFS.out hb))
  have HPC := Lib.hid (fun (W : World) (hb : Below w.heap.size w W) (k : Nat) (hk : k < 20) => show Calls Tryz.prog 88 #[.agg #[.int .i64 T, .slice qa Q qc, .slice (some ⟨b, o, none⟩) 20 ic, .slice da D dc], .agg #[.int .i64 U, .int .i64 G, .slice ga gn gc], .int .i64 k] W fun e w' => e = .returned (.int .i64 (passC f c k)) ∧ Below W.heap.size W w' from pass_impl W _ _ f c k hgl hok hk (FsF.holds_below HFS.out hb) (CrF.holds_below HCR.out hb))
  have HFP := Lib.hid (fun (k : Nat) (s : ByteArray) (hk : k < 20) (h0 : passC f c k = 0) => find_pass (s := s) hok hk h0)
  have HBF := Lib.hid bF
  have HBC := Lib.hid bC
  obtain ⟨W0, hW0⟩ : ∃ W, W = walkV f c names 0 := ⟨_, rfl⟩
  rw [← hW0]
  have HW0 := Lib.hid hW0
  obtain ⟨n, hn'⟩ : ∃ n, n = names.length := ⟨_, rfl⟩
  rw [← hn'] at hn ⊢
  have HN := Lib.hid hn'
  clear hW0 hn' bF bC hB hc hl hv hgl hok
  go_enter Tryz.func87, Tryz.ntmps87
  go_wp2
  go_step3
  go_wp2
  go_step3
  go_wp2
  go_loopw [8, 9, 16] (fun av kv iv wr => ∃ (j at_ : Nat), j ≤ n ∧ at_ < 20 ∧ iv = .int .i64 j ∧ av = .int .i64 at_ ∧ kv = .int .i64 0 ∧ W0 = walkV f c (names.drop j) at_ ∧ Below w0.heap.size w0 wr) (fun _ _ iv _ => n - (intOf iv).toNat)
  case atStart => exact ⟨0, 0, Nat.zero_le _, by decide, rfl, rfl, rfl, by rw [List.drop_zero]; exact HW0.out, Below.refl _ _⟩
  case round =>
    obtain ⟨j, k, hj, hk, rfl, rfl, rfl, hW, hbel⟩ := hrel
    have HW := Lib.hid hW
    have HBE := Lib.hid hbel
    have HBR := Lib.hid (HB.out.trans (hbel.mono HB.out.size))
    obtain ⟨x0, x1, x2, x3⟩ := Bk.c4 (HBF.out.all hbel)
    obtain ⟨y0, y1, y2⟩ := (HBC.out.all hbel).three
    clear hW hbel
    by_cases hlt : j < n
    · have hlt2 : j < names.length := by rw [← HN.out]; exact hlt
      obtain ⟨b1, o1, rfl, hnc⟩ : ∃ b o, na = some ⟨b, o, none⟩ ∧ wr.cell? ⟨b, o + j, none⟩ = some (.string (names.getD j ⟨#[]⟩)) := by
        obtain ⟨a', c', e', hc'⟩ := SF.holds_below HNM.out HBR.out
        obtain ⟨b', o', rfl, _, hcell⟩ := hc' (fun h => by rw [h] at hlt2; simp at hlt2)
        rw [Value.slice.injEq] at e'
        exact ⟨b', o', e'.1, hcell j hlt2⟩
      have HDR := Lib.hid (drop_at hlt2)
      obtain ⟨s, hs⟩ : ∃ s, names.getD j ⟨#[]⟩ = s := ⟨_, rfl⟩
      rw [hs] at hnc HDR
      have HF1 := Lib.hid (HFI.out wr HBR.out k s)
      obtain ⟨R, hR⟩ : ∃ R, R = findV f (k : Int) s := ⟨_, rfl⟩
      rw [← hR] at HF1
      have HR := Lib.hid hR
      obtain ⟨PC, hPC⟩ : ∃ PC, PC = passC f c k := ⟨_, rfl⟩
      have HP1 := Lib.hid (fun (W : World) (hb : Below w.heap.size w W) => HPC.out W hb k hk)
      rw [← hPC] at HP1
      have HPE := Lib.hid hPC
      clear hR hPC hs hlt2
      by_cases hz : PC = 0
      · subst hz
        have HFR := Lib.hid (show R = (findL (entsV f k) s).map (·.2) from by rw [HR.out]; exact HFP.out k s hk HPE.out.symm)
        cases R with
        | none =>
          have HV := Lib.hid (show W0 = (0, 3) from by
            rw [HW.out, HDR.out]
            refine walk_miss HPE.out.symm ?_
            have := HFR.out
            cases hf : findL (entsV f k) s with
            | none => rfl
            | some e => rw [hf] at this; cases this)
          rw [show (none : Option Int).getD 0 = 0 from rfl, show (none : Option Int).isSome = false from rfl] at HF1
          go_wp2_with fail
          refine (HF1.out).mono ?_
          rintro e w2 ⟨rfl, hb2⟩
          have HB2 := Lib.hid (HBR.out.trans (hb2.mono HBR.out.size))
          have hbe2 := HBE.out.trans (hb2.mono HBE.out.size)
          obtain ⟨x0, x1, x2, x3⟩ := Bk.c4 (HBF.out.all hbe2)
          obtain ⟨y0, y1, y2⟩ := (HBC.out.all hbe2).three
          clear hb2 hbe2 hnc
          go_wp2_with fail
          refine (HP1.out _ HB2.out).mono ?_
          rintro e w3 ⟨rfl, hb3⟩
          have HB3 := Lib.hid (HB2.out.trans (hb3.mono HB2.out.size))
          clear hb3 x0 x1 x2 x3 y0 y1 y2
          go_wp2
          (try rw [Exit.noGoto_ret])
          (try rw [Exit.noGoto_ret])
          go_ret2
          exact ⟨by rw [HV.out]; rfl, HB3.out⟩
        | some z =>
          obtain ⟨e1, he1, hz1⟩ : ∃ e1, findL (entsV f k) s = some e1 ∧ z = e1.2 := by
            have := HFR.out
            cases hf : findL (entsV f k) s with
            | none => rw [hf] at this; cases this
            | some e => rw [hf] at this; cases this; exact ⟨e, rfl, rfl⟩
          obtain ⟨hz2, hz3⟩ := find_in he1
          have HV := Lib.hid (show W0 = walkV f c (names.drop (j + 1)) e1.2.toNat from by rw [HW.out, HDR.out]; exact walk_go HPE.out.symm he1)
          obtain ⟨q, hq⟩ : ∃ q, q = e1.2.toNat := ⟨_, rfl⟩
          rw [← hq] at HV hz2 hz3
          rw [← hz1] at hz3
          rw [← hz3, show (some (q : Int)).getD 0 = q from rfl, show (some (q : Int)).isSome = true from rfl] at HF1
          clear hq hz1 he1 HFR HR hz3
          go_wp2_with fail
          refine (HF1.out).mono ?_
          rintro e w2 ⟨rfl, hb2⟩
          have HB2 := Lib.hid (HBR.out.trans (hb2.mono HBR.out.size))
          have hbe2 := HBE.out.trans (hb2.mono HBE.out.size)
          have HBE2 := Lib.hid hbe2
          obtain ⟨x0, x1, x2, x3⟩ := Bk.c4 (HBF.out.all hbe2)
          obtain ⟨y0, y1, y2⟩ := (HBC.out.all hbe2).three
          clear hb2 hbe2 hnc
          go_wp2_with fail
          refine (HP1.out _ HB2.out).mono ?_
          rintro e w3 ⟨rfl, hb3⟩
          have HBE3 := Lib.hid (HBE2.out.trans (hb3.mono HBE2.out.size))
          clear hb3 x0 x1 x2 x3 y0 y1 y2
          go_wp2
          go_roundw
          case rel => exact ⟨j + 1, q, by omega, hz2, by go_num, rfl, rfl, HV.out, HBE3.out⟩
          case measure => simp [intOf]; omega
      · have HV := Lib.hid (show W0 = (0, PC) from by
          rw [HW.out, HDR.out, HPE.out]
          exact walk_stop (by rw [← HPE.out]; exact hz))
        have q1 : (PC != 0) = true := by simpa using hz
        have q2 : (PC == 0) = false := by simpa using hz
        clear hz
        go_wp2_with fail
        refine (HF1.out).mono ?_
        rintro e w2 ⟨rfl, hb2⟩
        have HB2 := Lib.hid (HBR.out.trans (hb2.mono HBR.out.size))
        have hbe2 := HBE.out.trans (hb2.mono HBE.out.size)
        obtain ⟨x0, x1, x2, x3⟩ := Bk.c4 (HBF.out.all hbe2)
        obtain ⟨y0, y1, y2⟩ := (HBC.out.all hbe2).three
        clear hb2 hbe2 hnc
        go_wp2_with fail
        refine (HP1.out _ HB2.out).mono ?_
        rintro e w3 ⟨rfl, hb3⟩
        have HB3 := Lib.hid (HB2.out.trans (hb3.mono HB2.out.size))
        clear hb3 x0 x1 x2 x3 y0 y1 y2
        go_wp2
        (try rw [Exit.noGoto_ret])
        (try rw [Exit.noGoto_ret])
        go_ret2
        exact ⟨by rw [HV.out]; rfl, HB3.out⟩
    · obtain rfl : j = n := by omega
      obtain ⟨r0, r1, r2, hCl, _⟩ := HAT.out k hk
      have hk0 := hCl.1
      rw [← HBR.out.cell (p := ⟨b, _, none⟩) HHB.out] at hk0
      have h0 : (0 : Int) ≤ k := by omega
      have h1 : (k : Int) < 20 := by omega
      have HNL := Lib.hid (show names.drop j = [] from List.drop_of_length_le (by rw [HN.out]; exact Nat.le_refl _))
      obtain ⟨K, hK⟩ : ∃ K, K = (ino f k).kind := ⟨_, rfl⟩
      rw [← hK] at hk0
      have HK := Lib.hid hK
      clear hK hCl
      by_cases hz : K = 0
      · have HV := Lib.hid (show W0 = (0, 3) from by rw [HW.out, HNL.out]; exact walk_nil_no (by rw [← HK.out]; exact hz))
        subst hz
        go_wp2
        (try rw [Exit.noGoto_ret])
        (try rw [Exit.noGoto_ret])
        go_ret2
        exact ⟨by rw [HV.out]; rfl, HBR.out⟩
      · have HV := Lib.hid (show W0 = (k, 0) from by rw [HW.out, HNL.out]; exact walk_nil (by rw [← HK.out]; exact hz))
        have q1 : (K == 0) = false := by simpa using hz
        clear hz
        go_wp2
        (try rw [Exit.noGoto_ret])
        (try rw [Exit.noGoto_ret])
        go_ret2
        exact ⟨by rw [HV.out]; rfl, HBR.out⟩

set_option maxRecDepth 100000 in
set_option maxHeartbeats 6400000 in
theorem resolve_impl (w : World) (v cv : Value) (f : F) (c : CrS.C) (p : ByteArray) (hc : FsF.cost f ≤ 1073741824) (hl : FsF.Lim f) (hv : InOk.Vars w) (hgl : c.groups.length ≤ 1073741824) (hp : p.size ≤ 1048576) (h : FsF.Holds w v f) (hC : CrF.Holds w cv c) :
    Calls Tryz.prog 36 #[v, cv, .string p] w fun e w' => e = .returned (.tuple #[.int .i64 (resolveV f c p).1, .int .i64 (resolveV f c p).2]) ∧ Below w.heap.size w w' := by
  obtain ⟨T, qa, Q, qc, ia, M, ic, da, D, dc, rfl⟩ := form_fs h
  obtain ⟨ga, gn, gc, rfl, hG⟩ := open_cr hC
  have HCR := Lib.hid hC
  have HGR := Lib.hid hG
  obtain ⟨U, hU⟩ : ∃ U, U = c.uid := ⟨_, rfl⟩
  obtain ⟨G, hG'⟩ : ∃ G, G = c.gid := ⟨_, rfl⟩
  rw [← hU, ← hG'] at HCR ⊢
  have HU := Lib.hid hU
  have HG := Lib.hid hG'
  clear hU hG' hG hC
  have HFS := Lib.hid h
  clear h
  obtain ⟨w0, hw0⟩ : ∃ w0, (w.alloc (.cells #[.int .i64 T, .slice qa Q qc, .slice ia M ic, .slice da D dc] 33)).alloc (.cells #[.int .i64 U, .int .i64 G, .slice ga gn gc] 54) = w0 := ⟨_, rfl⟩
  have hB : Below w.heap.size w w0 := by rw [← hw0]; exact ((Below.refl _ w).alloc (Nat.le_refl _) _).alloc (by simp) _
  have bF : Bk w0 w.heap.size #[.int .i64 T, .slice qa Q qc, .slice ia M ic, .slice da D dc] 33 := by rw [← hw0]; exact (new w _ _).alloc _
  have bC : Bk w0 (w.heap.size + 1) #[.int .i64 U, .int .i64 G, .slice ga gn gc] 54 := by
    have := new (w.alloc (.cells #[.int .i64 T, .slice qa Q qc, .slice ia M ic, .slice da D dc] 33)) #[.int .i64 U, .int .i64 G, .slice ga gn gc] 54
    rw [World.size_alloc, hw0] at this; exact this
  have HB := Lib.hid hB
  obtain ⟨x0, x1, x2, x3⟩ := Bk.c4 bF
  obtain ⟨y0, y1, y2⟩ := bC.three
  have HBF := Lib.hid bF
  have HBC := Lib.hid bC
  have HNA := Lib.hid (names_impl w0 _ _ f c p hc hl (hv.all hB) hgl hp (FsF.holds_below HFS.out hB) (CrF.holds_below HCR.out hB))
  obtain ⟨C, hCe⟩ : ∃ C, C = nmC f c p := ⟨_, rfl⟩
  rw [← hCe] at HNA
  by_cases hz : C = 0
  · have hall : okF f = true ∧ credB (tri c) = true ∧ (splitV p).2 = true := by
      rw [hz] at hCe
      unfold nmC at hCe
      split at hCe
      · rename_i h1
        split at hCe
        · rename_i h2; exact ⟨h1.1, h1.2, h2⟩
        · cases hCe
      · cases hCe
    have HL := Lib.hid (show nmL f c p = (splitV p).1 from if_pos hall)
    have HR := Lib.hid (show resolveV f c p = (((walkV f c (splitV p).1 0).1 : Int), (walkV f c (splitV p).1 0).2) from by unfold resolveV; rw [if_pos ⟨hall.1, hall.2.1⟩, if_pos hall.2.2])
    have HFO := Lib.hid (fun (W : World) (nv : Value) (hb : Below w.heap.size w W) (hN : SF.Holds W nv (splitV p).1) => follow_impl W _ _ nv f c (splitV p).1 hc hl (hv.all hb) hgl hall.1 (PaV.split_len p) (FsF.holds_below HFS.out hb) (CrF.holds_below HCR.out hb) hN)
    subst hz
    clear hCe hall hc hl hv hB bF bC
    go_enter Tryz.func36, Tryz.ntmps36
    go_wp2_with fail
    refine (HNA.out).mono ?_
    rintro e w2 ⟨na, nc, rfl, hcp, hN, hb2⟩
    rw [HL.out] at hN ⊢
    have HN := Lib.hid hN
    have HB2 := Lib.hid (HB.out.trans (hb2.mono HB.out.size))
    obtain ⟨x0, x1, x2, x3⟩ := Bk.c4 (HBF.out.all hb2)
    obtain ⟨y0, y1, y2⟩ := (HBC.out.all hb2).three
    clear hN hb2 hcp
    go_wp2_with fail
    refine (HFO.out _ _ HB2.out HN.out).mono ?_
    rintro e w3 ⟨rfl, hb3⟩
    have HB3 := Lib.hid (HB2.out.trans (hb3.mono HB2.out.size))
    clear hb3
    go_wp2
    go_ret2
    exact ⟨ret_ii (by rw [HR.out]) (by rw [HR.out]), HB3.out⟩
  · have HR := Lib.hid (show resolveV f c p = (0, C) from by
      unfold resolveV
      unfold nmC at hCe
      split at hCe
      · rename_i h1
        rw [if_pos h1]
        split at hCe
        · exact absurd hCe hz
        · rename_i h2; rw [if_neg h2, hCe]
      · rename_i h1; rw [if_neg h1, hCe])
    have q1 : (C != 0) = true := by simpa using hz
    have q2 : (C == 0) = false := by simpa using hz
    clear hCe hz hc hl hv hB bF bC
    go_enter Tryz.func36, Tryz.ntmps36
    go_wp2_with fail
    refine (HNA.out).mono ?_
    rintro e w2 ⟨na, nc, rfl, hcp, hN, hb2⟩
    have HB2 := Lib.hid (HB.out.trans (hb2.mono HB.out.size))
    clear hN hb2 hcp
    go_wp2
    go_ret2
    exact ⟨ret_ii (by rw [HR.out]) (by rw [HR.out]), HB2.out⟩

theorem last_getD {l : List ByteArray} (h : l ≠ []) : l.getLastD ⟨#[]⟩ = l.getD (l.length - 1) ⟨#[]⟩ := by
  rw [List.getLastD_eq_getLast?, List.getLast?_eq_getElem?, List.getD_eq_getElem?_getD]

set_option maxRecDepth 100000 in
set_option maxHeartbeats 6400000 in
theorem parent_impl (w : World) (v cv : Value) (f : F) (c : CrS.C) (p : ByteArray) (hc : FsF.cost f ≤ 1073741824) (hl : FsF.Lim f) (hv : InOk.Vars w) (hgl : c.groups.length ≤ 1073741824) (hp : p.size ≤ 1048576) (h : FsF.Holds w v f) (hC : CrF.Holds w cv c) :
    Calls Tryz.prog 38 #[v, cv, .string p] w fun e w' => e = .returned (.tuple #[.int .i64 (parentV f c p).1, .string (parentV f c p).2.1, .int .i64 (parentV f c p).2.2]) ∧ Below w.heap.size w w' := by
  obtain ⟨T, qa, Q, qc, ia, M, ic, da, D, dc, rfl⟩ := form_fs h
  obtain ⟨ga, gn, gc, rfl, hG⟩ := open_cr hC
  have HCR := Lib.hid hC
  have HGR := Lib.hid hG
  obtain ⟨U, hU⟩ : ∃ U, U = c.uid := ⟨_, rfl⟩
  obtain ⟨G, hG'⟩ : ∃ G, G = c.gid := ⟨_, rfl⟩
  rw [← hU, ← hG'] at HCR ⊢
  have HU := Lib.hid hU
  have HG := Lib.hid hG'
  clear hU hG' hG hC
  have HFS := Lib.hid h
  clear h
  obtain ⟨w0, hw0⟩ : ∃ w0, (w.alloc (.cells #[.int .i64 T, .slice qa Q qc, .slice ia M ic, .slice da D dc] 33)).alloc (.cells #[.int .i64 U, .int .i64 G, .slice ga gn gc] 54) = w0 := ⟨_, rfl⟩
  have hB : Below w.heap.size w w0 := by rw [← hw0]; exact ((Below.refl _ w).alloc (Nat.le_refl _) _).alloc (by simp) _
  have bF : Bk w0 w.heap.size #[.int .i64 T, .slice qa Q qc, .slice ia M ic, .slice da D dc] 33 := by rw [← hw0]; exact (new w _ _).alloc _
  have bC : Bk w0 (w.heap.size + 1) #[.int .i64 U, .int .i64 G, .slice ga gn gc] 54 := by
    have := new (w.alloc (.cells #[.int .i64 T, .slice qa Q qc, .slice ia M ic, .slice da D dc] 33)) #[.int .i64 U, .int .i64 G, .slice ga gn gc] 54
    rw [World.size_alloc, hw0] at this; exact this
  have HB := Lib.hid hB
  obtain ⟨x0, x1, x2, x3⟩ := Bk.c4 bF
  obtain ⟨y0, y1, y2⟩ := bC.three
  have HBF := Lib.hid bF
  have HBC := Lib.hid bC
  have HNA := Lib.hid (names_impl w0 _ _ f c p hc hl (hv.all hB) hgl hp (FsF.holds_below HFS.out hB) (CrF.holds_below HCR.out hB))
  obtain ⟨C, hCe⟩ : ∃ C, C = nmC f c p := ⟨_, rfl⟩
  rw [← hCe] at HNA
  by_cases hz : C = 0
  · have hall : okF f = true ∧ credB (tri c) = true ∧ (splitV p).2 = true := by
      rw [hz] at hCe
      unfold nmC at hCe
      split at hCe
      · rename_i h1
        split at hCe
        · rename_i h2; exact ⟨h1.1, h1.2, h2⟩
        · cases hCe
      · cases hCe
    have hL8 := PaV.split_len p
    have HL := Lib.hid (show nmL f c p = (splitV p).1 from if_pos hall)
    have HR0 := Lib.hid (show (splitV p).1 = [] → parentV f c p = (0, ⟨#[]⟩, 11) from fun h => by
      unfold parentV; rw [if_pos ⟨hall.1, hall.2.1⟩, if_neg (fun hh => hh.2 h)])
    have HR1 := Lib.hid (show (splitV p).1 ≠ [] → (walkV f c (splitV p).1.dropLast 0).2 ≠ 0 → parentV f c p = (0, ⟨#[]⟩, (walkV f c (splitV p).1.dropLast 0).2) from fun h h1 => by
      unfold parentV; rw [if_pos ⟨hall.1, hall.2.1⟩, if_pos ⟨hall.2.2, h⟩, if_neg h1])
    have HR2 := Lib.hid (show (splitV p).1 ≠ [] → (walkV f c (splitV p).1.dropLast 0).2 = 0 → passC f c (walkV f c (splitV p).1.dropLast 0).1 ≠ 0 → parentV f c p = (0, ⟨#[]⟩, passC f c (walkV f c (splitV p).1.dropLast 0).1) from fun h h1 h2 => by
      unfold parentV; rw [if_pos ⟨hall.1, hall.2.1⟩, if_pos ⟨hall.2.2, h⟩, if_pos h1, if_neg h2])
    have HR3 := Lib.hid (show (splitV p).1 ≠ [] → (walkV f c (splitV p).1.dropLast 0).2 = 0 → passC f c (walkV f c (splitV p).1.dropLast 0).1 = 0 → parentV f c p = (((walkV f c (splitV p).1.dropLast 0).1 : Int), (splitV p).1.getLastD ⟨#[]⟩, 0) from fun h h1 h2 => by
      unfold parentV; rw [if_pos ⟨hall.1, hall.2.1⟩, if_pos ⟨hall.2.2, h⟩, if_pos h1, if_pos h2])
    obtain ⟨L, hLe⟩ : ∃ L, L = (splitV p).1 := ⟨_, rfl⟩
    rw [← hLe] at HL HR0 HR1 HR2 HR3 hL8
    have HFO := Lib.hid (fun (W : World) (nv : Value) (hb : Below w.heap.size w W) (hN : SF.Holds W nv L.dropLast) => follow_impl W _ _ nv f c L.dropLast hc hl (hv.all hb) hgl hall.1 (by rw [List.length_dropLast]; omega) (FsF.holds_below HFS.out hb) (CrF.holds_below HCR.out hb) hN)
    obtain ⟨R, hR⟩ : ∃ R, R = walkV f c L.dropLast 0 := ⟨_, rfl⟩
    have hR20 : R.1 < 20 := by rw [hR]; exact walk_lt (by decide)
    rw [← hR] at HFO HR1 HR2 HR3
    obtain ⟨d, e2⟩ := R
    dsimp only at HFO HR1 HR2 HR3 hR20
    have HPA := Lib.hid (fun (W : World) (hb : Below w.heap.size w W) => show Calls Tryz.prog 88 #[.agg #[.int .i64 T, .slice qa Q qc, .slice ia M ic, .slice da D dc], .agg #[.int .i64 U, .int .i64 G, .slice ga gn gc], .int .i64 d] W fun e w' => e = .returned (.int .i64 (passC f c d)) ∧ Below W.heap.size W w' from pass_impl W _ _ f c d hgl hall.1 hR20 (FsF.holds_below HFS.out hb) (CrF.holds_below HCR.out hb))
    obtain ⟨PC, hPC⟩ : ∃ PC, PC = passC f c d := ⟨_, rfl⟩
    rw [← hPC] at HPA HR2 HR3
    have HLA := Lib.hid (fun (h : L ≠ []) => last_getD h)
    subst hz
    clear hCe hall hc hl hv hB bF bC hR hPC hLe
    go_enter Tryz.func38, Tryz.ntmps38
    go_wp2_with fail
    refine (HNA.out).mono ?_
    rintro e w2 ⟨na, nc, rfl, hcp, hN, hb2⟩
    rw [HL.out] at hN hcp ⊢
    have HN := Lib.hid hN
    have HB2 := Lib.hid (HB.out.trans (hb2.mono HB.out.size))
    have HBF2 := Lib.hid (HBF.out.all hb2)
    have HBC2 := Lib.hid (HBC.out.all hb2)
    obtain ⟨n, hn⟩ : ∃ n, n = L.length := ⟨_, rfl⟩
    rw [← hn] at hcp hL8 HN ⊢
    have HNL := Lib.hid hn
    clear hN hb2 x0 x1 x2 x3 y0 y1 y2 hn
    by_cases h0 : n = 0
    · have HV := Lib.hid (HR0.out (List.eq_nil_of_length_eq_zero (by rw [← HNL.out]; exact h0)))
      subst h0
      go_wp2
      go_ret3
      exact ⟨ret_isi (by rw [HV.out]) (by rw [HV.out]) (by rw [HV.out]), HB2.out⟩
    · have hne : L ≠ [] := fun h => h0 (by rw [HNL.out, h]; rfl)
      have HNE := Lib.hid hne
      obtain ⟨m, rfl⟩ : ∃ m, n = m + 1 := ⟨n - 1, by omega⟩
      have hw1 : IntKind.i64.wrap (((m + 1 : Nat) : Int) - 1) = (m : Int) := by rw [IntWalk.i64_in _ (by omega)]; omega
      have hm0 : ¬ ((m : Int) < 0) := by omega
      have hm1 : decide ((m : Int) < 0) = false := decide_eq_false hm0
      have hm2 : (0 : Int) ≤ m := by omega
      have hm3 : (m : Int) ≤ nc := by omega
      have hPX := prefix_holds HN.out HNL.out nc
      rw [Nat.add_sub_cancel] at hPX
      have HPX := Lib.hid hPX
      have hsl : ∀ W : World, (Instr.slice 24 (.slice na (m + 1) nc) none (some (.int .i64 (m : Int))) none).run Tryz.prog W = .ok (.slice na m nc) W := fun W => by
        simp [Instr.slice, run_underlying Tryz.underlying24, Instr.sliceBounds, run_sliceBound, hm2, hm3, go_sem]
      have x0 := Fam.cell (W := w2) (p := ⟨w.heap.size, 0, none⟩) HBF2.out.lt (show _ = some (.int .i64 T) from HBF2.out.cell 0)
      have x1 := Fam.cell (W := w2) (p := ⟨w.heap.size, 1, none⟩) HBF2.out.lt (show _ = some (.slice qa Q qc) from HBF2.out.cell 1)
      have x2 := Fam.cell (W := w2) (p := ⟨w.heap.size, 2, none⟩) HBF2.out.lt (show _ = some (.slice ia M ic) from HBF2.out.cell 2)
      have x3 := Fam.cell (W := w2) (p := ⟨w.heap.size, 3, none⟩) HBF2.out.lt (show _ = some (.slice da D dc) from HBF2.out.cell 3)
      have y0 := Fam.cell (W := w2) (p := ⟨w.heap.size + 1, 0, none⟩) HBC2.out.lt (show _ = some (.int .i64 U) from HBC2.out.cell 0)
      have y1 := Fam.cell (W := w2) (p := ⟨w.heap.size + 1, 1, none⟩) HBC2.out.lt (show _ = some (.int .i64 G) from HBC2.out.cell 1)
      have y2 := Fam.cell (W := w2) (p := ⟨w.heap.size + 1, 2, none⟩) HBC2.out.lt (show _ = some (.slice ga gn gc) from HBC2.out.cell 2)
      have HFW := Lib.hid (fun (n : Fam.Ix w2) => HFO.out (Fam.wld w2 n) (.slice na m nc) (HB2.out.trans ((Fam.wld_below w2 n).mono HB2.out.size)) (SF.holds_below HPX.out (Fam.wld_below w2 n)))
      clear h0 hne hPX
      go_wp2
      refine Fam.region (by kernel_rfl) (by kernel_rfl) ?_
      repeat (go_big_quiet_step (first | (go_at_call 87; with_reducible refine Fam.calls (HFW.out _))))
      refine wpQuiet_nil ?_
      intro _ hw'
      obtain ⟨nq, hw''⟩ := hw'
      subst hw''
      have hbq := Fam.wld_below _ nq
      generalize Fam.wld _ nq = w3 at hbq ⊢
      have HB3 := Lib.hid (HB2.out.trans (hbq.mono HB2.out.size))
      have HN3 := Lib.hid (SF.holds_below HN.out hbq)
      clear x0 x1 x2 x3 y0 y1 y2 hsl
      by_cases hz1 : e2 = 0
      · subst hz1
        obtain ⟨x0, x1, x2, x3⟩ := Bk.c4 (HBF2.out.all hbq)
        obtain ⟨y0, y1, y2⟩ := (HBC2.out.all hbq).three
        clear hbq
        go_wp2_with fail
        refine (HPA.out _ HB3.out).mono ?_
        rintro e w4 ⟨rfl, hb4⟩
        have HB4 := Lib.hid (HB3.out.trans (hb4.mono HB3.out.size))
        have HN4 := Lib.hid (SF.holds_below HN3.out hb4)
        clear x0 x1 x2 x3 y0 y1 y2 hb4
        by_cases hz2 : PC = 0
        · have HV := Lib.hid (HR3.out HNE.out (by trivial) hz2)
          rw [HLA.out HNE.out] at HV
          obtain ⟨b1, o1, rfl, hlb, hyc⟩ : ∃ b o, na = some ⟨b, o, none⟩ ∧ b < w4.heap.size ∧ w4.cell? ⟨b, o + m, none⟩ = some (.string (L.getD m ⟨#[]⟩)) := by
            obtain ⟨a', c', e', hc'⟩ := HN4.out
            obtain ⟨b, o, rfl, hlb, hcell⟩ := hc' HNE.out
            rw [Value.slice.injEq] at e'
            exact ⟨b, o, e'.1, hlb, hcell m (by rw [← HNL.out]; omega)⟩
          have HLM := Lib.hid (show L.length - 1 = m from by rw [← HNL.out]; omega)
          rw [HLM.out] at HV
          generalize L.getD m ⟨#[]⟩ = y at hyc HV
          have hm4 : (m : Int) < ((m + 1 : Nat) : Int) := by omega
          have z0 := Fam.cell (W := w4) (p := ⟨b1, o1 + m, none⟩) hlb hyc
          subst hz2
          clear hyc
          go_wp2
          refine Fam.region (by kernel_rfl) (by kernel_rfl) ?_
          repeat (go_big_quiet_step (fail))
          refine wpQuiet_nil ?_
          intro _ hw'
          obtain ⟨nq, hw''⟩ := hw'
          subst hw''
          have hbq := Fam.wld_below _ nq
          generalize Fam.wld _ nq = w5 at hbq ⊢
          have HB5 := Lib.hid (HB4.out.trans (hbq.mono HB4.out.size))
          clear hbq z0
          go_wp2
          go_ret3
          exact ⟨ret_isi (by rw [HV.out]) (by rw [HV.out]) (by rw [HV.out]), HB5.out⟩
        · have HV := Lib.hid (HR2.out HNE.out (by trivial) hz2)
          have q1 : (PC != 0) = true := by simpa using hz2
          have q2 : (PC == 0) = false := by simpa using hz2
          clear hz2
          go_wp2
          go_ret3
          exact ⟨ret_isi (by rw [HV.out]) (by rw [HV.out]) (by rw [HV.out]), HB4.out⟩
      · have HV := Lib.hid (HR1.out HNE.out hz1)
        have q1 : (e2 != 0) = true := by simpa using hz1
        have q2 : (e2 == 0) = false := by simpa using hz1
        clear hz1 hbq
        go_wp2
        go_ret3
        exact ⟨ret_isi (by rw [HV.out]) (by rw [HV.out]) (by rw [HV.out]), HB3.out⟩
  · have HR := Lib.hid (show parentV f c p = (0, ⟨#[]⟩, C) from by
      unfold parentV
      unfold nmC at hCe
      split at hCe
      · rename_i h1
        rw [if_pos h1]
        split at hCe
        · exact absurd hCe hz
        · rename_i h2; rw [if_neg (fun h => h2 h.1), hCe]
      · rename_i h1; rw [if_neg h1, hCe])
    have q1 : (C != 0) = true := by simpa using hz
    have q2 : (C == 0) = false := by simpa using hz
    clear hCe hz hc hl hv hB bF bC
    go_enter Tryz.func38, Tryz.ntmps38
    go_wp2_with fail
    refine (HNA.out).mono ?_
    rintro e w2 ⟨na, nc, rfl, hcp, hN, hb2⟩
    have HB2 := Lib.hid (HB.out.trans (hb2.mono HB.out.size))
    clear hN hb2 hcp
    go_wp2
    go_ret3
    exact ⟨ret_isi (by rw [HR.out]) (by rw [HR.out]) (by rw [HR.out]), HB2.out⟩
end Go.Proofs.YthppbcnejapbiaaGreatDoor.PwR

-- YthppbcnejapbiaaGreatDoorPwS
/- Contracts: the model's l11Walk, ResolvePath and ResolveParent. Conditions: as each theorem types them. -/
namespace Go.Proofs.YthppbcnejapbiaaGreatDoor.PwS
open Go.ChangeShapes Go.WideShapes Go.ChangeAt Go.RowKit
open Foot Bx
open InoV (I)
open FsV (F okF)
open FsY (ino hasObjB)
open FsZ (GoodF)
open CredV (allowedV credB)
open CrS (tri)
open PaV (splitV)
open PwV PwA PwM OpF
open EnV EnF
open PwR (ret_ii ret_isi drop_at own_cap prefix_holds last_getD)
set_option linter.unusedVariables false

theorem pass_no {f : F} {c : CrS.C} {k : Nat} (h : (ino f k).kind ≠ 2) : passC f c k = 5 := by unfold passC; rw [if_neg h]
theorem pass_acc {f : F} {c : CrS.C} {k : Nat} (h : (ino f k).kind = 2) (h2 : accB f c k 1 = false) : passC f c k = 2 := by unfold passC; rw [if_pos h, if_neg (by rw [h2]; simp)]
theorem pass_ok {f : F} {c : CrS.C} {k : Nat} (h : (ino f k).kind = 2) (h2 : accB f c k 1 = true) : passC f c k = 0 := by unfold passC; rw [if_pos h, if_pos h2]

set_option maxRecDepth 100000 in
set_option maxHeartbeats 6400000 in
theorem walk_spec (w : World) (v cv nv : Value) (f : F) (c : CrS.C) (names : List ByteArray) (hgl : c.groups.length ≤ 1073741824) (hok : okF f = true) (hn : names.length ≤ 8) (h : FsF.Holds w v f) (hC : CrF.Holds w cv c) (hN : SF.Holds w nv names) :
    Calls Tryz.prog 85 #[v, cv, nv] w fun e w' => e = .returned (.tuple #[.int .i64 ((walkV f c names 0).1 : Int), .int .i64 (walkV f c names 0).2]) ∧ Below w.heap.size w w' := by
  obtain ⟨T, qa, Q, qc, b, o, ic, da, D, dc, rfl, hb, hic, hat⟩ := open_fs hok h
  have HFS := Lib.hid h
  have HAT := Lib.hid hat
  have HHB := Lib.hid hb
  clear h hat hb
  obtain ⟨ga, gn, gc, rfl, hG⟩ := open_cr hC
  have HCR := Lib.hid hC
  have HGR := Lib.hid hG
  obtain ⟨U, hU⟩ : ∃ U, U = c.uid := ⟨_, rfl⟩
  obtain ⟨G, hG'⟩ : ∃ G, G = c.gid := ⟨_, rfl⟩
  rw [← hU, ← hG'] at HCR ⊢
  have HU := Lib.hid hU
  have HG := Lib.hid hG'
  clear hU hG' hG hC
  obtain ⟨na, nc, rfl⟩ := SF.form hN
  have HNM := Lib.hid hN
  clear hN
  obtain ⟨w0, hw0⟩ : ∃ w0, (w.alloc (.cells #[.int .i64 T, .slice qa Q qc, .slice (some ⟨b, o, none⟩) 20 ic, .slice da D dc] 33)).alloc (.cells #[.int .i64 U, .int .i64 G, .slice ga gn gc] 54) = w0 := ⟨_, rfl⟩
  have hB : Below w.heap.size w w0 := by rw [← hw0]; exact ((Below.refl _ w).alloc (Nat.le_refl _) _).alloc (by simp) _
  have bF : Bk w0 w.heap.size #[.int .i64 T, .slice qa Q qc, .slice (some ⟨b, o, none⟩) 20 ic, .slice da D dc] 33 := by rw [← hw0]; exact (new w _ _).alloc _
  have bC : Bk w0 (w.heap.size + 1) #[.int .i64 U, .int .i64 G, .slice ga gn gc] 54 := by
    have := new (w.alloc (.cells #[.int .i64 T, .slice qa Q qc, .slice (some ⟨b, o, none⟩) 20 ic, .slice da D dc] 33)) #[.int .i64 U, .int .i64 G, .slice ga gn gc] 54
    rw [World.size_alloc, hw0] at this; exact this
  have HB := Lib.hid hB
  have HFI := Lib.hid (fun (W : World) (hb : Below w.heap.size w W) (k : Nat) (hk : k < 20) (s : ByteArray) => EnT.l10find W _ f k s ⟨hok, hk⟩ (FsF.holds_below HFS.out hb))
  have HMA := Lib.hid (fun (W : World) (hb : Below w.heap.size w W) (k : Nat) (hk : k < 20) => show Calls Tryz.prog 78 #[.agg #[.int .i64 T, .slice qa Q qc, .slice (some ⟨b, o, none⟩) 20 ic, .slice da D dc], .agg #[.int .i64 U, .int .i64 G, .slice ga gn gc], .int .i64 k, .int .i64 1] W fun e w' => e = .returned (.bool (accB f c k 1)) ∧ Below W.heap.size W w' from may_l11 W _ _ f c k 1 hgl hok hk (FsF.holds_below HFS.out hb) (CrF.holds_below HCR.out hb))
  have HBF := Lib.hid bF
  have HBC := Lib.hid bC
  obtain ⟨W0, hW0⟩ : ∃ W, W = walkV f c names 0 := ⟨_, rfl⟩
  rw [← hW0]
  have HW0 := Lib.hid hW0
  obtain ⟨n, hn'⟩ : ∃ n, n = names.length := ⟨_, rfl⟩
  rw [← hn'] at hn ⊢
  have HN := Lib.hid hn'
  clear hW0 hn' bF bC hB hgl hok
  go_enter Tryz.func85, Tryz.ntmps85
  go_wp2
  go_loopw [8, 15] (fun av iv wr => ∃ (j at_ : Nat), j ≤ n ∧ at_ < 20 ∧ iv = .int .i64 j ∧ av = .int .i64 at_ ∧ W0 = walkV f c (names.drop j) at_ ∧ Below w0.heap.size w0 wr) (fun _ iv _ => n - (intOf iv).toNat)
  case atStart => exact ⟨0, 0, Nat.zero_le _, by decide, rfl, rfl, by rw [List.drop_zero]; exact HW0.out, Below.refl _ _⟩
  case round =>
    obtain ⟨j, k, hj, hk, rfl, rfl, hW, hbel⟩ := hrel
    have HW := Lib.hid hW
    have HBE := Lib.hid hbel
    have HBR := Lib.hid (HB.out.trans (hbel.mono HB.out.size))
    obtain ⟨x0, x1, x2, x3⟩ := Bk.c4 (HBF.out.all hbel)
    obtain ⟨y0, y1, y2⟩ := (HBC.out.all hbel).three
    obtain ⟨r0, r1, r2, hCl, _⟩ := HAT.out k hk
    have hk0 := hCl.1
    rw [← HBR.out.cell (p := ⟨b, _, none⟩) HHB.out] at hk0
    have h0 : (0 : Int) ≤ k := by omega
    have h1 : (k : Int) < 20 := by omega
    obtain ⟨K, hK⟩ : ∃ K, K = (ino f k).kind := ⟨_, rfl⟩
    rw [← hK] at hk0
    have HK := Lib.hid hK
    clear hW hbel hK hCl
    by_cases hlt : j < n
    · have hlt2 : j < names.length := by rw [← HN.out]; exact hlt
      obtain ⟨b1, o1, rfl, hnc⟩ : ∃ b o, na = some ⟨b, o, none⟩ ∧ wr.cell? ⟨b, o + j, none⟩ = some (.string (names.getD j ⟨#[]⟩)) := by
        obtain ⟨a', c', e', hc'⟩ := SF.holds_below HNM.out HBR.out
        obtain ⟨b', o', rfl, _, hcell⟩ := hc' (fun h => by rw [h] at hlt2; simp at hlt2)
        rw [Value.slice.injEq] at e'
        exact ⟨b', o', e'.1, hcell j hlt2⟩
      have HDR := Lib.hid (drop_at hlt2)
      obtain ⟨s, hs⟩ : ∃ s, names.getD j ⟨#[]⟩ = s := ⟨_, rfl⟩
      rw [hs] at hnc HDR
      clear hs hlt2
      by_cases hz : K = 2
      · subst hz
        have HM1 := Lib.hid (HMA.out wr HBR.out k hk)
        obtain ⟨A, hA⟩ : ∃ A, A = accB f c k 1 := ⟨_, rfl⟩
        rw [← hA] at HM1
        cases A with
        | false =>
          have HV := Lib.hid (show W0 = (0, 2) from by
            have hp := pass_acc HK.out.symm hA.symm
            rw [HW.out, HDR.out, walk_stop (by rw [hp]; decide), hp])
          clear hA
          go_wp2_with fail
          refine (HM1.out).mono ?_
          rintro e w2 ⟨rfl, hb2⟩
          have HB2 := Lib.hid (HBR.out.trans (hb2.mono HBR.out.size))
          clear hb2
          go_wp2
          go_ret2
          exact ⟨ret_ii (by rw [HV.out]; rfl) (by rw [HV.out]), HB2.out⟩
        | true =>
          have hp := pass_ok HK.out.symm hA.symm
          have HF1 := Lib.hid (fun (W : World) (hb : Below w.heap.size w W) => HFI.out W hb k hk s)
          obtain ⟨R, hR⟩ : ∃ R, R = findL (entsV f k) s := ⟨_, rfl⟩
          rw [← hR] at HF1
          cases R with
          | none =>
            have HV := Lib.hid (show W0 = (0, 3) from by rw [HW.out, HDR.out]; exact walk_miss hp hR.symm)
            unfold EnT.ansV at HF1
            rw [show ((none : Option (ByteArray × Int)).map (·.2)).getD 0 = 0 from rfl, show ((none : Option (ByteArray × Int)).map (·.2)).isSome = false from rfl] at HF1
            clear hA hp hR
            go_wp2_with fail
            refine (HM1.out).mono ?_
            rintro e w2 ⟨rfl, hb2⟩
            have HB2 := Lib.hid (HBR.out.trans (hb2.mono HBR.out.size))
            obtain ⟨x0, x1, x2, x3⟩ := Bk.c4 (HBF.out.all (HBE.out.trans (hb2.mono HBE.out.size)))
            clear hb2
            go_wp2_with fail
            refine (HF1.out _ HB2.out).mono ?_
            rintro e w3 ⟨rfl, hb3⟩
            have HB3 := Lib.hid (HB2.out.trans (hb3.mono HB2.out.size))
            clear hb3 x0 x1 x2 x3 y0 y1 y2
            go_wp2
            go_ret2
            exact ⟨ret_ii (by rw [HV.out]; rfl) (by rw [HV.out]), HB3.out⟩
          | some e1 =>
            obtain ⟨hz2, hz3⟩ := find_in hR.symm
            have HV := Lib.hid (show W0 = walkV f c (names.drop (j + 1)) e1.2.toNat from by rw [HW.out, HDR.out]; exact walk_go hp hR.symm)
            obtain ⟨q, hq⟩ : ∃ q, q = e1.2.toNat := ⟨_, rfl⟩
            rw [← hq] at HV hz2 hz3
            unfold EnT.ansV at HF1
            rw [show ((some e1).map (·.2)).getD 0 = e1.2 from rfl, show ((some e1).map (·.2)).isSome = true from rfl, ← hz3] at HF1
            clear hA hp hR hq hz3
            go_wp2_with fail
            refine (HM1.out).mono ?_
            rintro e w2 ⟨rfl, hb2⟩
            have HB2 := Lib.hid (HBR.out.trans (hb2.mono HBR.out.size))
            have HBE2 := Lib.hid (HBE.out.trans (hb2.mono HBE.out.size))
            obtain ⟨x0, x1, x2, x3⟩ := Bk.c4 (HBF.out.all HBE2.out)
            clear hb2
            go_wp2_with fail
            refine (HF1.out _ HB2.out).mono ?_
            rintro e w3 ⟨rfl, hb3⟩
            have HBE3 := Lib.hid (HBE2.out.trans (hb3.mono HBE2.out.size))
            clear hb3 x0 x1 x2 x3 y0 y1 y2
            go_wp2
            go_roundw
            case rel => exact ⟨j + 1, q, by omega, hz2, by go_num, rfl, HV.out, HBE3.out⟩
            case measure => simp [intOf]; omega
      · have HV := Lib.hid (show W0 = (0, 5) from by
          have hp := pass_no (c := c) (show (ino f k).kind ≠ 2 from by rw [← HK.out]; exact hz)
          rw [HW.out, HDR.out, walk_stop (by rw [hp]; decide), hp])
        have q1 : (K != 2) = true := by simpa using hz
        have q2 : (K == 2) = false := by simpa using hz
        clear hz
        go_wp2
        go_ret2
        exact ⟨ret_ii (by rw [HV.out]; rfl) (by rw [HV.out]), HBR.out⟩
    · obtain rfl : j = n := by omega
      have HNL := Lib.hid (show names.drop j = [] from List.drop_of_length_le (by rw [HN.out]; exact Nat.le_refl _))
      by_cases hz : K = 0
      · have HV := Lib.hid (show W0 = (0, 3) from by rw [HW.out, HNL.out]; exact walk_nil_no (by rw [← HK.out]; exact hz))
        subst hz
        go_wp2
        go_ret2
        exact ⟨ret_ii (by rw [HV.out]; rfl) (by rw [HV.out]), HBR.out⟩
      · have HV := Lib.hid (show W0 = (k, 0) from by rw [HW.out, HNL.out]; exact walk_nil (by rw [← HK.out]; exact hz))
        have q1 : (K == 0) = false := by simpa using hz
        clear hz
        go_wp2
        go_ret2
        exact ⟨ret_ii (by rw [HV.out]) (by rw [HV.out]), HBR.out⟩

set_option maxRecDepth 100000 in
set_option maxHeartbeats 6400000 in
theorem resolve_spec (w : World) (v cv : Value) (f : F) (c : CrS.C) (p : ByteArray) (hc : FsF.cost f ≤ 1073741824) (hl : FsF.Lim f) (hgl : c.groups.length ≤ 1073741824) (hp : p.size ≤ 1048576) (h : FsF.Holds w v f) (hC : CrF.Holds w cv c) :
    Calls Tryz.prog 35 #[v, cv, .string p] w fun e w' => e = .returned (.tuple #[.int .i64 (resolveV f c p).1, .int .i64 (resolveV f c p).2]) ∧ Below w.heap.size w w' := by
  obtain ⟨T, qa, Q, qc, ia, M, ic, da, D, dc, rfl⟩ := form_fs h
  obtain ⟨ga, gn, gc, rfl, hG⟩ := open_cr hC
  have HCR := Lib.hid hC
  have HGR := Lib.hid hG
  obtain ⟨U, hU⟩ : ∃ U, U = c.uid := ⟨_, rfl⟩
  obtain ⟨G, hG'⟩ : ∃ G, G = c.gid := ⟨_, rfl⟩
  rw [← hU, ← hG'] at HCR ⊢
  have HU := Lib.hid hU
  have HG := Lib.hid hG'
  clear hU hG' hG hC
  have HFS := Lib.hid h
  clear h
  obtain ⟨w0, hw0⟩ : ∃ w0, (w.alloc (.cells #[.int .i64 T, .slice qa Q qc, .slice ia M ic, .slice da D dc] 33)).alloc (.cells #[.int .i64 U, .int .i64 G, .slice ga gn gc] 54) = w0 := ⟨_, rfl⟩
  have hB : Below w.heap.size w w0 := by rw [← hw0]; exact ((Below.refl _ w).alloc (Nat.le_refl _) _).alloc (by simp) _
  have bF : Bk w0 w.heap.size #[.int .i64 T, .slice qa Q qc, .slice ia M ic, .slice da D dc] 33 := by rw [← hw0]; exact (new w _ _).alloc _
  have bC : Bk w0 (w.heap.size + 1) #[.int .i64 U, .int .i64 G, .slice ga gn gc] 54 := by
    have := new (w.alloc (.cells #[.int .i64 T, .slice qa Q qc, .slice ia M ic, .slice da D dc] 33)) #[.int .i64 U, .int .i64 G, .slice ga gn gc] 54
    rw [World.size_alloc, hw0] at this; exact this
  have HB := Lib.hid hB
  have HBF := Lib.hid bF
  have HBC := Lib.hid bC
  obtain ⟨B, hBe⟩ : ∃ B, B = okF f := ⟨_, rfl⟩
  have HIS := Lib.hid (fun (W : World) (hb : Below w.heap.size w W) => show Calls Tryz.prog 73 #[.agg #[.int .i64 T, .slice qa Q qc, .slice ia M ic, .slice da D dc]] W fun e w' => e = .returned (.bool B) ∧ Below W.heap.size W w' from by rw [hBe]; exact FsS.is_spec W _ f hc hl (FsF.holds_below HFS.out hb))
  have HBE := Lib.hid hBe
  obtain ⟨K, hKe⟩ : ∃ K, K = credB (tri c) := ⟨_, rfl⟩
  have HIC := Lib.hid (fun (W : World) (hb : Below w.heap.size w W) => show Calls Tryz.prog 84 #[.agg #[.int .i64 U, .int .i64 G, .slice ga gn gc]] W fun e w' => e = .returned (.bool K) ∧ Below W.heap.size W w' from by rw [hKe, HU.out, HG.out]; exact CrI.cred_spec W c.uid c.gid (.slice ga gn gc) c.groups hgl (NiF.holds_below HGR.out hb).old)
  have HKE := Lib.hid hKe
  obtain ⟨L, hL⟩ : ∃ L, L = (splitV p).1 := ⟨_, rfl⟩
  obtain ⟨E, hE⟩ : ∃ E, E = (splitV p).2 := ⟨_, rfl⟩
  have HSP := Lib.hid (PaT.split_spec p w0 hp)
  unfold PaS.Post at HSP
  rw [← hL, ← hE] at HSP
  have HLE := Lib.hid hL
  have HEE := Lib.hid hE
  have hL8 := PaV.split_len p
  rw [← hL] at hL8
  cases B
  · have HR := Lib.hid (show resolveV f c p = (0, 1) from if_neg (fun h => by have := h.1; rw [← hBe] at this; cases this))
    clear hBe hKe hL hE hB bF bC
    go_enter Tryz.func35, Tryz.ntmps35
    go_wp2_with fail
    refine (HSP.out).mono ?_
    rintro e w2 ⟨nv, S, rfl, hown, hb2⟩
    have HH := Lib.hid (TlF.own_holds hown)
    obtain ⟨na, nc, rfl, hcp⟩ := own_cap hown
    have HCP := Lib.hid hcp
    have HB2 := Lib.hid (HB.out.trans (hb2.mono HB.out.size))
    have HBF2 := Lib.hid (HBF.out.all hb2)
    have HBC2 := Lib.hid (HBC.out.all hb2)
    obtain ⟨x0, x1, x2, x3⟩ := Bk.c4 HBF2.out
    clear hown hb2 hcp
    go_wp2_with fail
    refine (HIS.out _ HB2.out).mono ?_
    rintro e w3 ⟨rfl, hb3⟩
    have HB3 := Lib.hid (HB2.out.trans (hb3.mono HB2.out.size))
    have HH3 := Lib.hid (SF.holds_below HH.out hb3)
    have HBF3 := Lib.hid (HBF2.out.all hb3)
    have HBC3 := Lib.hid (HBC2.out.all hb3)
    obtain ⟨y0, y1, y2⟩ := HBC3.out.three
    clear hb3 x0 x1 x2 x3
    go_wp2
    go_ret2
    exact ⟨ret_ii (by rw [HR.out]) (by rw [HR.out]), HB3.out⟩
  · cases K
    · have HR := Lib.hid (show resolveV f c p = (0, 1) from if_neg (fun h => by have := h.2; rw [← hKe] at this; cases this))
      clear hBe hKe hL hE hB bF bC
      go_enter Tryz.func35, Tryz.ntmps35
      go_wp2_with fail
      refine (HSP.out).mono ?_
      rintro e w2 ⟨nv, S, rfl, hown, hb2⟩
      have HH := Lib.hid (TlF.own_holds hown)
      obtain ⟨na, nc, rfl, hcp⟩ := own_cap hown
      have HCP := Lib.hid hcp
      have HB2 := Lib.hid (HB.out.trans (hb2.mono HB.out.size))
      have HBF2 := Lib.hid (HBF.out.all hb2)
      have HBC2 := Lib.hid (HBC.out.all hb2)
      obtain ⟨x0, x1, x2, x3⟩ := Bk.c4 HBF2.out
      clear hown hb2 hcp
      go_wp2_with fail
      refine (HIS.out _ HB2.out).mono ?_
      rintro e w3 ⟨rfl, hb3⟩
      have HB3 := Lib.hid (HB2.out.trans (hb3.mono HB2.out.size))
      have HH3 := Lib.hid (SF.holds_below HH.out hb3)
      have HBF3 := Lib.hid (HBF2.out.all hb3)
      have HBC3 := Lib.hid (HBC2.out.all hb3)
      obtain ⟨y0, y1, y2⟩ := HBC3.out.three
      clear hb3 x0 x1 x2 x3
      go_wp2_with fail
      refine (HIC.out _ HB3.out).mono ?_
      rintro e w4 ⟨rfl, hb4⟩
      have HB4 := Lib.hid (HB3.out.trans (hb4.mono HB3.out.size))
      have HH4 := Lib.hid (SF.holds_below HH3.out hb4)
      have HBF4 := Lib.hid (HBF3.out.all hb4)
      have HBC4 := Lib.hid (HBC3.out.all hb4)
      clear hb4 y0 y1 y2
      go_wp2
      go_ret2
      exact ⟨ret_ii (by rw [HR.out]) (by rw [HR.out]), HB4.out⟩
    · cases E
      · have HR := Lib.hid (show resolveV f c p = (0, 11) from by unfold resolveV; rw [if_pos ⟨hBe.symm, hKe.symm⟩, ← hE]; rfl)
        clear hBe hKe hL hE hB bF bC
        go_enter Tryz.func35, Tryz.ntmps35
        go_wp2_with fail
        refine (HSP.out).mono ?_
        rintro e w2 ⟨nv, S, rfl, hown, hb2⟩
        have HH := Lib.hid (TlF.own_holds hown)
        obtain ⟨na, nc, rfl, hcp⟩ := own_cap hown
        have HCP := Lib.hid hcp
        have HB2 := Lib.hid (HB.out.trans (hb2.mono HB.out.size))
        have HBF2 := Lib.hid (HBF.out.all hb2)
        have HBC2 := Lib.hid (HBC.out.all hb2)
        obtain ⟨x0, x1, x2, x3⟩ := Bk.c4 HBF2.out
        clear hown hb2 hcp
        go_wp2_with fail
        refine (HIS.out _ HB2.out).mono ?_
        rintro e w3 ⟨rfl, hb3⟩
        have HB3 := Lib.hid (HB2.out.trans (hb3.mono HB2.out.size))
        have HH3 := Lib.hid (SF.holds_below HH.out hb3)
        have HBF3 := Lib.hid (HBF2.out.all hb3)
        have HBC3 := Lib.hid (HBC2.out.all hb3)
        obtain ⟨y0, y1, y2⟩ := HBC3.out.three
        clear hb3 x0 x1 x2 x3
        go_wp2_with fail
        refine (HIC.out _ HB3.out).mono ?_
        rintro e w4 ⟨rfl, hb4⟩
        have HB4 := Lib.hid (HB3.out.trans (hb4.mono HB3.out.size))
        have HH4 := Lib.hid (SF.holds_below HH3.out hb4)
        have HBF4 := Lib.hid (HBF3.out.all hb4)
        have HBC4 := Lib.hid (HBC3.out.all hb4)
        clear hb4 y0 y1 y2
        go_wp2
        go_ret2
        exact ⟨ret_ii (by rw [HR.out]) (by rw [HR.out]), HB4.out⟩
      · have HR := Lib.hid (show resolveV f c p = (((walkV f c L 0).1 : Int), (walkV f c L 0).2) from by unfold resolveV; rw [if_pos ⟨hBe.symm, hKe.symm⟩, ← hE, hL]; rfl)
        have HWA := Lib.hid (fun (W : World) (nv : Value) (hb : Below w.heap.size w W) (hN : SF.Holds W nv L) => walk_spec W _ _ nv f c L hgl hBe.symm hL8 (FsF.holds_below HFS.out hb) (CrF.holds_below HCR.out hb) hN)
        generalize walkV f c L 0 = R at HR HWA
        clear hBe hKe hL hE hB bF bC
        go_enter Tryz.func35, Tryz.ntmps35
        go_wp2_with fail
        refine (HSP.out).mono ?_
        rintro e w2 ⟨nv, S, rfl, hown, hb2⟩
        have HH := Lib.hid (TlF.own_holds hown)
        obtain ⟨na, nc, rfl, hcp⟩ := own_cap hown
        have HCP := Lib.hid hcp
        have HB2 := Lib.hid (HB.out.trans (hb2.mono HB.out.size))
        have HBF2 := Lib.hid (HBF.out.all hb2)
        have HBC2 := Lib.hid (HBC.out.all hb2)
        obtain ⟨x0, x1, x2, x3⟩ := Bk.c4 HBF2.out
        clear hown hb2 hcp
        go_wp2_with fail
        refine (HIS.out _ HB2.out).mono ?_
        rintro e w3 ⟨rfl, hb3⟩
        have HB3 := Lib.hid (HB2.out.trans (hb3.mono HB2.out.size))
        have HH3 := Lib.hid (SF.holds_below HH.out hb3)
        have HBF3 := Lib.hid (HBF2.out.all hb3)
        have HBC3 := Lib.hid (HBC2.out.all hb3)
        obtain ⟨y0, y1, y2⟩ := HBC3.out.three
        clear hb3 x0 x1 x2 x3
        go_wp2_with fail
        refine (HIC.out _ HB3.out).mono ?_
        rintro e w4 ⟨rfl, hb4⟩
        have HB4 := Lib.hid (HB3.out.trans (hb4.mono HB3.out.size))
        have HH4 := Lib.hid (SF.holds_below HH3.out hb4)
        have HBF4 := Lib.hid (HBF3.out.all hb4)
        have HBC4 := Lib.hid (HBC3.out.all hb4)
        clear hb4 y0 y1 y2
        obtain ⟨x0, x1, x2, x3⟩ := Bk.c4 HBF4.out
        obtain ⟨y0, y1, y2⟩ := HBC4.out.three
        go_wp2_with fail
        refine (HWA.out _ _ HB4.out HH4.out).mono ?_
        rintro e w5 ⟨rfl, hb5⟩
        have HB5 := Lib.hid (HB4.out.trans (hb5.mono HB4.out.size))
        clear hb5 x0 x1 x2 x3 y0 y1 y2
        go_wp2
        go_ret2
        exact ⟨ret_ii (by rw [HR.out]) (by rw [HR.out]), HB5.out⟩

set_option maxRecDepth 100000 in
set_option maxHeartbeats 6400000 in
theorem parent_spec (w : World) (v cv : Value) (f : F) (c : CrS.C) (p : ByteArray) (hc : FsF.cost f ≤ 1073741824) (hl : FsF.Lim f) (hgl : c.groups.length ≤ 1073741824) (hp : p.size ≤ 1048576) (h : FsF.Holds w v f) (hC : CrF.Holds w cv c) :
    Calls Tryz.prog 37 #[v, cv, .string p] w fun e w' => e = .returned (.tuple #[.int .i64 (parentV f c p).1, .string (parentV f c p).2.1, .int .i64 (parentV f c p).2.2]) ∧ Below w.heap.size w w' := by
  obtain ⟨T, qa, Q, qc, ia, M, ic, da, D, dc, rfl⟩ := form_fs h
  obtain ⟨ga, gn, gc, rfl, hG⟩ := open_cr hC
  have HCR := Lib.hid hC
  have HGR := Lib.hid hG
  obtain ⟨U, hU⟩ : ∃ U, U = c.uid := ⟨_, rfl⟩
  obtain ⟨G, hG'⟩ : ∃ G, G = c.gid := ⟨_, rfl⟩
  rw [← hU, ← hG'] at HCR ⊢
  have HU := Lib.hid hU
  have HG := Lib.hid hG'
  clear hU hG' hG hC
  have HFS := Lib.hid h
  clear h
  obtain ⟨w0, hw0⟩ : ∃ w0, (w.alloc (.cells #[.int .i64 T, .slice qa Q qc, .slice ia M ic, .slice da D dc] 33)).alloc (.cells #[.int .i64 U, .int .i64 G, .slice ga gn gc] 54) = w0 := ⟨_, rfl⟩
  have hB : Below w.heap.size w w0 := by rw [← hw0]; exact ((Below.refl _ w).alloc (Nat.le_refl _) _).alloc (by simp) _
  have bF : Bk w0 w.heap.size #[.int .i64 T, .slice qa Q qc, .slice ia M ic, .slice da D dc] 33 := by rw [← hw0]; exact (new w _ _).alloc _
  have bC : Bk w0 (w.heap.size + 1) #[.int .i64 U, .int .i64 G, .slice ga gn gc] 54 := by
    have := new (w.alloc (.cells #[.int .i64 T, .slice qa Q qc, .slice ia M ic, .slice da D dc] 33)) #[.int .i64 U, .int .i64 G, .slice ga gn gc] 54
    rw [World.size_alloc, hw0] at this; exact this
  have HB := Lib.hid hB
  have HBF := Lib.hid bF
  have HBC := Lib.hid bC
  obtain ⟨B, hBe⟩ : ∃ B, B = okF f := ⟨_, rfl⟩
  have HIS := Lib.hid (fun (W : World) (hb : Below w.heap.size w W) => show Calls Tryz.prog 73 #[.agg #[.int .i64 T, .slice qa Q qc, .slice ia M ic, .slice da D dc]] W fun e w' => e = .returned (.bool B) ∧ Below W.heap.size W w' from by rw [hBe]; exact FsS.is_spec W _ f hc hl (FsF.holds_below HFS.out hb))
  have HBE := Lib.hid hBe
  obtain ⟨K, hKe⟩ : ∃ K, K = credB (tri c) := ⟨_, rfl⟩
  have HIC := Lib.hid (fun (W : World) (hb : Below w.heap.size w W) => show Calls Tryz.prog 84 #[.agg #[.int .i64 U, .int .i64 G, .slice ga gn gc]] W fun e w' => e = .returned (.bool K) ∧ Below W.heap.size W w' from by rw [hKe, HU.out, HG.out]; exact CrI.cred_spec W c.uid c.gid (.slice ga gn gc) c.groups hgl (NiF.holds_below HGR.out hb).old)
  have HKE := Lib.hid hKe
  obtain ⟨L, hL⟩ : ∃ L, L = (splitV p).1 := ⟨_, rfl⟩
  obtain ⟨E, hE⟩ : ∃ E, E = (splitV p).2 := ⟨_, rfl⟩
  have HSP := Lib.hid (PaT.split_spec p w0 hp)
  unfold PaS.Post at HSP
  rw [← hL, ← hE] at HSP
  have HLE := Lib.hid hL
  have HEE := Lib.hid hE
  have hL8 := PaV.split_len p
  rw [← hL] at hL8
  cases B
  · have HR := Lib.hid (show parentV f c p = (0, ⟨#[]⟩, 1) from if_neg (fun h => by have := h.1; rw [← hBe] at this; cases this))
    clear hBe hKe hL hE hB bF bC
    go_enter Tryz.func37, Tryz.ntmps37
    go_wp2_with fail
    refine (HSP.out).mono ?_
    rintro e w2 ⟨nv, S, rfl, hown, hb2⟩
    have HH := Lib.hid (TlF.own_holds hown)
    obtain ⟨na, nc, rfl, hcp⟩ := own_cap hown
    have HCP := Lib.hid hcp
    have HB2 := Lib.hid (HB.out.trans (hb2.mono HB.out.size))
    have HBF2 := Lib.hid (HBF.out.all hb2)
    have HBC2 := Lib.hid (HBC.out.all hb2)
    obtain ⟨x0, x1, x2, x3⟩ := Bk.c4 HBF2.out
    clear hown hb2 hcp
    go_wp2_with fail
    refine (HIS.out _ HB2.out).mono ?_
    rintro e w3 ⟨rfl, hb3⟩
    have HB3 := Lib.hid (HB2.out.trans (hb3.mono HB2.out.size))
    have HH3 := Lib.hid (SF.holds_below HH.out hb3)
    have HBF3 := Lib.hid (HBF2.out.all hb3)
    have HBC3 := Lib.hid (HBC2.out.all hb3)
    obtain ⟨y0, y1, y2⟩ := HBC3.out.three
    clear hb3 x0 x1 x2 x3
    go_wp2
    go_ret3
    exact ⟨ret_isi (by rw [HR.out]) (by rw [HR.out]) (by rw [HR.out]), HB3.out⟩
  · cases K
    · have HR := Lib.hid (show parentV f c p = (0, ⟨#[]⟩, 1) from if_neg (fun h => by have := h.2; rw [← hKe] at this; cases this))
      clear hBe hKe hL hE hB bF bC
      go_enter Tryz.func37, Tryz.ntmps37
      go_wp2_with fail
      refine (HSP.out).mono ?_
      rintro e w2 ⟨nv, S, rfl, hown, hb2⟩
      have HH := Lib.hid (TlF.own_holds hown)
      obtain ⟨na, nc, rfl, hcp⟩ := own_cap hown
      have HCP := Lib.hid hcp
      have HB2 := Lib.hid (HB.out.trans (hb2.mono HB.out.size))
      have HBF2 := Lib.hid (HBF.out.all hb2)
      have HBC2 := Lib.hid (HBC.out.all hb2)
      obtain ⟨x0, x1, x2, x3⟩ := Bk.c4 HBF2.out
      clear hown hb2 hcp
      go_wp2_with fail
      refine (HIS.out _ HB2.out).mono ?_
      rintro e w3 ⟨rfl, hb3⟩
      have HB3 := Lib.hid (HB2.out.trans (hb3.mono HB2.out.size))
      have HH3 := Lib.hid (SF.holds_below HH.out hb3)
      have HBF3 := Lib.hid (HBF2.out.all hb3)
      have HBC3 := Lib.hid (HBC2.out.all hb3)
      obtain ⟨y0, y1, y2⟩ := HBC3.out.three
      clear hb3 x0 x1 x2 x3
      go_wp2_with fail
      refine (HIC.out _ HB3.out).mono ?_
      rintro e w4 ⟨rfl, hb4⟩
      have HB4 := Lib.hid (HB3.out.trans (hb4.mono HB3.out.size))
      have HH4 := Lib.hid (SF.holds_below HH3.out hb4)
      have HBF4 := Lib.hid (HBF3.out.all hb4)
      have HBC4 := Lib.hid (HBC3.out.all hb4)
      clear hb4 y0 y1 y2
      go_wp2
      go_ret3
      exact ⟨ret_isi (by rw [HR.out]) (by rw [HR.out]) (by rw [HR.out]), HB4.out⟩
    · have HPV := Lib.hid (show parentV f c p = if E = true ∧ L ≠ [] then (if (walkV f c L.dropLast 0).2 = 0 then (if passC f c (walkV f c L.dropLast 0).1 = 0 then (((walkV f c L.dropLast 0).1 : Int), L.getLastD ⟨#[]⟩, 0) else (0, ⟨#[]⟩, passC f c (walkV f c L.dropLast 0).1)) else (0, ⟨#[]⟩, (walkV f c L.dropLast 0).2)) else (0, ⟨#[]⟩, 11) from by
        unfold parentV; rw [if_pos ⟨hBe.symm, hKe.symm⟩, ← hE, ← hL])
      obtain ⟨n, hn⟩ : ∃ n, n = L.length := ⟨_, rfl⟩
      have HNL := Lib.hid hn
      rw [← hn] at hL8
      have hok := hBe.symm
      have HLA := Lib.hid (fun (h : L ≠ []) => last_getD h)
      clear hBe hKe hL hE hB bF bC
      go_enter Tryz.func37, Tryz.ntmps37
      go_wp2_with fail
      refine (HSP.out).mono ?_
      rintro e w2 ⟨nv, S, rfl, hown, hb2⟩
      have HH := Lib.hid (TlF.own_holds hown)
      obtain ⟨na, nc, rfl, hcp⟩ := own_cap hown
      have HCP := Lib.hid hcp
      have HB2 := Lib.hid (HB.out.trans (hb2.mono HB.out.size))
      have HBF2 := Lib.hid (HBF.out.all hb2)
      have HBC2 := Lib.hid (HBC.out.all hb2)
      obtain ⟨x0, x1, x2, x3⟩ := Bk.c4 HBF2.out
      clear hown hb2 hcp
      go_wp2_with fail
      refine (HIS.out _ HB2.out).mono ?_
      rintro e w3 ⟨rfl, hb3⟩
      have HB3 := Lib.hid (HB2.out.trans (hb3.mono HB2.out.size))
      have HH3 := Lib.hid (SF.holds_below HH.out hb3)
      have HBF3 := Lib.hid (HBF2.out.all hb3)
      have HBC3 := Lib.hid (HBC2.out.all hb3)
      obtain ⟨y0, y1, y2⟩ := HBC3.out.three
      clear hb3 x0 x1 x2 x3
      go_wp2_with fail
      refine (HIC.out _ HB3.out).mono ?_
      rintro e w4 ⟨rfl, hb4⟩
      have HB4 := Lib.hid (HB3.out.trans (hb4.mono HB3.out.size))
      have HH4 := Lib.hid (SF.holds_below HH3.out hb4)
      have HBF4 := Lib.hid (HBF3.out.all hb4)
      have HBC4 := Lib.hid (HBC3.out.all hb4)
      clear hb4 y0 y1 y2
      rw [← hn]
      have HCP' := Lib.hid (show n ≤ nc from by rw [hn]; exact HCP.out)
      have HH5 := Lib.hid (show SF.Holds w4 (.slice na n nc) L from by rw [hn]; exact HH4.out)
      clear hn HCP HH HH3 HH4
      cases E
      · have HR := Lib.hid (show parentV f c p = (0, ⟨#[]⟩, 11) from by rw [HPV.out, if_neg (fun h => by cases h.1)])
        have hw0 : IntKind.i64.wrap ((n : Int) - 1) = (n : Int) - 1 := IntWalk.i64_in _ (by omega)
        go_wp2
        go_ret3
        exact ⟨ret_isi (by rw [HR.out]) (by rw [HR.out]) (by rw [HR.out]), HB4.out⟩
      · by_cases h0 : n = 0
        · have HR := Lib.hid (show parentV f c p = (0, ⟨#[]⟩, 11) from by rw [HPV.out, if_neg (fun h => h.2 (List.eq_nil_of_length_eq_zero (by rw [← HNL.out]; exact h0)))])
          subst h0
          go_wp2
          go_ret3
          exact ⟨ret_isi (by rw [HR.out]) (by rw [HR.out]) (by rw [HR.out]), HB4.out⟩
        · have hne : L ≠ [] := fun h => h0 (by rw [HNL.out, h]; rfl)
          have HNE := Lib.hid hne
          have HPV2 := Lib.hid (show parentV f c p = (if (walkV f c L.dropLast 0).2 = 0 then (if passC f c (walkV f c L.dropLast 0).1 = 0 then (((walkV f c L.dropLast 0).1 : Int), L.getLastD ⟨#[]⟩, 0) else (0, ⟨#[]⟩, passC f c (walkV f c L.dropLast 0).1)) else (0, ⟨#[]⟩, (walkV f c L.dropLast 0).2)) from by rw [HPV.out, if_pos ⟨rfl, hne⟩])
          obtain ⟨m, rfl⟩ : ∃ m, n = m + 1 := ⟨n - 1, by omega⟩
          have HWA := Lib.hid (fun (W : World) (nv : Value) (hb : Below w.heap.size w W) (hN : SF.Holds W nv L.dropLast) => walk_spec W _ _ nv f c L.dropLast hgl hok (by rw [List.length_dropLast, ← HNL.out]; omega) (FsF.holds_below HFS.out hb) (CrF.holds_below HCR.out hb) hN)
          obtain ⟨R, hR⟩ : ∃ R, R = walkV f c L.dropLast 0 := ⟨_, rfl⟩
          have hR20 : R.1 < 20 := by rw [hR]; exact walk_lt (by decide)
          rw [← hR] at HWA HPV2
          obtain ⟨d, e2⟩ := R
          dsimp only at HWA HPV2 hR20
          have HMA := Lib.hid (fun (W : World) (hb : Below w.heap.size w W) => show Calls Tryz.prog 78 #[.agg #[.int .i64 T, .slice qa Q qc, .slice ia M ic, .slice da D dc], .agg #[.int .i64 U, .int .i64 G, .slice ga gn gc], .int .i64 d, .int .i64 1] W fun e w' => e = .returned (.bool (accB f c d 1)) ∧ Below W.heap.size W w' from may_l11 W _ _ f c d 1 hgl hok hR20 (FsF.holds_below HFS.out hb) (CrF.holds_below HCR.out hb))
          obtain ⟨t', qa', Q', qc', b, o, ic', da', D', dc', e0, hb, hic, hat⟩ := open_fs hok HFS.out
          simp only [Value.agg.injEq, Array.mk.injEq, List.cons.injEq, and_true, Value.slice.injEq] at e0
          obtain ⟨-, -, ⟨rfl, rfl, rfl⟩, -⟩ := e0
          obtain ⟨r0, r1, r2, hCl, _⟩ := hat d hR20
          have hk0 := hCl.1
          have HKC := Lib.hid hk0
          have HHB := Lib.hid hb
          have hw1 : IntKind.i64.wrap (((m + 1 : Nat) : Int) - 1) = (m : Int) := by rw [IntWalk.i64_in _ (by omega)]; omega
          have hm1 : decide ((m : Int) < 0) = false := decide_eq_false (by omega)
          have hm0 : ¬ ((m : Int) < 0) := by omega
          have hm2 : (0 : Int) ≤ m := by omega
          have hm3 : (m : Int) ≤ nc := by have := HCP'.out; omega
          have hPX := prefix_holds HH5.out HNL.out nc
          rw [Nat.add_sub_cancel] at hPX
          have HPX := Lib.hid hPX
          have hsl : ∀ W : World, (Instr.slice 24 (.slice na (m + 1) nc) none (some (.int .i64 (m : Int))) none).run Tryz.prog W = .ok (.slice na m nc) W := fun W => by
            simp [Instr.slice, run_underlying Tryz.underlying24, Instr.sliceBounds, run_sliceBound, hm2, hm3, go_sem]
          have x0 := Fam.cell (W := w4) (p := ⟨w.heap.size, 0, none⟩) HBF4.out.lt (show _ = some (.int .i64 T) from HBF4.out.cell 0)
          have x1 := Fam.cell (W := w4) (p := ⟨w.heap.size, 1, none⟩) HBF4.out.lt (show _ = some (.slice qa Q qc) from HBF4.out.cell 1)
          have x2 := Fam.cell (W := w4) (p := ⟨w.heap.size, 2, none⟩) HBF4.out.lt (show _ = some (.slice (some ⟨b, o, none⟩) 20 ic) from HBF4.out.cell 2)
          have x3 := Fam.cell (W := w4) (p := ⟨w.heap.size, 3, none⟩) HBF4.out.lt (show _ = some (.slice da D dc) from HBF4.out.cell 3)
          have y0 := Fam.cell (W := w4) (p := ⟨w.heap.size + 1, 0, none⟩) HBC4.out.lt (show _ = some (.int .i64 U) from HBC4.out.cell 0)
          have y1 := Fam.cell (W := w4) (p := ⟨w.heap.size + 1, 1, none⟩) HBC4.out.lt (show _ = some (.int .i64 G) from HBC4.out.cell 1)
          have y2 := Fam.cell (W := w4) (p := ⟨w.heap.size + 1, 2, none⟩) HBC4.out.lt (show _ = some (.slice ga gn gc) from HBC4.out.cell 2)
          have HFW := Lib.hid (fun (n : Fam.Ix w4) => HWA.out (Fam.wld w4 n) (.slice na m nc) (HB4.out.trans ((Fam.wld_below w4 n).mono HB4.out.size)) (SF.holds_below HPX.out (Fam.wld_below w4 n)))
          clear h0 hne hPX hok hat hCl hk0 hb hic
          go_wp2
          refine Fam.region (by kernel_rfl) (by kernel_rfl) ?_
          repeat (go_big_quiet_step (first | (go_at_call 85; with_reducible refine Fam.calls (HFW.out _))))
          refine wpQuiet_nil ?_
          intro _ hw'
          obtain ⟨nq, hw''⟩ := hw'
          subst hw''
          have hbq := Fam.wld_below _ nq
          generalize Fam.wld _ nq = w5 at hbq ⊢
          have HB5 := Lib.hid (HB4.out.trans (hbq.mono HB4.out.size))
          have HN5 := Lib.hid (SF.holds_below HH5.out hbq)
          have HBF5 := Lib.hid (HBF4.out.all hbq)
          have HBC5 := Lib.hid (HBC4.out.all hbq)
          clear x0 x1 x2 x3 y0 y1 y2 hsl hbq
          by_cases hz1 : e2 = 0
          · obtain ⟨x0, x1, x2, x3⟩ := Bk.c4 HBF5.out
            obtain ⟨y0, y1, y2⟩ := HBC5.out.three
            have hk0 := HKC.out
            rw [← HB5.out.cell (p := ⟨b, _, none⟩) HHB.out] at hk0
            have h0 : (0 : Int) ≤ d := by omega
            have h1 : (d : Int) < 20 := by omega
            obtain ⟨K, hK⟩ : ∃ K, K = (ino f d).kind := ⟨_, rfl⟩
            rw [← hK] at hk0
            have HK := Lib.hid hK
            subst hz1
            clear hK
            by_cases hz2 : K = 2
            · obtain ⟨A, hA⟩ : ∃ A, A = accB f c d 1 := ⟨_, rfl⟩
              rw [← hA] at HMA
              subst hz2
              cases A with
              | false =>
                have hp := pass_acc HK.out.symm hA.symm
                have HR := Lib.hid (show parentV f c p = (0, ⟨#[]⟩, 2) from by rw [HPV2.out, if_pos rfl, if_neg (by rw [hp]; decide), hp])
                clear hp hA
                go_wp2_with fail
                refine (HMA.out _ HB5.out).mono ?_
                rintro e w6 ⟨rfl, hb6⟩
                have HB6 := Lib.hid (HB5.out.trans (hb6.mono HB5.out.size))
                clear hb6 x0 x1 x2 x3 y0 y1 y2
                go_wp2
                go_ret3
                exact ⟨ret_isi (by rw [HR.out]) (by rw [HR.out]) (by rw [HR.out]), HB6.out⟩
              | true =>
                have hp := pass_ok HK.out.symm hA.symm
                have HV := Lib.hid (show parentV f c p = ((d : Int), L.getD (L.length - 1) ⟨#[]⟩, 0) from by rw [HPV2.out, if_pos rfl, if_pos hp, HLA.out HNE.out])
                clear hp hA
                go_wp2_with fail
                refine (HMA.out _ HB5.out).mono ?_
                rintro e w6 ⟨rfl, hb6⟩
                have HB6 := Lib.hid (HB5.out.trans (hb6.mono HB5.out.size))
                have HN6 := Lib.hid (SF.holds_below HN5.out hb6)
                clear hb6 x0 x1 x2 x3 y0 y1 y2
                obtain ⟨b1, o1, rfl, hlb, hyc⟩ : ∃ b o, na = some ⟨b, o, none⟩ ∧ b < w6.heap.size ∧ w6.cell? ⟨b, o + m, none⟩ = some (.string (L.getD m ⟨#[]⟩)) := by
                  obtain ⟨a', c', e', hc'⟩ := HN6.out
                  obtain ⟨b, o, rfl, hlb, hcell⟩ := hc' HNE.out
                  rw [Value.slice.injEq] at e'
                  exact ⟨b, o, e'.1, hlb, hcell m (by rw [← HNL.out]; omega)⟩
                have HLM := Lib.hid (show L.length - 1 = m from by rw [← HNL.out]; omega)
                rw [HLM.out] at HV
                generalize L.getD m ⟨#[]⟩ = y at hyc HV
                have hm4 : (m : Int) < ((m + 1 : Nat) : Int) := by omega
                have z0 := Fam.cell (W := w6) (p := ⟨b1, o1 + m, none⟩) hlb hyc
                clear hyc
                go_wp2
                refine Fam.region (by kernel_rfl) (by kernel_rfl) ?_
                repeat (go_big_quiet_step (fail))
                refine wpQuiet_nil ?_
                intro _ hw'
                obtain ⟨nq, hw''⟩ := hw'
                subst hw''
                have hbq := Fam.wld_below _ nq
                generalize Fam.wld _ nq = w7 at hbq ⊢
                have HB7 := Lib.hid (HB6.out.trans (hbq.mono HB6.out.size))
                clear hbq z0
                go_wp2
                go_ret3
                exact ⟨ret_isi (by rw [HV.out]) (by rw [HV.out]) (by rw [HV.out]), HB7.out⟩
            · have hp := pass_no (c := c) (show (ino f d).kind ≠ 2 from by rw [← HK.out]; exact hz2)
              have HR := Lib.hid (show parentV f c p = (0, ⟨#[]⟩, 5) from by rw [HPV2.out, if_pos rfl, if_neg (by rw [hp]; decide), hp])
              have q1 : (K != 2) = true := by simpa using hz2
              have q2 : (K == 2) = false := by simpa using hz2
              clear hz2 hp
              go_wp2
              go_ret3
              exact ⟨ret_isi (by rw [HR.out]) (by rw [HR.out]) (by rw [HR.out]), HB5.out⟩
          · have HR := Lib.hid (show parentV f c p = (0, ⟨#[]⟩, e2) from by rw [HPV2.out, if_neg hz1])
            have q1 : (e2 != 0) = true := by simpa using hz1
            have q2 : (e2 == 0) = false := by simpa using hz1
            clear hz1
            go_wp2
            go_ret3
            exact ⟨ret_isi (by rw [HR.out]) (by rw [HR.out]) (by rw [HR.out]), HB5.out⟩
end Go.Proofs.YthppbcnejapbiaaGreatDoor.PwS
