/- Contracts: SameInode (the model's and the program's), and what the program's is built of: numbersOf, firstBlocks, sameBlocks. Conditions: as each theorem types them. -/
import Derived.Test.YtafmpllkehbmeaaGreatDoorInEq
import Derived.Test.YtafmpllkehbmeaaGreatDoorArrEq
import Derived.Test.YtafmpllkehbmeaaGreatDoorFam
namespace Go.Proofs.YtafmpllkehbmeaaGreatDoor.InSm
open Go.ChangeShapes Go.WideShapes Go.ChangeAt Go.RowKit
open Foot Bx
open InoV (I sameB)
open Dk (ret_bool)
open InEq (ext_getD)
set_option linter.unusedVariables false

def nums (n : I) : List Int := [n.kind, n.mode, n.uid, n.gid, n.links, n.size, n.tick]
theorem same_eq (n m : I) : sameB n m = (decide (nums n = nums m) && decide (n.blocks = m.blocks) && decide (n.acl = m.acl) && decide (n.dflt = m.dflt)) := by
  rw [Bool.eq_iff_iff]
  simp only [sameB, nums, Bool.and_eq_true, decide_eq_true_eq, List.cons.injEq, and_assoc, and_true]
/-- The number at place j of the array. -/
def fbV (l : List Int) (j : Nat) : Int := if j < l.length then IntKind.i64.wrap (l.getD j 0 + 1) else 0
def fbL (l : List Int) : List Int := (List.range 8).map (fbV l)
theorem fbL_length (l : List Int) : (fbL l).length = 8 := by simp [fbL]
/-- The array after i rounds. -/
def fbR (l : List Int) (i : Nat) : List Value := (List.range 8).map fun j => Value.int .i64 (if j < i then fbV l j else 0)
theorem fbR_length (l : List Int) (i : Nat) : (fbR l i).length = 8 := by simp [fbR]
theorem fbR_at (l : List Int) (i j : Nat) (h : j < 8) : (fbR l i)[j]? = some (.int .i64 (if j < i then fbV l j else 0)) := by
  simp [fbR, List.getElem?_map, List.getElem?_range h]
theorem fbR_set (l : List Int) (i : Nat) (h : i < 8) : (fbR l i).set i (.int .i64 (fbV l i)) = fbR l (i + 1) := by
  refine List.ext_getElem? fun j => ?_
  by_cases hj : j < 8
  · rw [List.getElem?_set, fbR_at l (i + 1) j hj, fbR_length]
    by_cases hij : i = j
    · subst hij
      simp [h]
    · rw [if_neg hij, fbR_at l i j hj]
      by_cases h1 : j < i
      · rw [if_pos h1, if_pos (by omega)]
      · rw [if_neg h1, if_neg (by omega)]
  · rw [List.getElem?_eq_none (by rw [List.length_set, fbR_length]; omega), List.getElem?_eq_none (by rw [fbR_length]; omega)]
theorem fbR_end (l : List Int) (i j : Nat) (hi : i = min l.length 8) (h : j < 8) : (fbR l i)[j]? = some (.int .i64 (fbV l j)) := by
  rw [fbR_at l i j h]
  by_cases hj : j < i
  · rw [if_pos hj]
  · rw [if_neg hj]
    unfold fbV
    rw [if_neg (by omega)]
theorem wrap_inj {x y : Int} (hx : Rg x) (hy : Rg y) (h : IntKind.i64.wrap (x + 1) = IntKind.i64.wrap (y + 1)) : x = y := by
  rw [IntKind.wrap_i64, IntKind.wrap_i64] at h
  unfold Rg at hx hy
  omega
theorem mem_getD {l : List Int} {i : Nat} (h : i < l.length) : l.getD i 0 ∈ l := by
  rw [List.getD_eq_getElem?_getD, List.getElem?_eq_getElem h]
  exact List.getElem_mem h
theorem fb_eq {xs ys : List Int} (hl : xs.length = ys.length) (hx : ∀ x ∈ xs, Rg x) (hy : ∀ x ∈ ys, Rg x) (h : fbL xs = fbL ys) : ∀ j, j < 8 → xs.getD j 0 = ys.getD j 0 := by
  intro j hj
  by_cases hjx : j < xs.length
  · have := congrArg (fun l => l[j]?) h
    simp only [fbL, List.getElem?_map, List.getElem?_range hj, Option.map_some, Option.some.injEq] at this
    unfold fbV at this
    rw [if_pos hjx, if_pos (by omega)] at this
    exact wrap_inj (hx _ (mem_getD hjx)) (hy _ (mem_getD (by omega))) this
  · rw [List.getD_eq_getElem?_getD, List.getD_eq_getElem?_getD, List.getElem?_eq_none (by omega), List.getElem?_eq_none (by omega)]
def arr (l : List Int) : Value := .agg (l.map (Value.int .i64)).toArray

set_option maxRecDepth 100000 in
set_option maxHeartbeats 400000 in
theorem numbers_any (w : World) (n : I) (r0 r1 r2 : Value) :
    Calls Tryz.prog 132 #[.agg #[.int .i64 n.kind, .int .i64 n.mode, .int .i64 n.uid, .int .i64 n.gid, .int .i64 n.links, .int .i64 n.size, .int .i64 n.tick, r0, r1, r2]] w fun e w' => e = .returned (.agg #[.int .i64 n.kind, .int .i64 n.mode, .int .i64 n.uid, .int .i64 n.gid, .int .i64 n.links, .int .i64 n.size, .int .i64 n.tick]) ∧ Below w.heap.size w w' := by
  obtain ⟨x0, x1, x2, x3, x4, x5, x6, x7, x8, x9⟩ := n
  dsimp only
  go_enter Tryz.func132, Tryz.ntmps132
  go_wp2
  refine bodyPost_ret (v := .agg #[.int .i64 x0, .int .i64 x1, .int .i64 x2, .int .i64 x3, .int .i64 x4, .int .i64 x5, .int .i64 x6]) (by simp [results, Tryz.results132, go_sem]) rfl ⟨rfl, ?_⟩
  exact ((Below.refl w.heap.size w).alloc (Nat.le_refl _) _).alloc (by simp) _

set_option maxRecDepth 100000 in
set_option maxHeartbeats 1600000 in
theorem first_any (w : World) (v : Value) (l : List Int) (hlen : l.length ≤ 1073741824) (h : NiF.Holds w v l) :
    Calls Tryz.prog 182 #[v] w fun e w' => e = .returned (arr (fbL l)) ∧ Below w.heap.size w w' := by
  obtain ⟨a, c, rfl, hle, hcell⟩ := h
  have HC := Lib.hid hcell
  clear hcell
  have HV := Lib.hid (fun j (h : j < l.length) => show fbV l j = IntKind.i64.wrap (l.getD j 0 + 1) from if_pos h)
  have HSET := Lib.hid (fbR_set l)
  have HAT := Lib.hid (fbR_at l)
  have HEND := Lib.hid (fbR_end l)
  obtain ⟨L, hL⟩ : ∃ L, L = l.length := ⟨_, rfl⟩
  rw [← hL] at hlen hle ⊢
  have HL := Lib.hid hL
  clear hL
  have HB := Lib.hid (((Below.refl w.heap.size w).alloc (Nat.le_refl _) (.cells #[.int .i64 0, .int .i64 0, .int .i64 0, .int .i64 0, .int .i64 0, .int .i64 0, .int .i64 0, .int .i64 0] 186)).alloc (by simp) (.cells #[.int .i64 0, .int .i64 0, .int .i64 0, .int .i64 0, .int .i64 0, .int .i64 0, .int .i64 0, .int .i64 0] 186))
  have HR := Lib.hid ((new w #[.int .i64 0, .int .i64 0, .int .i64 0, .int .i64 0, .int .i64 0, .int .i64 0, .int .i64 0, .int .i64 0] 186).alloc (.cells #[.int .i64 0, .int .i64 0, .int .i64 0, .int .i64 0, .int .i64 0, .int .i64 0, .int .i64 0, .int .i64 0] 186))
  have HQ := Lib.hid (show Bk ((w.alloc (.cells #[.int .i64 0, .int .i64 0, .int .i64 0, .int .i64 0, .int .i64 0, .int .i64 0, .int .i64 0, .int .i64 0] 186)).alloc (.cells #[.int .i64 0, .int .i64 0, .int .i64 0, .int .i64 0, .int .i64 0, .int .i64 0, .int .i64 0, .int .i64 0] 186)) (w.heap.size + 1) (fbR l 0).toArray 186 from new_at (w.alloc (.cells #[.int .i64 0, .int .i64 0, .int .i64 0, .int .i64 0, .int .i64 0, .int .i64 0, .int .i64 0, .int .i64 0] 186)) #[.int .i64 0, .int .i64 0, .int .i64 0, .int .i64 0, .int .i64 0, .int .i64 0, .int .i64 0, .int .i64 0] 186 (w.heap.size + 1) (by simp))
  rw [show arr (fbL l) = .agg #[.int .i64 (fbV l 0), .int .i64 (fbV l 1), .int .i64 (fbV l 2), .int .i64 (fbV l 3), .int .i64 (fbV l 4), .int .i64 (fbV l 5), .int .i64 (fbV l 6), .int .i64 (fbV l 7)] from rfl]
  obtain ⟨f0, hf0⟩ : ∃ f, f = fbV l 0 := ⟨_, rfl⟩
  rw [← hf0]
  have HF0 := Lib.hid hf0
  clear hf0
  obtain ⟨f1, hf1⟩ : ∃ f, f = fbV l 1 := ⟨_, rfl⟩
  rw [← hf1]
  have HF1 := Lib.hid hf1
  clear hf1
  obtain ⟨f2, hf2⟩ : ∃ f, f = fbV l 2 := ⟨_, rfl⟩
  rw [← hf2]
  have HF2 := Lib.hid hf2
  clear hf2
  obtain ⟨f3, hf3⟩ : ∃ f, f = fbV l 3 := ⟨_, rfl⟩
  rw [← hf3]
  have HF3 := Lib.hid hf3
  clear hf3
  obtain ⟨f4, hf4⟩ : ∃ f, f = fbV l 4 := ⟨_, rfl⟩
  rw [← hf4]
  have HF4 := Lib.hid hf4
  clear hf4
  obtain ⟨f5, hf5⟩ : ∃ f, f = fbV l 5 := ⟨_, rfl⟩
  rw [← hf5]
  have HF5 := Lib.hid hf5
  clear hf5
  obtain ⟨f6, hf6⟩ : ∃ f, f = fbV l 6 := ⟨_, rfl⟩
  rw [← hf6]
  have HF6 := Lib.hid hf6
  clear hf6
  obtain ⟨f7, hf7⟩ : ∃ f, f = fbV l 7 := ⟨_, rfl⟩
  rw [← hf7]
  have HF7 := Lib.hid hf7
  clear hf7
  by_cases hL8 : L ≤ 8
  · have hle8 : (L : Int) ≤ 8 := by omega
    have HM := Lib.hid (show L = min L 8 by omega)
    clear hL8
    go_enter Tryz.func182, Tryz.ntmps182
    go_wp2
    go_loopw [12] (fun iv wr => ∃ i : Nat, i ≤ L ∧ iv = .int .i64 i ∧ Bk wr w.heap.size #[.int .i64 0, .int .i64 0, .int .i64 0, .int .i64 0, .int .i64 0, .int .i64 0, .int .i64 0, .int .i64 0] 186 ∧ Bk wr (w.heap.size + 1) (fbR l i).toArray 186 ∧ Below w.heap.size w wr) (fun iv _ => L - (intOf iv).toNat)
    case atStart => exact ⟨0, Nat.zero_le _, rfl, HR.out, HQ.out, HB.out⟩
    case round =>
      obtain ⟨i, hi, rfl, hr, hq, hbel⟩ := hrel
      replace HB := Lib.hid hbel
      replace HR := Lib.hid hr
      replace HQ := Lib.hid hq
      clear hr hq hbel
      by_cases hlt : i < L
      · obtain ⟨b, off, rfl, hb, g0⟩ := HC.out i (by rw [← HL.out]; have := HM.out; omega)
        rw [← HB.out.cell (p := ⟨b, _, none⟩) hb] at g0
        have hv := HV.out i (by rw [← HL.out]; have := HM.out; omega)
        have h8 : (i : Int) < 8 := by have := HM.out; omega
        have hiL : (i : Int) < L := by have := HM.out; omega
        have hq1 := HQ.out.cell i
        rw [List.getElem?_toArray, HAT.out i i (by omega), if_neg (Nat.lt_irrefl i)] at hq1
        have hf1 := HQ.out.free i
        have hn := HQ.out.put i (.int .i64 (fbV l i))
        rw [HSET.out i (by omega)] at hn
        have hrn := HR.out.far (p := ⟨w.heap.size + 1, i, none⟩) (by simp) (.int .i64 (fbV l i))
        have hbn := HB.out.setCell (p := ⟨w.heap.size + 1, i, none⟩) (by simp) (.int .i64 (fbV l i))
        have HN := Lib.hid hn
        have HRN := Lib.hid hrn
        have HBN := Lib.hid hbn
        clear hn hrn hbn
        generalize fbV l i = y at hv HN HRN HBN
        generalize l.getD i 0 = x at g0 hv
        replace hv := hv.symm
        go_wp2
        go_roundw
        case rel => exact ⟨i + 1, by omega, by go_num, HRN.out, HN.out, HBN.out⟩
        case measure => simp [intOf]; omega
      · obtain rfl : i = L := by omega
        have q0 := HQ.out.cell 0
        rw [List.getElem?_toArray, HEND.out i 0 (by rw [← HL.out]; exact HM.out) (by decide), ← HF0.out] at q0
        have q1 := HQ.out.cell 1
        rw [List.getElem?_toArray, HEND.out i 1 (by rw [← HL.out]; exact HM.out) (by decide), ← HF1.out] at q1
        have q2 := HQ.out.cell 2
        rw [List.getElem?_toArray, HEND.out i 2 (by rw [← HL.out]; exact HM.out) (by decide), ← HF2.out] at q2
        have q3 := HQ.out.cell 3
        rw [List.getElem?_toArray, HEND.out i 3 (by rw [← HL.out]; exact HM.out) (by decide), ← HF3.out] at q3
        have q4 := HQ.out.cell 4
        rw [List.getElem?_toArray, HEND.out i 4 (by rw [← HL.out]; exact HM.out) (by decide), ← HF4.out] at q4
        have q5 := HQ.out.cell 5
        rw [List.getElem?_toArray, HEND.out i 5 (by rw [← HL.out]; exact HM.out) (by decide), ← HF5.out] at q5
        have q6 := HQ.out.cell 6
        rw [List.getElem?_toArray, HEND.out i 6 (by rw [← HL.out]; exact HM.out) (by decide), ← HF6.out] at q6
        have q7 := HQ.out.cell 7
        rw [List.getElem?_toArray, HEND.out i 7 (by rw [← HL.out]; exact HM.out) (by decide), ← HF7.out] at q7
        have z0 : wr.cell? ⟨w.heap.size, 0, none⟩ = some (.int .i64 0) := HR.out.cell 0
        have e0 := HR.out.free 0
        have z1 : wr.cell? ⟨w.heap.size, 1, none⟩ = some (.int .i64 0) := HR.out.cell 1
        have e1 := HR.out.free 1
        have z2 : wr.cell? ⟨w.heap.size, 2, none⟩ = some (.int .i64 0) := HR.out.cell 2
        have e2 := HR.out.free 2
        have z3 : wr.cell? ⟨w.heap.size, 3, none⟩ = some (.int .i64 0) := HR.out.cell 3
        have e3 := HR.out.free 3
        have z4 : wr.cell? ⟨w.heap.size, 4, none⟩ = some (.int .i64 0) := HR.out.cell 4
        have e4 := HR.out.free 4
        have z5 : wr.cell? ⟨w.heap.size, 5, none⟩ = some (.int .i64 0) := HR.out.cell 5
        have e5 := HR.out.free 5
        have z6 : wr.cell? ⟨w.heap.size, 6, none⟩ = some (.int .i64 0) := HR.out.cell 6
        have e6 := HR.out.free 6
        have z7 : wr.cell? ⟨w.heap.size, 7, none⟩ = some (.int .i64 0) := HR.out.cell 7
        have e7 := HR.out.free 7
        go_wp2_with fail
        have hF0 := HR.out
        have hF1 : Bk _ _ #[.int .i64 f0, .int .i64 0, .int .i64 0, .int .i64 0, .int .i64 0, .int .i64 0, .int .i64 0, .int .i64 0] _ := hF0.put 0 (.int .i64 f0)
        clear hF0
        have hF2 : Bk _ _ #[.int .i64 f0, .int .i64 f1, .int .i64 0, .int .i64 0, .int .i64 0, .int .i64 0, .int .i64 0, .int .i64 0] _ := hF1.put 1 (.int .i64 f1)
        clear hF1
        have hF3 : Bk _ _ #[.int .i64 f0, .int .i64 f1, .int .i64 f2, .int .i64 0, .int .i64 0, .int .i64 0, .int .i64 0, .int .i64 0] _ := hF2.put 2 (.int .i64 f2)
        clear hF2
        have hF4 : Bk _ _ #[.int .i64 f0, .int .i64 f1, .int .i64 f2, .int .i64 f3, .int .i64 0, .int .i64 0, .int .i64 0, .int .i64 0] _ := hF3.put 3 (.int .i64 f3)
        clear hF3
        have hF5 : Bk _ _ #[.int .i64 f0, .int .i64 f1, .int .i64 f2, .int .i64 f3, .int .i64 f4, .int .i64 0, .int .i64 0, .int .i64 0] _ := hF4.put 4 (.int .i64 f4)
        clear hF4
        have hF6 : Bk _ _ #[.int .i64 f0, .int .i64 f1, .int .i64 f2, .int .i64 f3, .int .i64 f4, .int .i64 f5, .int .i64 0, .int .i64 0] _ := hF5.put 5 (.int .i64 f5)
        clear hF5
        have hF7 : Bk _ _ #[.int .i64 f0, .int .i64 f1, .int .i64 f2, .int .i64 f3, .int .i64 f4, .int .i64 f5, .int .i64 f6, .int .i64 0] _ := hF6.put 6 (.int .i64 f6)
        clear hF6
        have hF8 : Bk _ _ #[.int .i64 f0, .int .i64 f1, .int .i64 f2, .int .i64 f3, .int .i64 f4, .int .i64 f5, .int .i64 f6, .int .i64 f7] _ := hF7.put 7 (.int .i64 f7)
        clear hF7
        have hB9 := ((((((((HB.out.setCell (p := ⟨w.heap.size, 0, none⟩) (Nat.le_refl _) (.int .i64 f0)).setCell (p := ⟨w.heap.size, 1, none⟩) (Nat.le_refl _) (.int .i64 f1)).setCell (p := ⟨w.heap.size, 2, none⟩) (Nat.le_refl _) (.int .i64 f2)).setCell (p := ⟨w.heap.size, 3, none⟩) (Nat.le_refl _) (.int .i64 f3)).setCell (p := ⟨w.heap.size, 4, none⟩) (Nat.le_refl _) (.int .i64 f4)).setCell (p := ⟨w.heap.size, 5, none⟩) (Nat.le_refl _) (.int .i64 f5)).setCell (p := ⟨w.heap.size, 6, none⟩) (Nat.le_refl _) (.int .i64 f6)).setCell (p := ⟨w.heap.size, 7, none⟩) (Nat.le_refl _) (.int .i64 f7))
        generalize ((((((((wr.setCell ⟨w.heap.size, 0, none⟩ (.int .i64 f0)).setCell ⟨w.heap.size, 1, none⟩ (.int .i64 f1)).setCell ⟨w.heap.size, 2, none⟩ (.int .i64 f2)).setCell ⟨w.heap.size, 3, none⟩ (.int .i64 f3)).setCell ⟨w.heap.size, 4, none⟩ (.int .i64 f4)).setCell ⟨w.heap.size, 5, none⟩ (.int .i64 f5)).setCell ⟨w.heap.size, 6, none⟩ (.int .i64 f6)).setCell ⟨w.heap.size, 7, none⟩ (.int .i64 f7)) = w9 at hF8 hB9 ⊢
        have fc0 : w9.cell? ⟨w.heap.size, 0, none⟩ = some (.int .i64 f0) := hF8.cell 0
        have fc1 : w9.cell? ⟨w.heap.size, 1, none⟩ = some (.int .i64 f1) := hF8.cell 1
        have fc2 : w9.cell? ⟨w.heap.size, 2, none⟩ = some (.int .i64 f2) := hF8.cell 2
        have fc3 : w9.cell? ⟨w.heap.size, 3, none⟩ = some (.int .i64 f3) := hF8.cell 3
        have fc4 : w9.cell? ⟨w.heap.size, 4, none⟩ = some (.int .i64 f4) := hF8.cell 4
        have fc5 : w9.cell? ⟨w.heap.size, 5, none⟩ = some (.int .i64 f5) := hF8.cell 5
        have fc6 : w9.cell? ⟨w.heap.size, 6, none⟩ = some (.int .i64 f6) := hF8.cell 6
        have fc7 : w9.cell? ⟨w.heap.size, 7, none⟩ = some (.int .i64 f7) := hF8.cell 7
        exact bodyPost_ret (v := .agg #[.int .i64 f0, .int .i64 f1, .int .i64 f2, .int .i64 f3, .int .i64 f4, .int .i64 f5, .int .i64 f6, .int .i64 f7]) (by simp [results, Tryz.results182, go_sem, fc0, fc1, fc2, fc3, fc4, fc5, fc6, fc7]) rfl ⟨rfl, hB9⟩
  · have hle8 : ¬ (L : Int) ≤ 8 := by omega
    have hle9 : (8 : Int) ≤ c := by omega
    have hle7 : (8 : Int) ≤ L := by omega
    have HM := Lib.hid (show 8 = min L 8 by omega)
    clear hL8
    go_enter Tryz.func182, Tryz.ntmps182
    go_wp2
    go_loopw [12] (fun iv wr => ∃ i : Nat, i ≤ 8 ∧ iv = .int .i64 i ∧ Bk wr w.heap.size #[.int .i64 0, .int .i64 0, .int .i64 0, .int .i64 0, .int .i64 0, .int .i64 0, .int .i64 0, .int .i64 0] 186 ∧ Bk wr (w.heap.size + 1) (fbR l i).toArray 186 ∧ Below w.heap.size w wr) (fun iv _ => 8 - (intOf iv).toNat)
    case atStart => exact ⟨0, Nat.zero_le _, rfl, HR.out, HQ.out, HB.out⟩
    case round =>
      obtain ⟨i, hi, rfl, hr, hq, hbel⟩ := hrel
      replace HB := Lib.hid hbel
      replace HR := Lib.hid hr
      replace HQ := Lib.hid hq
      clear hr hq hbel
      by_cases hlt : i < 8
      · obtain ⟨b, off, rfl, hb, g0⟩ := HC.out i (by rw [← HL.out]; have := HM.out; omega)
        rw [← HB.out.cell (p := ⟨b, _, none⟩) hb] at g0
        have hv := HV.out i (by rw [← HL.out]; have := HM.out; omega)
        have h8 : (i : Int) < 8 := by have := HM.out; omega
        have hiL : (i : Int) < L := by have := HM.out; omega
        have hq1 := HQ.out.cell i
        rw [List.getElem?_toArray, HAT.out i i (by omega), if_neg (Nat.lt_irrefl i)] at hq1
        have hf1 := HQ.out.free i
        have hn := HQ.out.put i (.int .i64 (fbV l i))
        rw [HSET.out i (by omega)] at hn
        have hrn := HR.out.far (p := ⟨w.heap.size + 1, i, none⟩) (by simp) (.int .i64 (fbV l i))
        have hbn := HB.out.setCell (p := ⟨w.heap.size + 1, i, none⟩) (by simp) (.int .i64 (fbV l i))
        have HN := Lib.hid hn
        have HRN := Lib.hid hrn
        have HBN := Lib.hid hbn
        clear hn hrn hbn
        generalize fbV l i = y at hv HN HRN HBN
        generalize l.getD i 0 = x at g0 hv
        replace hv := hv.symm
        go_wp2
        go_roundw
        case rel => exact ⟨i + 1, by omega, by go_num, HRN.out, HN.out, HBN.out⟩
        case measure => simp [intOf]; omega
      · obtain rfl : i = 8 := by omega
        have q0 := HQ.out.cell 0
        rw [List.getElem?_toArray, HEND.out 8 0 (by rw [← HL.out]; exact HM.out) (by decide), ← HF0.out] at q0
        have q1 := HQ.out.cell 1
        rw [List.getElem?_toArray, HEND.out 8 1 (by rw [← HL.out]; exact HM.out) (by decide), ← HF1.out] at q1
        have q2 := HQ.out.cell 2
        rw [List.getElem?_toArray, HEND.out 8 2 (by rw [← HL.out]; exact HM.out) (by decide), ← HF2.out] at q2
        have q3 := HQ.out.cell 3
        rw [List.getElem?_toArray, HEND.out 8 3 (by rw [← HL.out]; exact HM.out) (by decide), ← HF3.out] at q3
        have q4 := HQ.out.cell 4
        rw [List.getElem?_toArray, HEND.out 8 4 (by rw [← HL.out]; exact HM.out) (by decide), ← HF4.out] at q4
        have q5 := HQ.out.cell 5
        rw [List.getElem?_toArray, HEND.out 8 5 (by rw [← HL.out]; exact HM.out) (by decide), ← HF5.out] at q5
        have q6 := HQ.out.cell 6
        rw [List.getElem?_toArray, HEND.out 8 6 (by rw [← HL.out]; exact HM.out) (by decide), ← HF6.out] at q6
        have q7 := HQ.out.cell 7
        rw [List.getElem?_toArray, HEND.out 8 7 (by rw [← HL.out]; exact HM.out) (by decide), ← HF7.out] at q7
        have z0 : wr.cell? ⟨w.heap.size, 0, none⟩ = some (.int .i64 0) := HR.out.cell 0
        have e0 := HR.out.free 0
        have z1 : wr.cell? ⟨w.heap.size, 1, none⟩ = some (.int .i64 0) := HR.out.cell 1
        have e1 := HR.out.free 1
        have z2 : wr.cell? ⟨w.heap.size, 2, none⟩ = some (.int .i64 0) := HR.out.cell 2
        have e2 := HR.out.free 2
        have z3 : wr.cell? ⟨w.heap.size, 3, none⟩ = some (.int .i64 0) := HR.out.cell 3
        have e3 := HR.out.free 3
        have z4 : wr.cell? ⟨w.heap.size, 4, none⟩ = some (.int .i64 0) := HR.out.cell 4
        have e4 := HR.out.free 4
        have z5 : wr.cell? ⟨w.heap.size, 5, none⟩ = some (.int .i64 0) := HR.out.cell 5
        have e5 := HR.out.free 5
        have z6 : wr.cell? ⟨w.heap.size, 6, none⟩ = some (.int .i64 0) := HR.out.cell 6
        have e6 := HR.out.free 6
        have z7 : wr.cell? ⟨w.heap.size, 7, none⟩ = some (.int .i64 0) := HR.out.cell 7
        have e7 := HR.out.free 7
        go_wp2_with fail
        have hF0 := HR.out
        have hF1 : Bk _ _ #[.int .i64 f0, .int .i64 0, .int .i64 0, .int .i64 0, .int .i64 0, .int .i64 0, .int .i64 0, .int .i64 0] _ := hF0.put 0 (.int .i64 f0)
        clear hF0
        have hF2 : Bk _ _ #[.int .i64 f0, .int .i64 f1, .int .i64 0, .int .i64 0, .int .i64 0, .int .i64 0, .int .i64 0, .int .i64 0] _ := hF1.put 1 (.int .i64 f1)
        clear hF1
        have hF3 : Bk _ _ #[.int .i64 f0, .int .i64 f1, .int .i64 f2, .int .i64 0, .int .i64 0, .int .i64 0, .int .i64 0, .int .i64 0] _ := hF2.put 2 (.int .i64 f2)
        clear hF2
        have hF4 : Bk _ _ #[.int .i64 f0, .int .i64 f1, .int .i64 f2, .int .i64 f3, .int .i64 0, .int .i64 0, .int .i64 0, .int .i64 0] _ := hF3.put 3 (.int .i64 f3)
        clear hF3
        have hF5 : Bk _ _ #[.int .i64 f0, .int .i64 f1, .int .i64 f2, .int .i64 f3, .int .i64 f4, .int .i64 0, .int .i64 0, .int .i64 0] _ := hF4.put 4 (.int .i64 f4)
        clear hF4
        have hF6 : Bk _ _ #[.int .i64 f0, .int .i64 f1, .int .i64 f2, .int .i64 f3, .int .i64 f4, .int .i64 f5, .int .i64 0, .int .i64 0] _ := hF5.put 5 (.int .i64 f5)
        clear hF5
        have hF7 : Bk _ _ #[.int .i64 f0, .int .i64 f1, .int .i64 f2, .int .i64 f3, .int .i64 f4, .int .i64 f5, .int .i64 f6, .int .i64 0] _ := hF6.put 6 (.int .i64 f6)
        clear hF6
        have hF8 : Bk _ _ #[.int .i64 f0, .int .i64 f1, .int .i64 f2, .int .i64 f3, .int .i64 f4, .int .i64 f5, .int .i64 f6, .int .i64 f7] _ := hF7.put 7 (.int .i64 f7)
        clear hF7
        have hB9 := ((((((((HB.out.setCell (p := ⟨w.heap.size, 0, none⟩) (Nat.le_refl _) (.int .i64 f0)).setCell (p := ⟨w.heap.size, 1, none⟩) (Nat.le_refl _) (.int .i64 f1)).setCell (p := ⟨w.heap.size, 2, none⟩) (Nat.le_refl _) (.int .i64 f2)).setCell (p := ⟨w.heap.size, 3, none⟩) (Nat.le_refl _) (.int .i64 f3)).setCell (p := ⟨w.heap.size, 4, none⟩) (Nat.le_refl _) (.int .i64 f4)).setCell (p := ⟨w.heap.size, 5, none⟩) (Nat.le_refl _) (.int .i64 f5)).setCell (p := ⟨w.heap.size, 6, none⟩) (Nat.le_refl _) (.int .i64 f6)).setCell (p := ⟨w.heap.size, 7, none⟩) (Nat.le_refl _) (.int .i64 f7))
        generalize ((((((((wr.setCell ⟨w.heap.size, 0, none⟩ (.int .i64 f0)).setCell ⟨w.heap.size, 1, none⟩ (.int .i64 f1)).setCell ⟨w.heap.size, 2, none⟩ (.int .i64 f2)).setCell ⟨w.heap.size, 3, none⟩ (.int .i64 f3)).setCell ⟨w.heap.size, 4, none⟩ (.int .i64 f4)).setCell ⟨w.heap.size, 5, none⟩ (.int .i64 f5)).setCell ⟨w.heap.size, 6, none⟩ (.int .i64 f6)).setCell ⟨w.heap.size, 7, none⟩ (.int .i64 f7)) = w9 at hF8 hB9 ⊢
        have fc0 : w9.cell? ⟨w.heap.size, 0, none⟩ = some (.int .i64 f0) := hF8.cell 0
        have fc1 : w9.cell? ⟨w.heap.size, 1, none⟩ = some (.int .i64 f1) := hF8.cell 1
        have fc2 : w9.cell? ⟨w.heap.size, 2, none⟩ = some (.int .i64 f2) := hF8.cell 2
        have fc3 : w9.cell? ⟨w.heap.size, 3, none⟩ = some (.int .i64 f3) := hF8.cell 3
        have fc4 : w9.cell? ⟨w.heap.size, 4, none⟩ = some (.int .i64 f4) := hF8.cell 4
        have fc5 : w9.cell? ⟨w.heap.size, 5, none⟩ = some (.int .i64 f5) := hF8.cell 5
        have fc6 : w9.cell? ⟨w.heap.size, 6, none⟩ = some (.int .i64 f6) := hF8.cell 6
        have fc7 : w9.cell? ⟨w.heap.size, 7, none⟩ = some (.int .i64 f7) := hF8.cell 7
        exact bodyPost_ret (v := .agg #[.int .i64 f0, .int .i64 f1, .int .i64 f2, .int .i64 f3, .int .i64 f4, .int .i64 f5, .int .i64 f6, .int .i64 f7]) (by simp [results, Tryz.results182, go_sem, fc0, fc1, fc2, fc3, fc4, fc5, fc6, fc7]) rfl ⟨rfl, hB9⟩

theorem holds_drop {w : World} {a : Option Addr} {c k : Nat} {l : List Int} (h : NiF.Holds w (.slice a l.length c) l) (hk : k < l.length) : ∃ b o, a = some ⟨b, o, none⟩ ∧ ¬ c = k ∧ NiF.Holds w (.slice (some ⟨b, o + k, none⟩) (l.length - k) (c - k)) (l.drop k) := by
  obtain ⟨a', c', e, hle, hc⟩ := h
  rw [Value.slice.injEq] at e
  obtain ⟨rfl, _, rfl⟩ := e
  obtain ⟨b, o, rfl, hb, _⟩ := hc k hk
  refine ⟨b, o, rfl, by omega, some ⟨b, o + k, none⟩, c - k, by rw [List.length_drop], by rw [List.length_drop]; omega, fun i hi => ⟨b, o + k, rfl, hb, ?_⟩⟩
  rw [List.length_drop] at hi
  obtain ⟨b', o', e, _, hcell⟩ := hc (k + i) (by omega)
  obtain ⟨rfl, rfl⟩ : b = b' ∧ o = o' := by simpa using e
  rw [Nat.add_assoc, hcell, List.getD_eq_getElem?_getD, List.getD_eq_getElem?_getD, List.getElem?_drop]
theorem neq_blocks (xs ys : List Int) (hx : xs.length = 8) (hy : ys.length = 8) (w : World) : Sem.run Tryz.prog (binOp .neq 186 (arr xs) (arr ys)) w = .ok (.bool (!decide (xs = ys))) w :=
  ArrEq.run_neq_ints w 186 3 8 Tryz.underlying186 Tryz.underlying3 (fun w => by simp [go_sem, Tryz.sizeOf3]) xs ys hx hy
theorem guard_blocks (o : BinOp) (x y : Operand) (xs ys : Array Value) (w : World) : Sem.run Tryz.prog (eqGuard o 186 x y (.agg xs) (.agg ys)) w = .ok () w := run_eqGuard_agg w o 186 x y xs ys (by kernel_rfl)
set_option maxRecDepth 100000 in
set_option maxHeartbeats 1600000 in
theorem blocks_any (w : World) (va vb : Value) (xs ys : List Int) (h1 : xs.length ≤ 1073741824) (h2 : ys.length ≤ 1073741824) (hx : ∀ x ∈ xs, Rg x) (hy : ∀ x ∈ ys, Rg x) (ha : NiF.Holds w va xs) (hb : NiF.Holds w vb ys) :
    Calls Tryz.prog 133 #[va, vb] w fun e w' => e = .returned (.bool (decide (xs = ys))) ∧ Below w.heap.size w w' := by
  obtain ⟨a, c, rfl⟩ := NiF.form ha
  obtain ⟨a', c', rfl⟩ := NiF.form hb
  by_cases hl : xs.length = ys.length
  · have HA := Lib.hid ha
    have HB := Lib.hid hb
    have HX := Lib.hid hx
    have HY := Lib.hid hy
    have HE := Lib.hid hl
    rw [← hl]
    clear ha hb hx hy h2 hl
    obtain ⟨L, hL⟩ : ∃ L, L = xs.length := ⟨_, rfl⟩
    have HL := Lib.hid hL
    rw [← hL] at h1 ⊢
    clear hL
    go_enter Tryz.func133, Tryz.ntmps133
    go_wp2
    go_loopw [5] (fun iv wr => ∃ i k : Nat, k = 8 * i ∧ 8 * i ≤ L + 7 ∧ iv = .int .i64 k ∧ Below w.heap.size w wr ∧ ∀ j, j < k → xs.getD j 0 = ys.getD j 0) (fun iv _ => L + 8 - (intOf iv).toNat)
    case atStart => exact ⟨0, 0, rfl, by omega, rfl, Below.refl _ _, fun j hj => absurd hj (Nat.not_lt_zero _)⟩
    case round =>
      obtain ⟨i, k, hk, hki, rfl, hbel, heq⟩ := hrel
      have HBEL := Lib.hid hbel
      have HQ := Lib.hid heq
      have hsz := hbel.size
      have hk7 : k ≤ L + 7 := by omega
      have HK := Lib.hid hk
      clear hbel heq hk hki
      by_cases hlt : k < L
      · obtain ⟨b1, o1, rfl, hc1, hd1⟩ := holds_drop (c := c) (k := k) HA.out (by rw [← HL.out]; exact hlt)
        obtain ⟨b2, o2, rfl, hc2, hd2⟩ := holds_drop (c := c') (k := k) HB.out (by rw [← HE.out, ← HL.out]; exact hlt)
        rw [← HL.out] at hd1
        rw [← HE.out, ← HL.out] at hd2
        have hf1 : ∀ n : Fam.Ix wr, Calls Tryz.prog 182 #[.slice (some ⟨b1, o1 + k, none⟩) (L - k) (c - k)] (Fam.wld wr n) fun e w' => e = .returned (arr (fbL (xs.drop k))) ∧ Below (Fam.wld wr n).heap.size (Fam.wld wr n) w' := fun n => first_any _ _ (xs.drop k) (by rw [List.length_drop, ← HL.out]; omega) (NiF.holds_below hd1 ((HBEL.out.trans (Fam.wld_below wr n |>.mono hsz))))
        have hf2 : ∀ n : Fam.Ix wr, Calls Tryz.prog 182 #[.slice (some ⟨b2, o2 + k, none⟩) (L - k) (c' - k)] (Fam.wld wr n) fun e w' => e = .returned (arr (fbL (ys.drop k))) ∧ Below (Fam.wld wr n).heap.size (Fam.wld wr n) w' := fun n => first_any _ _ (ys.drop k) (by rw [List.length_drop, ← HE.out, ← HL.out]; omega) (NiF.holds_below hd2 ((HBEL.out.trans (Fam.wld_below wr n |>.mono hsz))))
        have hnq := neq_blocks (fbL (xs.drop k)) (fbL (ys.drop k)) (fbL_length _) (fbL_length _)
        have hdl : (xs.drop k).length = (ys.drop k).length := by rw [List.length_drop, List.length_drop, HE.out]
        have hnext : fbL (xs.drop k) = fbL (ys.drop k) → ∀ j, j < k + 8 → xs.getD j 0 = ys.getD j 0 := fun e j hj => by
          by_cases hjk : j < k
          · exact HQ.out j hjk
          · have := fb_eq hdl (fun x hx => HX.out x (List.mem_of_mem_drop hx)) (fun x hx => HY.out x (List.mem_of_mem_drop hx)) e (j - k) (by omega)
            rw [List.getD_eq_getElem?_getD, List.getD_eq_getElem?_getD, List.getElem?_drop, List.getElem?_drop, show k + (j - k) = j from by omega] at this
            rw [List.getD_eq_getElem?_getD, List.getD_eq_getElem?_getD]; exact this
        have hne : fbL (xs.drop k) ≠ fbL (ys.drop k) → xs ≠ ys := fun h e => h (by rw [e])
        have HNX := Lib.hid hnext
        have HNE := Lib.hid hne
        have HF1 := Lib.hid hf1
        have HF2 := Lib.hid hf2
        clear hnext hne hf1 hf2 hd1 hd2 hdl
        have hg := guard_blocks
        generalize fbL (xs.drop k) = A1 at HF1 HNX HNE hnq
        generalize fbL (ys.drop k) = A2 at HF2 HNX HNE hnq
        by_cases hq : A1 = A2
        · have HN := Lib.hid (HNX.out hq)
          rw [decide_eq_true hq] at hnq
          clear hq
          unfold arr at hnq HF1 HF2
          generalize (A1.map (Value.int .i64)).toArray = B1 at hnq HF1
          generalize (A2.map (Value.int .i64)).toArray = B2 at hnq HF2
          replace hnq : ∀ w : World, Sem.run Tryz.prog (binOp .neq 186 (.agg B1) (.agg B2)) w = .ok (.bool false) w := hnq
          go_wp2
          refine Fam.region (by kernel_rfl) (by kernel_rfl) ?_
          repeat (go_big_quiet_step (first | (go_at_call 182; with_reducible refine Fam.calls (HF1.out _)) | (go_at_call 182; with_reducible refine Fam.calls (HF2.out _))))
          refine wpQuiet_nil ?_
          intro _ hw'
          obtain ⟨nq, hw''⟩ := hw'
          subst hw''
          have hbq := Fam.wld_below wr nq
          generalize Fam.wld wr nq = w9 at hbq ⊢
          have HB9 := Lib.hid (HBEL.out.trans (hbq.mono hsz))
          clear hbq
          go_wp2
          go_roundw
          case rel => exact ⟨i + 1, k + 8, by have := HK.out; omega, by have := HK.out; omega, by go_num, HB9.out, HN.out⟩
          case measure => simp [intOf]; omega
        · have HN := Lib.hid (show decide (xs = ys) = false from decide_eq_false (HNE.out hq))
          rw [decide_eq_false hq] at hnq
          clear hq
          unfold arr at hnq HF1 HF2
          generalize (A1.map (Value.int .i64)).toArray = B1 at hnq HF1
          generalize (A2.map (Value.int .i64)).toArray = B2 at hnq HF2
          replace hnq : ∀ w : World, Sem.run Tryz.prog (binOp .neq 186 (.agg B1) (.agg B2)) w = .ok (.bool true) w := hnq
          go_wp2
          refine Fam.region (by kernel_rfl) (by kernel_rfl) ?_
          repeat (go_big_quiet_step (first | (go_at_call 182; with_reducible refine Fam.calls (HF1.out _)) | (go_at_call 182; with_reducible refine Fam.calls (HF2.out _))))
          refine wpQuiet_nil ?_
          intro _ hw'
          obtain ⟨nq, hw''⟩ := hw'
          subst hw''
          have hbq := Fam.wld_below wr nq
          generalize Fam.wld wr nq = w9 at hbq ⊢
          have HB9 := Lib.hid (HBEL.out.trans (hbq.mono hsz))
          clear hbq
          go_wp2
          go_ret
          exact ⟨ret_bool HN.out.symm, HB9.out⟩
      · have HN := Lib.hid (show decide (xs = ys) = true from decide_eq_true (ext_getD HE.out (fun j hj => HQ.out j (by rw [← HL.out] at hj; omega))))
        go_wp2
        go_ret
        exact ⟨ret_bool HN.out.symm, HBEL.out⟩
  · have hd : decide (xs = ys) = false := decide_eq_false (fun h => hl (by rw [h]))
    rw [hd]
    clear ha hb hx hy
    generalize xs.length = L at *
    generalize ys.length = M at *
    go_enter Tryz.func133, Tryz.ntmps133
    go_wp2
    go_ret
    exact ⟨rfl, Below.refl _ _⟩

theorem eql_nums (n m : I) (w : World) : Sem.run Tryz.prog (binOp .eql 139 (.agg #[.int .i64 n.kind, .int .i64 n.mode, .int .i64 n.uid, .int .i64 n.gid, .int .i64 n.links, .int .i64 n.size, .int .i64 n.tick]) (.agg #[.int .i64 m.kind, .int .i64 m.mode, .int .i64 m.uid, .int .i64 m.gid, .int .i64 m.links, .int .i64 m.size, .int .i64 m.tick])) w = .ok (.bool (decide (nums n = nums m))) w :=
  ArrEq.run_eql_ints w 139 3 7 Tryz.underlying139 Tryz.underlying3 (fun w => by simp [go_sem, Tryz.sizeOf3]) (nums n) (nums m) rfl rfl
theorem guard_nums (o : BinOp) (x y : Operand) (xs ys : Array Value) (w : World) : Sem.run Tryz.prog (eqGuard o 139 x y (.agg xs) (.agg ys)) w = .ok () w := run_eqGuard_agg w o 139 x y xs ys (by kernel_rfl)
set_option maxRecDepth 100000 in
set_option maxHeartbeats 3200000 in
theorem same_impl (w : World) (va vb : Value) (n m : I) (hn : In.cost n ≤ 1073741824) (hm : In.cost m ≤ 1073741824) (hx : ∀ x ∈ n.blocks, Rg x) (hy : ∀ x ∈ m.blocks, Rg x) (h : In.Holds w va n) (h' : In.Holds w vb m) :
    Calls Tryz.prog 68 #[va, vb] w fun e w' => e = .returned (.bool (sameB n m)) ∧ Below w.heap.size w w' := by
  have hn1 : n.blocks.length ≤ 1073741824 := Nat.le_trans (In.le_blocks n) hn
  have hn2 : n.acl.length ≤ 1073741824 := Nat.le_trans (In.le_acl n) hn
  have hn3 : n.dflt.length ≤ 1073741824 := Nat.le_trans (In.le_dflt n) hn
  have hm1 : m.blocks.length ≤ 1073741824 := Nat.le_trans (In.le_blocks m) hm
  have hm2 : m.acl.length ≤ 1073741824 := Nat.le_trans (In.le_acl m) hm
  have hm3 : m.dflt.length ≤ 1073741824 := Nat.le_trans (In.le_dflt m) hm
  have HX1 := Lib.hid hx
  have HY1 := Lib.hid hy
  clear hx hy hn hm
  obtain ⟨r0, r1, r2, rfl, g0, g1, g2⟩ := h
  obtain ⟨s0, s1, s2, rfl, k0, k1, k2⟩ := h'
  have H0 := Lib.hid g0
  have H1 := Lib.hid g1
  have H2 := Lib.hid g2
  have K0 := Lib.hid k0
  have K1 := Lib.hid k1
  have K2 := Lib.hid k2
  clear g0 g1 g2 k0 k1 k2
  have HS := Lib.hid (same_eq n m)
  have hql := eql_nums n m
  have hgd := guard_nums
  have HB := Lib.hid (((Below.refl w.heap.size w).alloc (Nat.le_refl _) (.cells #[.int .i64 n.kind, .int .i64 n.mode, .int .i64 n.uid, .int .i64 n.gid, .int .i64 n.links, .int .i64 n.size, .int .i64 n.tick, r0, r1, r2] 34)).alloc (by simp) (.cells #[.int .i64 m.kind, .int .i64 m.mode, .int .i64 m.uid, .int .i64 m.gid, .int .i64 m.links, .int .i64 m.size, .int .i64 m.tick, s0, s1, s2] 34))
  have HX := Lib.hid ((new w #[.int .i64 n.kind, .int .i64 n.mode, .int .i64 n.uid, .int .i64 n.gid, .int .i64 n.links, .int .i64 n.size, .int .i64 n.tick, r0, r1, r2] 34).alloc (.cells #[.int .i64 m.kind, .int .i64 m.mode, .int .i64 m.uid, .int .i64 m.gid, .int .i64 m.links, .int .i64 m.size, .int .i64 m.tick, s0, s1, s2] 34))
  have HY := Lib.hid (new_at (w.alloc (.cells #[.int .i64 n.kind, .int .i64 n.mode, .int .i64 n.uid, .int .i64 n.gid, .int .i64 n.links, .int .i64 n.size, .int .i64 n.tick, r0, r1, r2] 34)) #[.int .i64 m.kind, .int .i64 m.mode, .int .i64 m.uid, .int .i64 m.gid, .int .i64 m.links, .int .i64 m.size, .int .i64 m.tick, s0, s1, s2] 34 (w.heap.size + 1) (by simp))
  by_cases ha : n.acl = m.acl
  · have HA := Lib.hid (show decide (n.acl = m.acl) = true from decide_eq_true ha)
    clear ha
    replace HS := Lib.hid (show sameB n m = (decide (nums n = nums m) && decide (n.blocks = m.blocks) && decide (n.dflt = m.dflt)) by rw [HS.out, HA.out]; cases decide (nums n = nums m) <;> cases decide (n.blocks = m.blocks) <;> simp)
    by_cases hnm : nums n = nums m
    · have HN := Lib.hid (show decide (nums n = nums m) = true from decide_eq_true hnm)
      rw [HN.out] at hql
      replace HS := Lib.hid (HS.out.trans (by rw [HN.out]))
      clear hnm
      go_enter Tryz.func68, Tryz.ntmps68
      go_wp2_with fail
      refine (InEq.equal_ents _ r1 s1 n.acl m.acl hn2 hm2 (Ae.holds_below H1.out HB.out) (Ae.holds_below K1.out HB.out)).mono ?_
      rintro e w1 ⟨rfl, hb⟩
      rw [HA.out]
      replace HX := Lib.hid (HX.out.all hb)
      replace HY := Lib.hid (HY.out.all hb)
      replace HB := Lib.hid (HB.out.trans (hb.mono HB.out.size))
      clear hb
      obtain ⟨x0, x1, x2, x3, x4, x5, x6, x7, x8, x9⟩ := Bk.c10 HX.out
      obtain ⟨y0, y1, y2, y3, y4, y5, y6, y7, y8, y9⟩ := Bk.c10 HY.out
      go_wp2_with fail
      refine (InEq.equal_ents _ r2 s2 n.dflt m.dflt hn3 hm3 (Ae.holds_below H2.out HB.out) (Ae.holds_below K2.out HB.out)).mono ?_
      rintro e w2 ⟨rfl, hb⟩
      replace HX := Lib.hid (HX.out.all hb)
      replace HY := Lib.hid (HY.out.all hb)
      replace HB := Lib.hid (HB.out.trans (hb.mono HB.out.size))
      clear hb x0 y0 x1 y1 x2 y2 x3 y3 x4 y4 x5 y5 x6 y6 x7 y7 x8 y8 x9 y9
      obtain ⟨x0, x1, x2, x3, x4, x5, x6, x7, x8, x9⟩ := Bk.c10 HX.out
      obtain ⟨y0, y1, y2, y3, y4, y5, y6, y7, y8, y9⟩ := Bk.c10 HY.out
      generalize decide (n.dflt = m.dflt) = D at HS ⊢
      by_cases hbl : n.blocks = m.blocks
      · have HBL := Lib.hid (show decide (n.blocks = m.blocks) = true from decide_eq_true hbl)
        have HV := Lib.hid (show sameB n m = D by rw [HS.out, HBL.out]; simp)
        clear hbl
        go_wp2
        have hs9 : w.heap.size + 1 < w2.heap.size := HY.out.lt
        have hs8 : w.heap.size < w2.heap.size := by omega
        have u0 := Fam.cell (W := w2) (p := ⟨w.heap.size, 0, none⟩) hs8 x0
        have v0 := Fam.cell (W := w2) (p := ⟨w.heap.size + 1, 0, none⟩) hs9 y0
        have u1 := Fam.cell (W := w2) (p := ⟨w.heap.size, 1, none⟩) hs8 x1
        have v1 := Fam.cell (W := w2) (p := ⟨w.heap.size + 1, 1, none⟩) hs9 y1
        have u2 := Fam.cell (W := w2) (p := ⟨w.heap.size, 2, none⟩) hs8 x2
        have v2 := Fam.cell (W := w2) (p := ⟨w.heap.size + 1, 2, none⟩) hs9 y2
        have u3 := Fam.cell (W := w2) (p := ⟨w.heap.size, 3, none⟩) hs8 x3
        have v3 := Fam.cell (W := w2) (p := ⟨w.heap.size + 1, 3, none⟩) hs9 y3
        have u4 := Fam.cell (W := w2) (p := ⟨w.heap.size, 4, none⟩) hs8 x4
        have v4 := Fam.cell (W := w2) (p := ⟨w.heap.size + 1, 4, none⟩) hs9 y4
        have u5 := Fam.cell (W := w2) (p := ⟨w.heap.size, 5, none⟩) hs8 x5
        have v5 := Fam.cell (W := w2) (p := ⟨w.heap.size + 1, 5, none⟩) hs9 y5
        have u6 := Fam.cell (W := w2) (p := ⟨w.heap.size, 6, none⟩) hs8 x6
        have v6 := Fam.cell (W := w2) (p := ⟨w.heap.size + 1, 6, none⟩) hs9 y6
        have u7 := Fam.cell (W := w2) (p := ⟨w.heap.size, 7, none⟩) hs8 x7
        have v7 := Fam.cell (W := w2) (p := ⟨w.heap.size + 1, 7, none⟩) hs9 y7
        have u8 := Fam.cell (W := w2) (p := ⟨w.heap.size, 8, none⟩) hs8 x8
        have v8 := Fam.cell (W := w2) (p := ⟨w.heap.size + 1, 8, none⟩) hs9 y8
        have u9 := Fam.cell (W := w2) (p := ⟨w.heap.size, 9, none⟩) hs8 x9
        have v9 := Fam.cell (W := w2) (p := ⟨w.heap.size + 1, 9, none⟩) hs9 y9
        have HSB := Lib.hid (fun k : Fam.Ix w2 => blocks_any (Fam.wld w2 k) r0 s0 n.blocks m.blocks hn1 hm1 HX1.out HY1.out (NiF.holds_below H0.out (HB.out.trans (Fam.wld_below w2 k |>.mono HB.out.size))) (NiF.holds_below K0.out (HB.out.trans (Fam.wld_below w2 k |>.mono HB.out.size))))
        rw [HBL.out] at HSB
        refine Fam.region (by kernel_rfl) (by kernel_rfl) ?_
        repeat (go_big_quiet_step (first | (go_at_call 132; with_reducible refine Fam.calls (numbers_any _ n r0 r1 r2)) | (go_at_call 132; with_reducible refine Fam.calls (numbers_any _ m s0 s1 s2)) | (go_at_call 133; with_reducible refine Fam.calls (HSB.out _))))
        refine wpQuiet_nil ?_
        intro _ hw'
        obtain ⟨nq, hw''⟩ := hw'
        subst hw''
        have hbq := Fam.wld_below w2 nq
        generalize Fam.wld w2 nq = w9 at hbq ⊢
        have HB9 := Lib.hid (HB.out.trans (hbq.mono HB.out.size))
        clear hbq
        go_wp2
        go_ret
        exact ⟨ret_bool HV.out.symm, HB9.out⟩
      · have HBL := Lib.hid (show decide (n.blocks = m.blocks) = false from decide_eq_false hbl)
        have HV := Lib.hid (show sameB n m = false by rw [HS.out, HBL.out]; simp)
        clear hbl
        go_wp2
        have hs9 : w.heap.size + 1 < w2.heap.size := HY.out.lt
        have hs8 : w.heap.size < w2.heap.size := by omega
        have u0 := Fam.cell (W := w2) (p := ⟨w.heap.size, 0, none⟩) hs8 x0
        have v0 := Fam.cell (W := w2) (p := ⟨w.heap.size + 1, 0, none⟩) hs9 y0
        have u1 := Fam.cell (W := w2) (p := ⟨w.heap.size, 1, none⟩) hs8 x1
        have v1 := Fam.cell (W := w2) (p := ⟨w.heap.size + 1, 1, none⟩) hs9 y1
        have u2 := Fam.cell (W := w2) (p := ⟨w.heap.size, 2, none⟩) hs8 x2
        have v2 := Fam.cell (W := w2) (p := ⟨w.heap.size + 1, 2, none⟩) hs9 y2
        have u3 := Fam.cell (W := w2) (p := ⟨w.heap.size, 3, none⟩) hs8 x3
        have v3 := Fam.cell (W := w2) (p := ⟨w.heap.size + 1, 3, none⟩) hs9 y3
        have u4 := Fam.cell (W := w2) (p := ⟨w.heap.size, 4, none⟩) hs8 x4
        have v4 := Fam.cell (W := w2) (p := ⟨w.heap.size + 1, 4, none⟩) hs9 y4
        have u5 := Fam.cell (W := w2) (p := ⟨w.heap.size, 5, none⟩) hs8 x5
        have v5 := Fam.cell (W := w2) (p := ⟨w.heap.size + 1, 5, none⟩) hs9 y5
        have u6 := Fam.cell (W := w2) (p := ⟨w.heap.size, 6, none⟩) hs8 x6
        have v6 := Fam.cell (W := w2) (p := ⟨w.heap.size + 1, 6, none⟩) hs9 y6
        have u7 := Fam.cell (W := w2) (p := ⟨w.heap.size, 7, none⟩) hs8 x7
        have v7 := Fam.cell (W := w2) (p := ⟨w.heap.size + 1, 7, none⟩) hs9 y7
        have u8 := Fam.cell (W := w2) (p := ⟨w.heap.size, 8, none⟩) hs8 x8
        have v8 := Fam.cell (W := w2) (p := ⟨w.heap.size + 1, 8, none⟩) hs9 y8
        have u9 := Fam.cell (W := w2) (p := ⟨w.heap.size, 9, none⟩) hs8 x9
        have v9 := Fam.cell (W := w2) (p := ⟨w.heap.size + 1, 9, none⟩) hs9 y9
        have HSB := Lib.hid (fun k : Fam.Ix w2 => blocks_any (Fam.wld w2 k) r0 s0 n.blocks m.blocks hn1 hm1 HX1.out HY1.out (NiF.holds_below H0.out (HB.out.trans (Fam.wld_below w2 k |>.mono HB.out.size))) (NiF.holds_below K0.out (HB.out.trans (Fam.wld_below w2 k |>.mono HB.out.size))))
        rw [HBL.out] at HSB
        refine Fam.region (by kernel_rfl) (by kernel_rfl) ?_
        repeat (go_big_quiet_step (first | (go_at_call 132; with_reducible refine Fam.calls (numbers_any _ n r0 r1 r2)) | (go_at_call 132; with_reducible refine Fam.calls (numbers_any _ m s0 s1 s2)) | (go_at_call 133; with_reducible refine Fam.calls (HSB.out _))))
        refine wpQuiet_nil ?_
        intro _ hw'
        obtain ⟨nq, hw''⟩ := hw'
        subst hw''
        have hbq := Fam.wld_below w2 nq
        generalize Fam.wld w2 nq = w9 at hbq ⊢
        have HB9 := Lib.hid (HB.out.trans (hbq.mono HB.out.size))
        clear hbq
        go_wp2
        go_ret
        exact ⟨ret_bool HV.out.symm, HB9.out⟩
    · have HN := Lib.hid (show decide (nums n = nums m) = false from decide_eq_false hnm)
      rw [HN.out] at hql
      have HV := Lib.hid (show sameB n m = false by rw [HS.out, HN.out]; simp)
      clear hnm
      go_enter Tryz.func68, Tryz.ntmps68
      go_wp2_with fail
      refine (InEq.equal_ents _ r1 s1 n.acl m.acl hn2 hm2 (Ae.holds_below H1.out HB.out) (Ae.holds_below K1.out HB.out)).mono ?_
      rintro e w1 ⟨rfl, hb⟩
      rw [HA.out]
      replace HX := Lib.hid (HX.out.all hb)
      replace HY := Lib.hid (HY.out.all hb)
      replace HB := Lib.hid (HB.out.trans (hb.mono HB.out.size))
      clear hb
      obtain ⟨x0, x1, x2, x3, x4, x5, x6, x7, x8, x9⟩ := Bk.c10 HX.out
      obtain ⟨y0, y1, y2, y3, y4, y5, y6, y7, y8, y9⟩ := Bk.c10 HY.out
      go_wp2_with fail
      refine (InEq.equal_ents _ r2 s2 n.dflt m.dflt hn3 hm3 (Ae.holds_below H2.out HB.out) (Ae.holds_below K2.out HB.out)).mono ?_
      rintro e w2 ⟨rfl, hb⟩
      replace HX := Lib.hid (HX.out.all hb)
      replace HY := Lib.hid (HY.out.all hb)
      replace HB := Lib.hid (HB.out.trans (hb.mono HB.out.size))
      clear hb x0 y0 x1 y1 x2 y2 x3 y3 x4 y4 x5 y5 x6 y6 x7 y7 x8 y8 x9 y9
      obtain ⟨x0, x1, x2, x3, x4, x5, x6, x7, x8, x9⟩ := Bk.c10 HX.out
      obtain ⟨y0, y1, y2, y3, y4, y5, y6, y7, y8, y9⟩ := Bk.c10 HY.out
      generalize decide (n.dflt = m.dflt) = D at HS ⊢
      go_wp2
      have hs9 : w.heap.size + 1 < w2.heap.size := HY.out.lt
      have hs8 : w.heap.size < w2.heap.size := by omega
      have u0 := Fam.cell (W := w2) (p := ⟨w.heap.size, 0, none⟩) hs8 x0
      have v0 := Fam.cell (W := w2) (p := ⟨w.heap.size + 1, 0, none⟩) hs9 y0
      have u1 := Fam.cell (W := w2) (p := ⟨w.heap.size, 1, none⟩) hs8 x1
      have v1 := Fam.cell (W := w2) (p := ⟨w.heap.size + 1, 1, none⟩) hs9 y1
      have u2 := Fam.cell (W := w2) (p := ⟨w.heap.size, 2, none⟩) hs8 x2
      have v2 := Fam.cell (W := w2) (p := ⟨w.heap.size + 1, 2, none⟩) hs9 y2
      have u3 := Fam.cell (W := w2) (p := ⟨w.heap.size, 3, none⟩) hs8 x3
      have v3 := Fam.cell (W := w2) (p := ⟨w.heap.size + 1, 3, none⟩) hs9 y3
      have u4 := Fam.cell (W := w2) (p := ⟨w.heap.size, 4, none⟩) hs8 x4
      have v4 := Fam.cell (W := w2) (p := ⟨w.heap.size + 1, 4, none⟩) hs9 y4
      have u5 := Fam.cell (W := w2) (p := ⟨w.heap.size, 5, none⟩) hs8 x5
      have v5 := Fam.cell (W := w2) (p := ⟨w.heap.size + 1, 5, none⟩) hs9 y5
      have u6 := Fam.cell (W := w2) (p := ⟨w.heap.size, 6, none⟩) hs8 x6
      have v6 := Fam.cell (W := w2) (p := ⟨w.heap.size + 1, 6, none⟩) hs9 y6
      have u7 := Fam.cell (W := w2) (p := ⟨w.heap.size, 7, none⟩) hs8 x7
      have v7 := Fam.cell (W := w2) (p := ⟨w.heap.size + 1, 7, none⟩) hs9 y7
      have u8 := Fam.cell (W := w2) (p := ⟨w.heap.size, 8, none⟩) hs8 x8
      have v8 := Fam.cell (W := w2) (p := ⟨w.heap.size + 1, 8, none⟩) hs9 y8
      have u9 := Fam.cell (W := w2) (p := ⟨w.heap.size, 9, none⟩) hs8 x9
      have v9 := Fam.cell (W := w2) (p := ⟨w.heap.size + 1, 9, none⟩) hs9 y9
      have HSB := Lib.hid (fun k : Fam.Ix w2 => blocks_any (Fam.wld w2 k) r0 s0 n.blocks m.blocks hn1 hm1 HX1.out HY1.out (NiF.holds_below H0.out (HB.out.trans (Fam.wld_below w2 k |>.mono HB.out.size))) (NiF.holds_below K0.out (HB.out.trans (Fam.wld_below w2 k |>.mono HB.out.size))))
      refine Fam.region (by kernel_rfl) (by kernel_rfl) ?_
      repeat (go_big_quiet_step (first | (go_at_call 132; with_reducible refine Fam.calls (numbers_any _ n r0 r1 r2)) | (go_at_call 132; with_reducible refine Fam.calls (numbers_any _ m s0 s1 s2)) | (go_at_call 133; with_reducible refine Fam.calls (HSB.out _))))
      refine wpQuiet_nil ?_
      intro _ hw'
      obtain ⟨nq, hw''⟩ := hw'
      subst hw''
      have hbq := Fam.wld_below w2 nq
      generalize Fam.wld w2 nq = w9 at hbq ⊢
      have HB9 := Lib.hid (HB.out.trans (hbq.mono HB.out.size))
      clear hbq
      go_wp2
      go_ret
      exact ⟨ret_bool HV.out.symm, HB9.out⟩
  · have HA := Lib.hid (show decide (n.acl = m.acl) = false from decide_eq_false ha)
    clear ha
    replace HS := Lib.hid (show sameB n m = (decide (nums n = nums m) && decide (n.blocks = m.blocks) && false) by rw [HS.out, HA.out]; cases decide (nums n = nums m) <;> cases decide (n.blocks = m.blocks) <;> simp)
    by_cases hnm : nums n = nums m
    · have HN := Lib.hid (show decide (nums n = nums m) = true from decide_eq_true hnm)
      rw [HN.out] at hql
      replace HS := Lib.hid (HS.out.trans (by rw [HN.out]))
      clear hnm
      go_enter Tryz.func68, Tryz.ntmps68
      go_wp2_with fail
      refine (InEq.equal_ents _ r1 s1 n.acl m.acl hn2 hm2 (Ae.holds_below H1.out HB.out) (Ae.holds_below K1.out HB.out)).mono ?_
      rintro e w1 ⟨rfl, hb⟩
      rw [HA.out]
      replace HX := Lib.hid (HX.out.all hb)
      replace HY := Lib.hid (HY.out.all hb)
      replace HB := Lib.hid (HB.out.trans (hb.mono HB.out.size))
      clear hb
      obtain ⟨x0, x1, x2, x3, x4, x5, x6, x7, x8, x9⟩ := Bk.c10 HX.out
      obtain ⟨y0, y1, y2, y3, y4, y5, y6, y7, y8, y9⟩ := Bk.c10 HY.out
      by_cases hbl : n.blocks = m.blocks
      · have HBL := Lib.hid (show decide (n.blocks = m.blocks) = true from decide_eq_true hbl)
        have HV := Lib.hid (show sameB n m = false by rw [HS.out, HBL.out]; simp)
        clear hbl
        go_wp2
        have hs9 : w.heap.size + 1 < w1.heap.size := HY.out.lt
        have hs8 : w.heap.size < w1.heap.size := by omega
        have u0 := Fam.cell (W := w1) (p := ⟨w.heap.size, 0, none⟩) hs8 x0
        have v0 := Fam.cell (W := w1) (p := ⟨w.heap.size + 1, 0, none⟩) hs9 y0
        have u1 := Fam.cell (W := w1) (p := ⟨w.heap.size, 1, none⟩) hs8 x1
        have v1 := Fam.cell (W := w1) (p := ⟨w.heap.size + 1, 1, none⟩) hs9 y1
        have u2 := Fam.cell (W := w1) (p := ⟨w.heap.size, 2, none⟩) hs8 x2
        have v2 := Fam.cell (W := w1) (p := ⟨w.heap.size + 1, 2, none⟩) hs9 y2
        have u3 := Fam.cell (W := w1) (p := ⟨w.heap.size, 3, none⟩) hs8 x3
        have v3 := Fam.cell (W := w1) (p := ⟨w.heap.size + 1, 3, none⟩) hs9 y3
        have u4 := Fam.cell (W := w1) (p := ⟨w.heap.size, 4, none⟩) hs8 x4
        have v4 := Fam.cell (W := w1) (p := ⟨w.heap.size + 1, 4, none⟩) hs9 y4
        have u5 := Fam.cell (W := w1) (p := ⟨w.heap.size, 5, none⟩) hs8 x5
        have v5 := Fam.cell (W := w1) (p := ⟨w.heap.size + 1, 5, none⟩) hs9 y5
        have u6 := Fam.cell (W := w1) (p := ⟨w.heap.size, 6, none⟩) hs8 x6
        have v6 := Fam.cell (W := w1) (p := ⟨w.heap.size + 1, 6, none⟩) hs9 y6
        have u7 := Fam.cell (W := w1) (p := ⟨w.heap.size, 7, none⟩) hs8 x7
        have v7 := Fam.cell (W := w1) (p := ⟨w.heap.size + 1, 7, none⟩) hs9 y7
        have u8 := Fam.cell (W := w1) (p := ⟨w.heap.size, 8, none⟩) hs8 x8
        have v8 := Fam.cell (W := w1) (p := ⟨w.heap.size + 1, 8, none⟩) hs9 y8
        have u9 := Fam.cell (W := w1) (p := ⟨w.heap.size, 9, none⟩) hs8 x9
        have v9 := Fam.cell (W := w1) (p := ⟨w.heap.size + 1, 9, none⟩) hs9 y9
        have HSB := Lib.hid (fun k : Fam.Ix w1 => blocks_any (Fam.wld w1 k) r0 s0 n.blocks m.blocks hn1 hm1 HX1.out HY1.out (NiF.holds_below H0.out (HB.out.trans (Fam.wld_below w1 k |>.mono HB.out.size))) (NiF.holds_below K0.out (HB.out.trans (Fam.wld_below w1 k |>.mono HB.out.size))))
        rw [HBL.out] at HSB
        refine Fam.region (by kernel_rfl) (by kernel_rfl) ?_
        repeat (go_big_quiet_step (first | (go_at_call 132; with_reducible refine Fam.calls (numbers_any _ n r0 r1 r2)) | (go_at_call 132; with_reducible refine Fam.calls (numbers_any _ m s0 s1 s2)) | (go_at_call 133; with_reducible refine Fam.calls (HSB.out _))))
        refine wpQuiet_nil ?_
        intro _ hw'
        obtain ⟨nq, hw''⟩ := hw'
        subst hw''
        have hbq := Fam.wld_below w1 nq
        generalize Fam.wld w1 nq = w9 at hbq ⊢
        have HB9 := Lib.hid (HB.out.trans (hbq.mono HB.out.size))
        clear hbq
        go_wp2
        go_ret
        exact ⟨ret_bool HV.out.symm, HB9.out⟩
      · have HBL := Lib.hid (show decide (n.blocks = m.blocks) = false from decide_eq_false hbl)
        have HV := Lib.hid (show sameB n m = false by rw [HS.out, HBL.out]; simp)
        clear hbl
        go_wp2
        have hs9 : w.heap.size + 1 < w1.heap.size := HY.out.lt
        have hs8 : w.heap.size < w1.heap.size := by omega
        have u0 := Fam.cell (W := w1) (p := ⟨w.heap.size, 0, none⟩) hs8 x0
        have v0 := Fam.cell (W := w1) (p := ⟨w.heap.size + 1, 0, none⟩) hs9 y0
        have u1 := Fam.cell (W := w1) (p := ⟨w.heap.size, 1, none⟩) hs8 x1
        have v1 := Fam.cell (W := w1) (p := ⟨w.heap.size + 1, 1, none⟩) hs9 y1
        have u2 := Fam.cell (W := w1) (p := ⟨w.heap.size, 2, none⟩) hs8 x2
        have v2 := Fam.cell (W := w1) (p := ⟨w.heap.size + 1, 2, none⟩) hs9 y2
        have u3 := Fam.cell (W := w1) (p := ⟨w.heap.size, 3, none⟩) hs8 x3
        have v3 := Fam.cell (W := w1) (p := ⟨w.heap.size + 1, 3, none⟩) hs9 y3
        have u4 := Fam.cell (W := w1) (p := ⟨w.heap.size, 4, none⟩) hs8 x4
        have v4 := Fam.cell (W := w1) (p := ⟨w.heap.size + 1, 4, none⟩) hs9 y4
        have u5 := Fam.cell (W := w1) (p := ⟨w.heap.size, 5, none⟩) hs8 x5
        have v5 := Fam.cell (W := w1) (p := ⟨w.heap.size + 1, 5, none⟩) hs9 y5
        have u6 := Fam.cell (W := w1) (p := ⟨w.heap.size, 6, none⟩) hs8 x6
        have v6 := Fam.cell (W := w1) (p := ⟨w.heap.size + 1, 6, none⟩) hs9 y6
        have u7 := Fam.cell (W := w1) (p := ⟨w.heap.size, 7, none⟩) hs8 x7
        have v7 := Fam.cell (W := w1) (p := ⟨w.heap.size + 1, 7, none⟩) hs9 y7
        have u8 := Fam.cell (W := w1) (p := ⟨w.heap.size, 8, none⟩) hs8 x8
        have v8 := Fam.cell (W := w1) (p := ⟨w.heap.size + 1, 8, none⟩) hs9 y8
        have u9 := Fam.cell (W := w1) (p := ⟨w.heap.size, 9, none⟩) hs8 x9
        have v9 := Fam.cell (W := w1) (p := ⟨w.heap.size + 1, 9, none⟩) hs9 y9
        have HSB := Lib.hid (fun k : Fam.Ix w1 => blocks_any (Fam.wld w1 k) r0 s0 n.blocks m.blocks hn1 hm1 HX1.out HY1.out (NiF.holds_below H0.out (HB.out.trans (Fam.wld_below w1 k |>.mono HB.out.size))) (NiF.holds_below K0.out (HB.out.trans (Fam.wld_below w1 k |>.mono HB.out.size))))
        rw [HBL.out] at HSB
        refine Fam.region (by kernel_rfl) (by kernel_rfl) ?_
        repeat (go_big_quiet_step (first | (go_at_call 132; with_reducible refine Fam.calls (numbers_any _ n r0 r1 r2)) | (go_at_call 132; with_reducible refine Fam.calls (numbers_any _ m s0 s1 s2)) | (go_at_call 133; with_reducible refine Fam.calls (HSB.out _))))
        refine wpQuiet_nil ?_
        intro _ hw'
        obtain ⟨nq, hw''⟩ := hw'
        subst hw''
        have hbq := Fam.wld_below w1 nq
        generalize Fam.wld w1 nq = w9 at hbq ⊢
        have HB9 := Lib.hid (HB.out.trans (hbq.mono HB.out.size))
        clear hbq
        go_wp2
        go_ret
        exact ⟨ret_bool HV.out.symm, HB9.out⟩
    · have HN := Lib.hid (show decide (nums n = nums m) = false from decide_eq_false hnm)
      rw [HN.out] at hql
      have HV := Lib.hid (show sameB n m = false by rw [HS.out, HN.out]; simp)
      clear hnm
      go_enter Tryz.func68, Tryz.ntmps68
      go_wp2_with fail
      refine (InEq.equal_ents _ r1 s1 n.acl m.acl hn2 hm2 (Ae.holds_below H1.out HB.out) (Ae.holds_below K1.out HB.out)).mono ?_
      rintro e w1 ⟨rfl, hb⟩
      rw [HA.out]
      replace HX := Lib.hid (HX.out.all hb)
      replace HY := Lib.hid (HY.out.all hb)
      replace HB := Lib.hid (HB.out.trans (hb.mono HB.out.size))
      clear hb
      obtain ⟨x0, x1, x2, x3, x4, x5, x6, x7, x8, x9⟩ := Bk.c10 HX.out
      obtain ⟨y0, y1, y2, y3, y4, y5, y6, y7, y8, y9⟩ := Bk.c10 HY.out
      go_wp2
      have hs9 : w.heap.size + 1 < w1.heap.size := HY.out.lt
      have hs8 : w.heap.size < w1.heap.size := by omega
      have u0 := Fam.cell (W := w1) (p := ⟨w.heap.size, 0, none⟩) hs8 x0
      have v0 := Fam.cell (W := w1) (p := ⟨w.heap.size + 1, 0, none⟩) hs9 y0
      have u1 := Fam.cell (W := w1) (p := ⟨w.heap.size, 1, none⟩) hs8 x1
      have v1 := Fam.cell (W := w1) (p := ⟨w.heap.size + 1, 1, none⟩) hs9 y1
      have u2 := Fam.cell (W := w1) (p := ⟨w.heap.size, 2, none⟩) hs8 x2
      have v2 := Fam.cell (W := w1) (p := ⟨w.heap.size + 1, 2, none⟩) hs9 y2
      have u3 := Fam.cell (W := w1) (p := ⟨w.heap.size, 3, none⟩) hs8 x3
      have v3 := Fam.cell (W := w1) (p := ⟨w.heap.size + 1, 3, none⟩) hs9 y3
      have u4 := Fam.cell (W := w1) (p := ⟨w.heap.size, 4, none⟩) hs8 x4
      have v4 := Fam.cell (W := w1) (p := ⟨w.heap.size + 1, 4, none⟩) hs9 y4
      have u5 := Fam.cell (W := w1) (p := ⟨w.heap.size, 5, none⟩) hs8 x5
      have v5 := Fam.cell (W := w1) (p := ⟨w.heap.size + 1, 5, none⟩) hs9 y5
      have u6 := Fam.cell (W := w1) (p := ⟨w.heap.size, 6, none⟩) hs8 x6
      have v6 := Fam.cell (W := w1) (p := ⟨w.heap.size + 1, 6, none⟩) hs9 y6
      have u7 := Fam.cell (W := w1) (p := ⟨w.heap.size, 7, none⟩) hs8 x7
      have v7 := Fam.cell (W := w1) (p := ⟨w.heap.size + 1, 7, none⟩) hs9 y7
      have u8 := Fam.cell (W := w1) (p := ⟨w.heap.size, 8, none⟩) hs8 x8
      have v8 := Fam.cell (W := w1) (p := ⟨w.heap.size + 1, 8, none⟩) hs9 y8
      have u9 := Fam.cell (W := w1) (p := ⟨w.heap.size, 9, none⟩) hs8 x9
      have v9 := Fam.cell (W := w1) (p := ⟨w.heap.size + 1, 9, none⟩) hs9 y9
      have HSB := Lib.hid (fun k : Fam.Ix w1 => blocks_any (Fam.wld w1 k) r0 s0 n.blocks m.blocks hn1 hm1 HX1.out HY1.out (NiF.holds_below H0.out (HB.out.trans (Fam.wld_below w1 k |>.mono HB.out.size))) (NiF.holds_below K0.out (HB.out.trans (Fam.wld_below w1 k |>.mono HB.out.size))))
      refine Fam.region (by kernel_rfl) (by kernel_rfl) ?_
      repeat (go_big_quiet_step (first | (go_at_call 132; with_reducible refine Fam.calls (numbers_any _ n r0 r1 r2)) | (go_at_call 132; with_reducible refine Fam.calls (numbers_any _ m s0 s1 s2)) | (go_at_call 133; with_reducible refine Fam.calls (HSB.out _))))
      refine wpQuiet_nil ?_
      intro _ hw'
      obtain ⟨nq, hw''⟩ := hw'
      subst hw''
      have hbq := Fam.wld_below w1 nq
      generalize Fam.wld w1 nq = w9 at hbq ⊢
      have HB9 := Lib.hid (HB.out.trans (hbq.mono HB.out.size))
      clear hbq
      go_wp2
      go_ret
      exact ⟨ret_bool HV.out.symm, HB9.out⟩
end Go.Proofs.YtafmpllkehbmeaaGreatDoor.InSm
