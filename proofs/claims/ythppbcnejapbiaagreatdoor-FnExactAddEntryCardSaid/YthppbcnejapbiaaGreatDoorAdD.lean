/- Helper texts joined, one behind another (a claim has at most 60 files): what each proves, its own head says: YthppbcnejapbiaaGreatDoorInOk, YthppbcnejapbiaaGreatDoorInSp. -/
import Derived.Test.YthppbcnejapbiaaGreatDoorAdC
import Derived.Test.YthppbcnejapbiaaGreatDoorAclI

-- YthppbcnejapbiaaGreatDoorInOk
/- A part. -/
namespace Go.Proofs.YthppbcnejapbiaaGreatDoor.InOk
set_option maxHeartbeats 3200000
set_option maxRecDepth 100000
open Go.ChangeShapes Go.WideShapes Go.ChangeAt Go.RowKit
open Foot Bx
open InoV (I sameB okI blkB blksB numsB restB fileB needV)
open InSm (nums)
open AclV (okB)
open ModeV (modeB stickyB mode_iff)
open CredV (userB user_iff)
open Dk (ret_bool)
set_option linter.unusedVariables false
def gr : List Int := [2, 2047, 3, 3, 1000, 256, 1000000000]
def NF : List Int := [1, 2, 2, 2047, 1, 3, 1, 3, 2, 1000, 2, 256, 4, 1000000000]
def rangeB (xs : List Int) (k : Nat) : Bool := (List.range k).all fun j => decide (0 <= xs.getD j 0) && decide (xs.getD j 0 <= gr.getD j 0)
theorem range_succ (xs : List Int) (k : Nat) : rangeB xs (k + 1) = (rangeB xs k && (decide (0 <= xs.getD k 0) && decide (xs.getD k 0 <= gr.getD k 0))) := by simp [rangeB, List.range_succ]
theorem range_next {xs : List Int} {k : Nat} (h : rangeB xs k = true) (h0 : 0 <= xs.getD k 0) (h1 : xs.getD k 0 <= gr.getD k 0) : rangeB xs (k + 1) = true := by
 rw [range_succ, h, decide_eq_true h0, decide_eq_true h1]; rfl
theorem range_no {xs : List Int} {k m : Nat} (hk : k < m) (h : ¬ (0 <= xs.getD k 0 /\ xs.getD k 0 <= gr.getD k 0)) : rangeB xs m = false := by
 cases hr : rangeB xs m
 ·rfl
 ·unfold rangeB at hr
  rw [List.all_eq_true] at hr
  have := hr k (List.mem_range.2 hk)
  simp only [Bool.and_eq_true, decide_eq_true_eq] at this
  exact absurd this h
def sizeB (n : I) : Bool := decide ((n.blocks.length : Int) = needV n.size) && blksB n.blocks n.blocks.length
def objB (n : I) : Bool := rangeB (nums n) 7 && (sizeB n && (okB n.acl && okB n.dflt))
theorem range_nums (n : I) : rangeB (nums n) 7 = true ↔ (0 <= n.kind /\ n.kind <= 2) /\ (0 <= n.mode /\ n.mode <= 2047) /\ (0 <= n.uid /\ n.uid <= 3) /\ (0 <= n.gid /\ n.gid <= 3) /\ (0 <= n.links /\ n.links <= 1000) /\ (0 <= n.size /\ n.size <= 256) /\ (0 <= n.tick /\ n.tick <= 1000000000) := by
 simp [rangeB, nums, gr, List.range_succ, and_assoc]
theorem ok_obj {n : I} (h : n.kind ≠ 0) : okI n = (objB n && !fileB n) := by
 rw [okI, if_neg h, Bool.eq_iff_iff]
 unfold objB sizeB restB
 simp only [Bool.and_eq_true, range_nums, numsB, Bool.or_eq_true, decide_eq_true_eq, mode_iff, user_iff]
 constructor
 ·rintro ⟨h1, h2⟩
  refine ⟨⟨?_, ⟨?_, h2.1.1⟩, h2.2⟩, h2.1.2⟩
  ·omega
  ·exact h1.2
 ·rintro ⟨⟨h1, h2, h3⟩, h4⟩
  refine ⟨?_, ⟨h2.2, h4⟩, h3⟩
  have := h2.1
  omega
structure Vars (w : World) : Prop where
 lt : 0 < w.heap.size
 cell : ∀ j, j < 14 -> w.cell? ⟨0, j, none⟩ = some (.int .i64 (NF.getD j 0))
theorem Vars.below {w w' : World} {B : Nat} (h : Vars w) (hb : Below B w w') (hB : w.heap.size <= B) : Vars w' :=
 ⟨Nat.lt_of_lt_of_le h.lt hb.size, fun j hj => by rw [hb.cell (p := ⟨0, j, none⟩) (Nat.lt_of_lt_of_le h.lt hB)]; exact h.cell j hj⟩
theorem Vars.all {w w' : World} (h : Vars w) (hb : Below w.heap.size w w') : Vars w' := h.below hb (Nat.le_refl _)
theorem idx0 (w : World) : (Instr.index 239 (.agg #[.int .i64 1, .int .i64 2, .int .i64 2, .int .i64 2047, .int .i64 1, .int .i64 3, .int .i64 1, .int .i64 3, .int .i64 2, .int .i64 1000, .int .i64 2, .int .i64 256, .int .i64 4, .int .i64 1000000000]) (.int .i64 0)).run Tryz.prog w = .ok (.agg #[.int .i64 1, .int .i64 2]) w := by kernel_rfl
theorem idx1 (w : World) : (Instr.index 239 (.agg #[.int .i64 1, .int .i64 2, .int .i64 2, .int .i64 2047, .int .i64 1, .int .i64 3, .int .i64 1, .int .i64 3, .int .i64 2, .int .i64 1000, .int .i64 2, .int .i64 256, .int .i64 4, .int .i64 1000000000]) (.int .i64 1)).run Tryz.prog w = .ok (.agg #[.int .i64 2, .int .i64 2047]) w := by kernel_rfl
theorem idx2 (w : World) : (Instr.index 239 (.agg #[.int .i64 1, .int .i64 2, .int .i64 2, .int .i64 2047, .int .i64 1, .int .i64 3, .int .i64 1, .int .i64 3, .int .i64 2, .int .i64 1000, .int .i64 2, .int .i64 256, .int .i64 4, .int .i64 1000000000]) (.int .i64 2)).run Tryz.prog w = .ok (.agg #[.int .i64 1, .int .i64 3]) w := by kernel_rfl
theorem idx3 (w : World) : (Instr.index 239 (.agg #[.int .i64 1, .int .i64 2, .int .i64 2, .int .i64 2047, .int .i64 1, .int .i64 3, .int .i64 1, .int .i64 3, .int .i64 2, .int .i64 1000, .int .i64 2, .int .i64 256, .int .i64 4, .int .i64 1000000000]) (.int .i64 3)).run Tryz.prog w = .ok (.agg #[.int .i64 1, .int .i64 3]) w := by kernel_rfl
theorem idx4 (w : World) : (Instr.index 239 (.agg #[.int .i64 1, .int .i64 2, .int .i64 2, .int .i64 2047, .int .i64 1, .int .i64 3, .int .i64 1, .int .i64 3, .int .i64 2, .int .i64 1000, .int .i64 2, .int .i64 256, .int .i64 4, .int .i64 1000000000]) (.int .i64 4)).run Tryz.prog w = .ok (.agg #[.int .i64 2, .int .i64 1000]) w := by kernel_rfl
theorem idx5 (w : World) : (Instr.index 239 (.agg #[.int .i64 1, .int .i64 2, .int .i64 2, .int .i64 2047, .int .i64 1, .int .i64 3, .int .i64 1, .int .i64 3, .int .i64 2, .int .i64 1000, .int .i64 2, .int .i64 256, .int .i64 4, .int .i64 1000000000]) (.int .i64 5)).run Tryz.prog w = .ok (.agg #[.int .i64 2, .int .i64 256]) w := by kernel_rfl
theorem idx6 (w : World) : (Instr.index 239 (.agg #[.int .i64 1, .int .i64 2, .int .i64 2, .int .i64 2047, .int .i64 1, .int .i64 3, .int .i64 1, .int .i64 3, .int .i64 2, .int .i64 1000, .int .i64 2, .int .i64 256, .int .i64 4, .int .i64 1000000000]) (.int .i64 6)).run Tryz.prog w = .ok (.agg #[.int .i64 4, .int .i64 1000000000]) w := by kernel_rfl
theorem range_any (w : World) (x0 x1 x2 x3 x4 x5 x6 : Int) (hv : Vars w) :
  Calls Tryz.prog 232 #[.agg #[.int .i64 x0, .int .i64 x1, .int .i64 x2, .int .i64 x3, .int .i64 x4, .int .i64 x5, .int .i64 x6]] w fun e w' => e = .returned (.bool (rangeB [x0, x1, x2, x3, x4, x5, x6] 7)) /\ Below w.heap.size w w' := by
 have HB := Lib.hid ((Below.refl w.heap.size w).alloc (Nat.le_refl _) (.cells #[.int .i64 x0, .int .i64 x1, .int .i64 x2, .int .i64 x3, .int .i64 x4, .int .i64 x5, .int .i64 x6] 223))
 have HX := Lib.hid (new w #[.int .i64 x0, .int .i64 x1, .int .i64 x2, .int .i64 x3, .int .i64 x4, .int .i64 x5, .int .i64 x6] 223)
 have hv2 := hv.all HB.out
 have HNX := Lib.hid (fun k => range_next (xs := [x0, x1, x2, x3, x4, x5, x6]) (k := k))
 have HNO := Lib.hid (fun k => range_no (xs := [x0, x1, x2, x3, x4, x5, x6]) (k := k) (m := 7))
 have c0 : (w.alloc (.cells #[.int .i64 x0, .int .i64 x1, .int .i64 x2, .int .i64 x3, .int .i64 x4, .int .i64 x5, .int .i64 x6] 223)).cell? ⟨0, 0, none⟩ = some (.int .i64 1) := hv2.cell 0 (by decide)
 have c1 : (w.alloc (.cells #[.int .i64 x0, .int .i64 x1, .int .i64 x2, .int .i64 x3, .int .i64 x4, .int .i64 x5, .int .i64 x6] 223)).cell? ⟨0, 1, none⟩ = some (.int .i64 2) := hv2.cell 1 (by decide)
 have c2 : (w.alloc (.cells #[.int .i64 x0, .int .i64 x1, .int .i64 x2, .int .i64 x3, .int .i64 x4, .int .i64 x5, .int .i64 x6] 223)).cell? ⟨0, 2, none⟩ = some (.int .i64 2) := hv2.cell 2 (by decide)
 have c3 : (w.alloc (.cells #[.int .i64 x0, .int .i64 x1, .int .i64 x2, .int .i64 x3, .int .i64 x4, .int .i64 x5, .int .i64 x6] 223)).cell? ⟨0, 3, none⟩ = some (.int .i64 2047) := hv2.cell 3 (by decide)
 have c4 : (w.alloc (.cells #[.int .i64 x0, .int .i64 x1, .int .i64 x2, .int .i64 x3, .int .i64 x4, .int .i64 x5, .int .i64 x6] 223)).cell? ⟨0, 4, none⟩ = some (.int .i64 1) := hv2.cell 4 (by decide)
 have c5 : (w.alloc (.cells #[.int .i64 x0, .int .i64 x1, .int .i64 x2, .int .i64 x3, .int .i64 x4, .int .i64 x5, .int .i64 x6] 223)).cell? ⟨0, 5, none⟩ = some (.int .i64 3) := hv2.cell 5 (by decide)
 have c6 : (w.alloc (.cells #[.int .i64 x0, .int .i64 x1, .int .i64 x2, .int .i64 x3, .int .i64 x4, .int .i64 x5, .int .i64 x6] 223)).cell? ⟨0, 6, none⟩ = some (.int .i64 1) := hv2.cell 6 (by decide)
 have c7 : (w.alloc (.cells #[.int .i64 x0, .int .i64 x1, .int .i64 x2, .int .i64 x3, .int .i64 x4, .int .i64 x5, .int .i64 x6] 223)).cell? ⟨0, 7, none⟩ = some (.int .i64 3) := hv2.cell 7 (by decide)
 have c8 : (w.alloc (.cells #[.int .i64 x0, .int .i64 x1, .int .i64 x2, .int .i64 x3, .int .i64 x4, .int .i64 x5, .int .i64 x6] 223)).cell? ⟨0, 8, none⟩ = some (.int .i64 2) := hv2.cell 8 (by decide)
 have c9 : (w.alloc (.cells #[.int .i64 x0, .int .i64 x1, .int .i64 x2, .int .i64 x3, .int .i64 x4, .int .i64 x5, .int .i64 x6] 223)).cell? ⟨0, 9, none⟩ = some (.int .i64 1000) := hv2.cell 9 (by decide)
 have c10 : (w.alloc (.cells #[.int .i64 x0, .int .i64 x1, .int .i64 x2, .int .i64 x3, .int .i64 x4, .int .i64 x5, .int .i64 x6] 223)).cell? ⟨0, 10, none⟩ = some (.int .i64 2) := hv2.cell 10 (by decide)
 have c11 : (w.alloc (.cells #[.int .i64 x0, .int .i64 x1, .int .i64 x2, .int .i64 x3, .int .i64 x4, .int .i64 x5, .int .i64 x6] 223)).cell? ⟨0, 11, none⟩ = some (.int .i64 256) := hv2.cell 11 (by decide)
 have c12 : (w.alloc (.cells #[.int .i64 x0, .int .i64 x1, .int .i64 x2, .int .i64 x3, .int .i64 x4, .int .i64 x5, .int .i64 x6] 223)).cell? ⟨0, 12, none⟩ = some (.int .i64 4) := hv2.cell 12 (by decide)
 have c13 : (w.alloc (.cells #[.int .i64 x0, .int .i64 x1, .int .i64 x2, .int .i64 x3, .int .i64 x4, .int .i64 x5, .int .i64 x6] 223)).cell? ⟨0, 13, none⟩ = some (.int .i64 1000000000) := hv2.cell 13 (by decide)
 clear hv hv2
 go_enter Tryz.func232, Tryz.ntmps232
 go_wp2
 clear c0 c1 c2 c3 c4 c5 c6 c7 c8 c9 c10 c11 c12 c13
 go_loopw [6] (fun iv wr => ∃ k : Nat, k <= 7 /\ iv = .int .i64 k /\ Bk wr w.heap.size #[.int .i64 x0, .int .i64 x1, .int .i64 x2, .int .i64 x3, .int .i64 x4, .int .i64 x5, .int .i64 x6] 223 /\ Below w.heap.size w wr /\ rangeB [x0, x1, x2, x3, x4, x5, x6] k = true) (fun iv _ => 7 - (intOf iv).toNat)
 case atStart => exact ⟨0, Nat.zero_le _, rfl, HX.out, HB.out, rfl⟩
 case round =>
  obtain ⟨k, hk, rfl, hx, hbel, hr⟩ := hrel
  replace HB := Lib.hid hbel
  replace HX := Lib.hid hx
  have HR := Lib.hid hr
  have hsz := HX.out.lt
  clear hx hbel hr
  obtain ⟨y0, y1, y2, y3, y4, y5, y6⟩ := Bk.c7 HX.out
  by_cases hlt : k < 7
  ·obtain rfl | rfl | rfl | rfl | rfl | rfl | rfl : k = 0 \/ k = 1 \/ k = 2 \/ k = 3 \/ k = 4 \/ k = 5 \/ k = 6 := by omega
   ·have hix := idx0
    by_cases h0 : 0 <= x0
    ·by_cases h1 : x0 <= 2
     ·have HN := Lib.hid (HNX.out 0 HR.out h0 h1)
      go_wp2
      go_quiet (fail)
      go_wp2
      go_roundw
      case rel => exact ⟨1, by omega, by go_num, HX.out.alloc _, (HB.out.alloc (by omega) _).trans (InEq.below_draws _ |>.mono (by simp; omega)), HN.out⟩
      case measure => simp [intOf]
     ·have HN := Lib.hid (HNO.out 0 (by omega) (fun hh => h1 hh.2))
      go_wp2
      go_quiet (fail)
      go_wp2
      go_ret
      exact ⟨ret_bool HN.out.symm, (HB.out.alloc (by omega) _).trans (InEq.below_draws _ |>.mono (by simp; omega))⟩
    ·have HN := Lib.hid (HNO.out 0 (by omega) (fun hh => h0 hh.1))
     go_wp2
     go_quiet (fail)
     go_wp2
     go_ret
     exact ⟨ret_bool HN.out.symm, (HB.out.alloc (by omega) _).trans (InEq.below_draws _ |>.mono (by simp; omega))⟩
   ·have hix := idx1
    by_cases h0 : 0 <= x1
    ·by_cases h1 : x1 <= 2047
     ·have HN := Lib.hid (HNX.out 1 HR.out h0 h1)
      go_wp2
      go_quiet (fail)
      go_wp2
      go_roundw
      case rel => exact ⟨2, by omega, by go_num, HX.out.alloc _, (HB.out.alloc (by omega) _).trans (InEq.below_draws _ |>.mono (by simp; omega)), HN.out⟩
      case measure => simp [intOf]
     ·have HN := Lib.hid (HNO.out 1 (by omega) (fun hh => h1 hh.2))
      go_wp2
      go_quiet (fail)
      go_wp2
      go_ret
      exact ⟨ret_bool HN.out.symm, (HB.out.alloc (by omega) _).trans (InEq.below_draws _ |>.mono (by simp; omega))⟩
    ·have HN := Lib.hid (HNO.out 1 (by omega) (fun hh => h0 hh.1))
     go_wp2
     go_quiet (fail)
     go_wp2
     go_ret
     exact ⟨ret_bool HN.out.symm, (HB.out.alloc (by omega) _).trans (InEq.below_draws _ |>.mono (by simp; omega))⟩
   ·have hix := idx2
    by_cases h0 : 0 <= x2
    ·by_cases h1 : x2 <= 3
     ·have HN := Lib.hid (HNX.out 2 HR.out h0 h1)
      go_wp2
      go_quiet (fail)
      go_wp2
      go_roundw
      case rel => exact ⟨3, by omega, by go_num, HX.out.alloc _, (HB.out.alloc (by omega) _).trans (InEq.below_draws _ |>.mono (by simp; omega)), HN.out⟩
      case measure => simp [intOf]
     ·have HN := Lib.hid (HNO.out 2 (by omega) (fun hh => h1 hh.2))
      go_wp2
      go_quiet (fail)
      go_wp2
      go_ret
      exact ⟨ret_bool HN.out.symm, (HB.out.alloc (by omega) _).trans (InEq.below_draws _ |>.mono (by simp; omega))⟩
    ·have HN := Lib.hid (HNO.out 2 (by omega) (fun hh => h0 hh.1))
     go_wp2
     go_quiet (fail)
     go_wp2
     go_ret
     exact ⟨ret_bool HN.out.symm, (HB.out.alloc (by omega) _).trans (InEq.below_draws _ |>.mono (by simp; omega))⟩
   ·have hix := idx3
    by_cases h0 : 0 <= x3
    ·by_cases h1 : x3 <= 3
     ·have HN := Lib.hid (HNX.out 3 HR.out h0 h1)
      go_wp2
      go_quiet (fail)
      go_wp2
      go_roundw
      case rel => exact ⟨4, by omega, by go_num, HX.out.alloc _, (HB.out.alloc (by omega) _).trans (InEq.below_draws _ |>.mono (by simp; omega)), HN.out⟩
      case measure => simp [intOf]
     ·have HN := Lib.hid (HNO.out 3 (by omega) (fun hh => h1 hh.2))
      go_wp2
      go_quiet (fail)
      go_wp2
      go_ret
      exact ⟨ret_bool HN.out.symm, (HB.out.alloc (by omega) _).trans (InEq.below_draws _ |>.mono (by simp; omega))⟩
    ·have HN := Lib.hid (HNO.out 3 (by omega) (fun hh => h0 hh.1))
     go_wp2
     go_quiet (fail)
     go_wp2
     go_ret
     exact ⟨ret_bool HN.out.symm, (HB.out.alloc (by omega) _).trans (InEq.below_draws _ |>.mono (by simp; omega))⟩
   ·have hix := idx4
    by_cases h0 : 0 <= x4
    ·by_cases h1 : x4 <= 1000
     ·have HN := Lib.hid (HNX.out 4 HR.out h0 h1)
      go_wp2
      go_quiet (fail)
      go_wp2
      go_roundw
      case rel => exact ⟨5, by omega, by go_num, HX.out.alloc _, (HB.out.alloc (by omega) _).trans (InEq.below_draws _ |>.mono (by simp; omega)), HN.out⟩
      case measure => simp [intOf]
     ·have HN := Lib.hid (HNO.out 4 (by omega) (fun hh => h1 hh.2))
      go_wp2
      go_quiet (fail)
      go_wp2
      go_ret
      exact ⟨ret_bool HN.out.symm, (HB.out.alloc (by omega) _).trans (InEq.below_draws _ |>.mono (by simp; omega))⟩
    ·have HN := Lib.hid (HNO.out 4 (by omega) (fun hh => h0 hh.1))
     go_wp2
     go_quiet (fail)
     go_wp2
     go_ret
     exact ⟨ret_bool HN.out.symm, (HB.out.alloc (by omega) _).trans (InEq.below_draws _ |>.mono (by simp; omega))⟩
   ·have hix := idx5
    by_cases h0 : 0 <= x5
    ·by_cases h1 : x5 <= 256
     ·have HN := Lib.hid (HNX.out 5 HR.out h0 h1)
      go_wp2
      go_quiet (fail)
      go_wp2
      go_roundw
      case rel => exact ⟨6, by omega, by go_num, HX.out.alloc _, (HB.out.alloc (by omega) _).trans (InEq.below_draws _ |>.mono (by simp; omega)), HN.out⟩
      case measure => simp [intOf]
     ·have HN := Lib.hid (HNO.out 5 (by omega) (fun hh => h1 hh.2))
      go_wp2
      go_quiet (fail)
      go_wp2
      go_ret
      exact ⟨ret_bool HN.out.symm, (HB.out.alloc (by omega) _).trans (InEq.below_draws _ |>.mono (by simp; omega))⟩
    ·have HN := Lib.hid (HNO.out 5 (by omega) (fun hh => h0 hh.1))
     go_wp2
     go_quiet (fail)
     go_wp2
     go_ret
     exact ⟨ret_bool HN.out.symm, (HB.out.alloc (by omega) _).trans (InEq.below_draws _ |>.mono (by simp; omega))⟩
   ·have hix := idx6
    by_cases h0 : 0 <= x6
    ·by_cases h1 : x6 <= 1000000000
     ·have HN := Lib.hid (HNX.out 6 HR.out h0 h1)
      go_wp2
      go_quiet (fail)
      go_wp2
      go_roundw
      case rel => exact ⟨7, by omega, by go_num, HX.out.alloc _, (HB.out.alloc (by omega) _).trans (InEq.below_draws _ |>.mono (by simp; omega)), HN.out⟩
      case measure => simp [intOf]
     ·have HN := Lib.hid (HNO.out 6 (by omega) (fun hh => h1 hh.2))
      go_wp2
      go_quiet (fail)
      go_wp2
      go_ret
      exact ⟨ret_bool HN.out.symm, (HB.out.alloc (by omega) _).trans (InEq.below_draws _ |>.mono (by simp; omega))⟩
    ·have HN := Lib.hid (HNO.out 6 (by omega) (fun hh => h0 hh.1))
     go_wp2
     go_quiet (fail)
     go_wp2
     go_ret
     exact ⟨ret_bool HN.out.symm, (HB.out.alloc (by omega) _).trans (InEq.below_draws _ |>.mono (by simp; omega))⟩
  ·obtain rfl : k = 7 := by omega
   go_wp2
   go_ret
   exact ⟨ret_bool HR.out.symm, HB.out⟩
theorem holds_take {w : World} {a : Option Addr} {c k : Nat} {l : List Int} (h : NiF.Holds w (.slice a l.length c) l) (hk : k <= l.length) : Ni.HoldsN w (.slice a k c) (l.take k) := by
 obtain ⟨a', c', e, hle, hc⟩ := h
 rw [Value.slice.injEq] at e
 obtain ⟨rfl, _, rfl⟩ := e
 have hl : (l.take k).length = k := by rw [List.length_take]; omega
 refine ⟨a, c, by rw [hl], fun i hi => ?_⟩
 rw [hl] at hi
 obtain ⟨b, o, rfl, hb, hcell⟩ := hc i (by omega)
 exact ⟨b, o, rfl, hb, by rw [hcell, List.getD_eq_getElem?_getD, List.getD_eq_getElem?_getD, List.getElem?_take_of_lt hi]⟩
theorem blk_hole {l : List Int} {k : Nat} (h : blksB l k = true) (hx : l.getD k 0 = -1) : blksB l (k + 1) = true := by
 rw [InoV.blks_succ, h, blkB, hx]; rfl
theorem blk_yes {l : List Int} {k : Nat} (h : blksB l k = true) (h0 : 0 <= l.getD k 0) (h1 : l.getD k 0 <= 999) (hn : CrI.hasB (l.take k) (l.getD k 0) = false) : blksB l (k + 1) = true := by
 have e : InoV.hasB (l.take k) (l.getD k 0) = false := hn
 rw [InoV.blks_succ, h, blkB, e, decide_eq_true (show -1 <= l.getD k 0 by omega), decide_eq_true h1]; simp
theorem blk_no {l : List Int} {k : Nat} (hk : k < l.length) (h : l.getD k 0 ≠ -1 /\ (l.getD k 0 < 0 \/ 999 < l.getD k 0 \/ CrI.hasB (l.take k) (l.getD k 0) = true)) : blksB l l.length = false := by
 cases hb : blksB l l.length
 ·rfl
 ·unfold blksB at hb
  rw [List.all_eq_true] at hb
  have h1 := hb k (List.mem_range.2 hk)
  have e : InoV.hasB (l.take k) (l.getD k 0) = CrI.hasB (l.take k) (l.getD k 0) := rfl
  simp only [blkB, Bool.and_eq_true, decide_eq_true_eq, Bool.or_eq_true, Bool.not_eq_true', e] at h1
  obtain ⟨hne, h2⟩ := h
  rcases h2 with h2 | h2 | h2
  ·omega
  ·omega
  ·rcases h1.2 with h3 | h3
   ·exact absurd h3 hne
   ·rw [h2] at h3; cases h3
theorem size_no {n : I} (h : (n.blocks.length : Int) ≠ needV n.size) : sizeB n = false := by rw [sizeB, decide_eq_false h]; rfl
theorem size_is {n : I} (h : (n.blocks.length : Int) = needV n.size) : sizeB n = blksB n.blocks n.blocks.length := by rw [sizeB, decide_eq_true h]; rfl
theorem blocks_any (w : World) (v : Value) (n : I) (hl : n.blocks.length <= 1073741824) (hs : Rg n.size) (h : In.Holds w v n) :
  Calls Tryz.prog 233 #[v] w fun e w' => e = .returned (.bool (sizeB n)) /\ Below w.heap.size w w' := by
 obtain ⟨r0, r1, r2, rfl, g0, g1, g2⟩ := h
 obtain ⟨a, c, rfl⟩ := NiF.form g0
 have hlc : n.blocks.length <= c := by
  obtain ⟨a', c', e, hle, _⟩ := g0
  rw [Value.slice.injEq] at e
  omega
 have H0 := Lib.hid g0
 have HC := Lib.hid (show ∀ i, i < n.blocks.length -> ∃ b o, a = some ⟨b, o, none⟩ /\ b < w.heap.size /\ w.cell? ⟨b, o + i, none⟩ = some (.int .i64 (n.blocks.getD i 0)) from by
  obtain ⟨a', c', e, hle, hc⟩ := g0
  rw [Value.slice.injEq] at e
  obtain ⟨rfl, _, rfl⟩ := e
  exact hc)
 have HTK := Lib.hid (fun (W : World) (k : Nat) (hb : Below w.heap.size w W) (hk : k <= n.blocks.length) => holds_take (NiF.holds_below g0 hb) hk)
 clear g0 g1 g2
 have HSI := Lib.hid (fun h => size_is (n := n) h)
 have HSN := Lib.hid (fun h => size_no (n := n) h)
 have HY1 := Lib.hid (fun k => blk_hole (l := n.blocks) (k := k))
 have HY2 := Lib.hid (fun k => blk_yes (l := n.blocks) (k := k))
 have HNO := Lib.hid (fun k => blk_no (l := n.blocks) (k := k))
 obtain ⟨L, hL⟩ : ∃ L, L = n.blocks.length := ⟨_, rfl⟩
 rw [<- hL] at hl hlc ⊢
 have HL := Lib.hid hL
 clear hL
 have HND := Lib.hid (fun W => InEq.need_impl n.size W hs)
 clear hs
 have HB := Lib.hid ((Below.refl w.heap.size w).alloc (Nat.le_refl _) (.cells #[.int .i64 n.kind, .int .i64 n.mode, .int .i64 n.uid, .int .i64 n.gid, .int .i64 n.links, .int .i64 n.size, .int .i64 n.tick, .slice a L c, r1, r2] 89))
 have HX := Lib.hid (new w #[.int .i64 n.kind, .int .i64 n.mode, .int .i64 n.uid, .int .i64 n.gid, .int .i64 n.links, .int .i64 n.size, .int .i64 n.tick, .slice a L c, r1, r2] 89)
 by_cases hneed : (L : Int) = needV n.size
 ·have HV := Lib.hid (HSI.out (by rw [<- HL.out]; exact hneed))
  have HND2 := Lib.hid (fun W => show Calls Tryz.prog 119 #[.int .i64 n.size] W fun e w' => e = .returned (.int .i64 (L : Int)) /\ W = w' from by have := HND.out W; rw [<- hneed] at this; exact this)
  clear HND hneed
  have x5 := HX.out.cell 5
  go_enter Tryz.func233, Tryz.ntmps233
  go_wp2
  have hs8 := HX.out.lt
  have u5 := Fam.cell (W := w.alloc (.cells #[.int .i64 n.kind, .int .i64 n.mode, .int .i64 n.uid, .int .i64 n.gid, .int .i64 n.links, .int .i64 n.size, .int .i64 n.tick, .slice a L c, r1, r2] 89)) (p := ⟨w.heap.size, 5, none⟩) hs8 (show _ = some (.int .i64 n.size) from HX.out.cell 5)
  have u7 := Fam.cell (W := w.alloc (.cells #[.int .i64 n.kind, .int .i64 n.mode, .int .i64 n.uid, .int .i64 n.gid, .int .i64 n.links, .int .i64 n.size, .int .i64 n.tick, .slice a L c, r1, r2] 89)) (p := ⟨w.heap.size, 7, none⟩) hs8 (show _ = some (.slice a L c) from HX.out.cell 7)
  refine Fam.region (by kernel_rfl) (by kernel_rfl) ?_
  repeat (go_big_quiet_step (first | (go_at_call 119; with_reducible refine Fam.calls_same (HND2.out _))))
  refine wpQuiet_nil ?_
  intro _ hw'
  obtain ⟨nq, hw''⟩ := hw'
  subst hw''
  have hbq := Fam.wld_below _ nq
  generalize Fam.wld _ nq = w9 at hbq ⊢
  replace HX := Lib.hid (HX.out.all hbq)
  replace HB := Lib.hid (HB.out.trans (hbq.mono HB.out.size))
  clear hbq x5 u5 u7
  obtain ⟨x0, x1, x2, x3, x4, x5, x6, x7, x8, x9⟩ := Bk.c10 HX.out
  go_wp2
  go_loopw [15] (fun iv wr => ∃ k : Nat, k <= L /\ iv = .int .i64 k /\ Bk wr w.heap.size #[.int .i64 n.kind, .int .i64 n.mode, .int .i64 n.uid, .int .i64 n.gid, .int .i64 n.links, .int .i64 n.size, .int .i64 n.tick, .slice a L c, r1, r2] 89 /\ Below w.heap.size w wr /\ blksB n.blocks k = true) (fun iv _ => L - (intOf iv).toNat)
  case atStart => exact ⟨0, Nat.zero_le _, rfl, HX.out, HB.out, rfl⟩
  case round =>
   obtain ⟨k, hk, rfl, hx, hbel, hr⟩ := hrel
   replace HB := Lib.hid hbel
   replace HX := Lib.hid hx
   have HR := Lib.hid hr
   clear hx hbel hr x0 x1 x2 x3 x4 x5 x6 x7 x8 x9
   obtain ⟨x0, x1, x2, x3, x4, x5, x6, x7, x8, x9⟩ := Bk.c10 HX.out
   by_cases hlt : k < L
   ·obtain ⟨b, off, rfl, hb, g0⟩ := HC.out k (by rw [<- HL.out]; exact hlt)
    rw [<- HB.out.cell (p := ⟨b, _, none⟩) hb] at g0
    have hkc : ¬ c = 0 := by omega
    have hck := CrI.contains_any wr (.slice (some ⟨b, off, none⟩) k c) (n.blocks.take k) (n.blocks.getD k 0) (by rw [List.length_take]; omega) (HTK.out wr k HB.out (by rw [<- HL.out]; omega))
    have HN1 := Lib.hid (HY1.out k HR.out)
    have HN2 := Lib.hid (HY2.out k HR.out)
    have HN3 := Lib.hid (HNO.out k (by rw [<- HL.out]; exact hlt))
    generalize n.blocks.getD k 0 = x at g0 hck HN1 HN2 HN3
    by_cases hm : x = -1
    ·have HN := Lib.hid (HN1.out hm)
     subst hm
     clear hck
     go_wp2
     go_roundw
     case rel => exact ⟨k + 1, by omega, by go_num, HX.out, HB.out, HN.out⟩
     case measure => simp [intOf]; omega
    ·have hm2 : (x == -1) = false := by simpa using hm
     have hm3 : (x != -1) = true := by simpa using hm
     by_cases h0 : x < 0
     ·have HN := Lib.hid (HN3.out ⟨hm, .inl h0⟩)
      clear hck hm
      go_wp2
      go_ret
      exact ⟨ret_bool (by rw [HV.out, HN.out]), HB.out⟩
     ·by_cases h1 : 999 < x
      ·have HN := Lib.hid (HN3.out ⟨hm, .inr (.inl h1)⟩)
       have h0' : decide (x < 0) = false := decide_eq_false h0
       clear hck hm
       go_wp2
       go_ret
       exact ⟨ret_bool (by rw [HV.out, HN.out]), HB.out⟩
      ·have hh : ∀ y, CrI.hasB (n.blocks.take k) x = y -> True := fun _ _ => trivial
       have hlt0 : 0 <= x := by omega
       have hlt1 : x <= 999 := by omega
       have h0' : decide (x < 0) = false := decide_eq_false h0
       have h1' : decide (999 < x) = false := decide_eq_false h1
       cases hy : CrI.hasB (n.blocks.take k) x
       ·rw [hy] at hck
        have HN := Lib.hid (HN2.out hlt0 hlt1 hy)
        have HCK := Lib.hid hck
        clear hck hy hm hh
        go_wp2_with fail
        refine HCK.out.mono ?_
        rintro e wq ⟨rfl, rfl⟩
        go_wp2
        go_roundw
        case rel => exact ⟨k + 1, by omega, by go_num, HX.out, HB.out, HN.out⟩
        case measure => simp [intOf]; omega
       ·rw [hy] at hck
        have HN := Lib.hid (HN3.out ⟨hm, .inr (.inr hy)⟩)
        have HCK := Lib.hid hck
        clear hck hy hm hh
        go_wp2_with fail
        refine HCK.out.mono ?_
        rintro e wq ⟨rfl, rfl⟩
        go_wp2
        go_ret
        exact ⟨ret_bool (by rw [HV.out, HN.out]), HB.out⟩
   ·obtain rfl : k = L := by omega
    have HN := Lib.hid (show blksB n.blocks n.blocks.length = true by rw [<- HL.out]; exact HR.out)
    go_wp2
    go_ret
    exact ⟨ret_bool (by rw [HV.out, HN.out]), HB.out⟩
 ·have HV := Lib.hid (HSN.out (by rw [<- HL.out]; exact hneed))
  generalize needV n.size = y at HND hneed
  have hq1 : ((L : Int) == y) = false := by simpa using hneed
  have hq2 : ((L : Int) != y) = true := by simpa using hneed
  clear hneed
  go_enter Tryz.func233, Tryz.ntmps233
  go_wp2
  have hs8 := HX.out.lt
  have u5 := Fam.cell (W := w.alloc (.cells #[.int .i64 n.kind, .int .i64 n.mode, .int .i64 n.uid, .int .i64 n.gid, .int .i64 n.links, .int .i64 n.size, .int .i64 n.tick, .slice a L c, r1, r2] 89)) (p := ⟨w.heap.size, 5, none⟩) hs8 (show _ = some (.int .i64 n.size) from HX.out.cell 5)
  have u7 := Fam.cell (W := w.alloc (.cells #[.int .i64 n.kind, .int .i64 n.mode, .int .i64 n.uid, .int .i64 n.gid, .int .i64 n.links, .int .i64 n.size, .int .i64 n.tick, .slice a L c, r1, r2] 89)) (p := ⟨w.heap.size, 7, none⟩) hs8 (show _ = some (.slice a L c) from HX.out.cell 7)
  refine Fam.region (by kernel_rfl) (by kernel_rfl) ?_
  repeat (go_big_quiet_step (first | (go_at_call 119; with_reducible refine Fam.calls_same (HND.out _))))
  refine wpQuiet_nil ?_
  intro _ hw'
  obtain ⟨nq, hw''⟩ := hw'
  subst hw''
  have hbq := Fam.wld_below _ nq
  generalize Fam.wld _ nq = w9 at hbq ⊢
  replace HB := Lib.hid (HB.out.trans (hbq.mono HB.out.size))
  go_wp2
  go_ret
  exact ⟨ret_bool HV.out.symm, HB.out⟩
  
theorem obj_1 {n : I} (h : rangeB (nums n) 7 = false) : objB n = false := by rw [objB, h]; rfl
theorem obj_2 {n : I} (h : sizeB n = false) : objB n = false := by rw [objB, h]; simp
theorem obj_3 {n : I} (h : okB n.acl = false) : objB n = false := by rw [objB, h]; simp
theorem obj_4 {n : I} (h1 : rangeB (nums n) 7 = true) (h2 : sizeB n = true) (h3 : okB n.acl = true) : objB n = okB n.dflt := by rw [objB, h1, h2, h3]; rfl
theorem obj_any (w : World) (v : Value) (n : I) (hc : In.cost n <= 1073741824) (hv : Vars w) (h : In.Holds w v n) :
  Calls Tryz.prog 211 #[v] w fun e w' => e = .returned (.bool (objB n)) /\ Below w.heap.size w w' := by
 have hn1 : n.blocks.length <= 1073741824 := Nat.le_trans (In.le_blocks n) hc
 have hn2 : n.acl.length <= 1073741824 := Nat.le_trans (In.le_acl n) hc
 have hn3 : n.dflt.length <= 1073741824 := Nat.le_trans (In.le_dflt n) hc
 clear hc
 have HH := Lib.hid h
 obtain ⟨r0, r1, r2, rfl, g0, g1, g2⟩ := h
 have H1 := Lib.hid g1
 have H2 := Lib.hid g2
 clear g0 g1 g2
 have HV := Lib.hid hv
 clear hv
 have HB := Lib.hid ((Below.refl w.heap.size w).alloc (Nat.le_refl _) (.cells #[.int .i64 n.kind, .int .i64 n.mode, .int .i64 n.uid, .int .i64 n.gid, .int .i64 n.links, .int .i64 n.size, .int .i64 n.tick, r0, r1, r2] 89))
 have HX := Lib.hid (new w #[.int .i64 n.kind, .int .i64 n.mode, .int .i64 n.uid, .int .i64 n.gid, .int .i64 n.links, .int .i64 n.size, .int .i64 n.tick, r0, r1, r2] 89)
 have hnum := fun W => InSm.numbers_any W n r0 r1 r2
 have HNUM := Lib.hid hnum
 clear hnum
 by_cases hr : rangeB (nums n) 7 = true
 ·have HR := Lib.hid (show rangeB [n.kind, n.mode, n.uid, n.gid, n.links, n.size, n.tick] 7 = true from hr)
  have HSZ := Lib.hid (show Rg n.size from by have := (range_nums n).1 hr; unfold Rg; omega)
  by_cases hs : sizeB n = true
  ·have HS := Lib.hid hs
   by_cases ha : okB n.acl = true
   ·have HA := Lib.hid ha
    have HW := Lib.hid (obj_4 hr hs ha)
    clear hr hs ha
    go_enter Tryz.func211, Tryz.ntmps211
    go_wp2_with fail
    refine (HNUM.out _).mono ?_
    rintro e w1 ⟨rfl, hb⟩
    replace HX := Lib.hid (HX.out.all hb)
    replace HB := Lib.hid (HB.out.trans (hb.mono HB.out.size))
    clear hb
    obtain ⟨x0, x1, x2, x3, x4, x5, x6, x7, x8, x9⟩ := Bk.c10 HX.out
    go_wp2_with fail
    refine (range_any _ n.kind n.mode n.uid n.gid n.links n.size n.tick (HV.out.all HB.out)).mono ?_
    rintro e w2 ⟨rfl, hb⟩
    rw [HR.out]
    replace HX := Lib.hid (HX.out.all hb)
    replace HB := Lib.hid (HB.out.trans (hb.mono HB.out.size))
    clear hb x0 x1 x2 x3 x4 x5 x6 x7 x8 x9
    obtain ⟨x0, x1, x2, x3, x4, x5, x6, x7, x8, x9⟩ := Bk.c10 HX.out
    go_wp2_with fail
    refine (blocks_any _ _ n hn1 HSZ.out (In.holds_below HH.out HB.out)).mono ?_
    rintro e wn ⟨rfl, hb⟩
    rw [HS.out]
    replace HX := Lib.hid (HX.out.all hb)
    replace HB := Lib.hid (HB.out.trans (hb.mono HB.out.size))
    clear hb x0 x1 x2 x3 x4 x5 x6 x7 x8 x9
    obtain ⟨x0, x1, x2, x3, x4, x5, x6, x7, x8, x9⟩ := Bk.c10 HX.out
    go_wp2_with fail
    refine (AclI.impl_any _ r1 n.acl hn2 (Ae.holds_below H1.out HB.out)).mono ?_
    rintro e wn ⟨rfl, hb⟩
    rw [HA.out]
    replace HX := Lib.hid (HX.out.all hb)
    replace HB := Lib.hid (HB.out.trans (hb.mono HB.out.size))
    clear hb x0 x1 x2 x3 x4 x5 x6 x7 x8 x9
    obtain ⟨x0, x1, x2, x3, x4, x5, x6, x7, x8, x9⟩ := Bk.c10 HX.out
    go_wp2_with fail
    refine (AclI.impl_any _ r2 n.dflt hn3 (Ae.holds_below H2.out HB.out)).mono ?_
    rintro e wn ⟨rfl, hb⟩
    replace HX := Lib.hid (HX.out.all hb)
    replace HB := Lib.hid (HB.out.trans (hb.mono HB.out.size))
    clear hb x0 x1 x2 x3 x4 x5 x6 x7 x8 x9
    obtain ⟨x0, x1, x2, x3, x4, x5, x6, x7, x8, x9⟩ := Bk.c10 HX.out
    generalize okB n.dflt = D at HW ⊢
    go_wp2
    go_ret
    exact ⟨ret_bool HW.out.symm, HB.out⟩
   ·have ha' : okB n.acl = false := by simpa using ha
    have HA := Lib.hid ha'
    have HW := Lib.hid (obj_3 ha')
    clear hr hs ha ha'
    go_enter Tryz.func211, Tryz.ntmps211
    go_wp2_with fail
    refine (HNUM.out _).mono ?_
    rintro e w1 ⟨rfl, hb⟩
    replace HX := Lib.hid (HX.out.all hb)
    replace HB := Lib.hid (HB.out.trans (hb.mono HB.out.size))
    clear hb
    obtain ⟨x0, x1, x2, x3, x4, x5, x6, x7, x8, x9⟩ := Bk.c10 HX.out
    go_wp2_with fail
    refine (range_any _ n.kind n.mode n.uid n.gid n.links n.size n.tick (HV.out.all HB.out)).mono ?_
    rintro e w2 ⟨rfl, hb⟩
    rw [HR.out]
    replace HX := Lib.hid (HX.out.all hb)
    replace HB := Lib.hid (HB.out.trans (hb.mono HB.out.size))
    clear hb x0 x1 x2 x3 x4 x5 x6 x7 x8 x9
    obtain ⟨x0, x1, x2, x3, x4, x5, x6, x7, x8, x9⟩ := Bk.c10 HX.out
    go_wp2_with fail
    refine (blocks_any _ _ n hn1 HSZ.out (In.holds_below HH.out HB.out)).mono ?_
    rintro e wn ⟨rfl, hb⟩
    rw [HS.out]
    replace HX := Lib.hid (HX.out.all hb)
    replace HB := Lib.hid (HB.out.trans (hb.mono HB.out.size))
    clear hb x0 x1 x2 x3 x4 x5 x6 x7 x8 x9
    obtain ⟨x0, x1, x2, x3, x4, x5, x6, x7, x8, x9⟩ := Bk.c10 HX.out
    go_wp2_with fail
    refine (AclI.impl_any _ r1 n.acl hn2 (Ae.holds_below H1.out HB.out)).mono ?_
    rintro e wn ⟨rfl, hb⟩
    rw [HA.out]
    replace HX := Lib.hid (HX.out.all hb)
    replace HB := Lib.hid (HB.out.trans (hb.mono HB.out.size))
    clear hb x0 x1 x2 x3 x4 x5 x6 x7 x8 x9
    obtain ⟨x0, x1, x2, x3, x4, x5, x6, x7, x8, x9⟩ := Bk.c10 HX.out
    go_wp2
    go_ret
    exact ⟨ret_bool HW.out.symm, HB.out⟩
  ·have hs' : sizeB n = false := by simpa using hs
   have HS := Lib.hid hs'
   have HW := Lib.hid (obj_2 hs')
   clear hr hs hs'
   go_enter Tryz.func211, Tryz.ntmps211
   go_wp2_with fail
   refine (HNUM.out _).mono ?_
   rintro e w1 ⟨rfl, hb⟩
   replace HX := Lib.hid (HX.out.all hb)
   replace HB := Lib.hid (HB.out.trans (hb.mono HB.out.size))
   clear hb
   obtain ⟨x0, x1, x2, x3, x4, x5, x6, x7, x8, x9⟩ := Bk.c10 HX.out
   go_wp2_with fail
   refine (range_any _ n.kind n.mode n.uid n.gid n.links n.size n.tick (HV.out.all HB.out)).mono ?_
   rintro e w2 ⟨rfl, hb⟩
   rw [HR.out]
   replace HX := Lib.hid (HX.out.all hb)
   replace HB := Lib.hid (HB.out.trans (hb.mono HB.out.size))
   clear hb x0 x1 x2 x3 x4 x5 x6 x7 x8 x9
   obtain ⟨x0, x1, x2, x3, x4, x5, x6, x7, x8, x9⟩ := Bk.c10 HX.out
   go_wp2_with fail
   refine (blocks_any _ _ n hn1 HSZ.out (In.holds_below HH.out HB.out)).mono ?_
   rintro e wn ⟨rfl, hb⟩
   rw [HS.out]
   replace HX := Lib.hid (HX.out.all hb)
   replace HB := Lib.hid (HB.out.trans (hb.mono HB.out.size))
   clear hb x0 x1 x2 x3 x4 x5 x6 x7 x8 x9
   obtain ⟨x0, x1, x2, x3, x4, x5, x6, x7, x8, x9⟩ := Bk.c10 HX.out
   go_wp2
   go_ret
   exact ⟨ret_bool HW.out.symm, HB.out⟩
 ·have hr' : rangeB (nums n) 7 = false := by simpa using hr
  have HR := Lib.hid (show rangeB [n.kind, n.mode, n.uid, n.gid, n.links, n.size, n.tick] 7 = false from hr')
  have HW := Lib.hid (obj_1 hr')
  clear hr hr'
  go_enter Tryz.func211, Tryz.ntmps211
  go_wp2_with fail
  refine (HNUM.out _).mono ?_
  rintro e w1 ⟨rfl, hb⟩
  replace HX := Lib.hid (HX.out.all hb)
  replace HB := Lib.hid (HB.out.trans (hb.mono HB.out.size))
  clear hb
  obtain ⟨x0, x1, x2, x3, x4, x5, x6, x7, x8, x9⟩ := Bk.c10 HX.out
  go_wp2_with fail
  refine (range_any _ n.kind n.mode n.uid n.gid n.links n.size n.tick (HV.out.all HB.out)).mono ?_
  rintro e w2 ⟨rfl, hb⟩
  rw [HR.out]
  replace HX := Lib.hid (HX.out.all hb)
  replace HB := Lib.hid (HB.out.trans (hb.mono HB.out.size))
  clear hb x0 x1 x2 x3 x4 x5 x6 x7 x8 x9
  obtain ⟨x0, x1, x2, x3, x4, x5, x6, x7, x8, x9⟩ := Bk.c10 HX.out
  go_wp2
  go_ret
  exact ⟨ret_bool HW.out.symm, HB.out⟩
theorem zero_holds (w : World) : In.Holds w (.agg #[.int .i64 0, .int .i64 0, .int .i64 0, .int .i64 0, .int .i64 0, .int .i64 0, .int .i64 0, .slice none 0 0, .slice none 0 0, .slice none 0 0]) InoV.zero :=
 ⟨.slice none 0 0, .slice none 0 0, .slice none 0 0, rfl, ⟨none, 0, rfl, Nat.le_refl _, fun i hi => absurd hi (Nat.not_lt_zero _)⟩, ⟨none, 0, rfl, fun hh => absurd rfl hh⟩, ⟨none, 0, rfl, fun hh => absurd rfl hh⟩⟩
theorem file_dflt {n : I} (hk : n.kind = 1) (h : n.dflt.length ≠ 0) : fileB n = true := by
 have : n.dflt.isEmpty = false := by
  cases hd : n.dflt
  ·rw [hd] at h; exact absurd rfl h
  ·rfl
 simp [fileB, hk, this]
theorem file_bit {n : I} (hk : n.kind = 1) (h : n.dflt.length = 0) : fileB n = stickyB n.mode := by
 have : n.dflt = [] := List.eq_nil_of_length_eq_zero h
 simp [fileB, hk, this]
theorem file_dir {n : I} (hk : n.kind ≠ 1) : fileB n = false := by simp [fileB, hk]
theorem is_any (w : World) (v : Value) (n : I) (hc : In.cost n <= 1073741824) (hx : ∀ x ∈ n.blocks, Rg x) (hv : Vars w) (h : In.Holds w v n) :
  Calls Tryz.prog 172 #[v] w fun e w' => e = .returned (.bool (okI n)) /\ Below w.heap.size w w' := by
 have HH := Lib.hid h
 obtain ⟨r0, r1, r2, rfl, g0, g1, g2⟩ := h
 obtain ⟨da, dc, rfl⟩ := AeF.form g2
 clear g0 g1 g2
 have HV := Lib.hid hv
 have HXR := Lib.hid hx
 have hn3 : n.dflt.length <= 1073741824 := Nat.le_trans (In.le_dflt n) hc
 clear hv hx
 have HB := Lib.hid ((Below.refl w.heap.size w).alloc (Nat.le_refl _) (.cells #[.int .i64 n.kind, .int .i64 n.mode, .int .i64 n.uid, .int .i64 n.gid, .int .i64 n.links, .int .i64 n.size, .int .i64 n.tick, r0, r1, .slice da n.dflt.length dc] 89))
 have HX := Lib.hid (new w #[.int .i64 n.kind, .int .i64 n.mode, .int .i64 n.uid, .int .i64 n.gid, .int .i64 n.links, .int .i64 n.size, .int .i64 n.tick, r0, r1, .slice da n.dflt.length dc] 89)
 by_cases h0 : n.kind = 0
 ·have HW := Lib.hid (show okI n = sameB n InoV.zero from if_pos h0)
  have h0a : (n.kind == 0) = true := by simpa using h0
  clear h0
  go_enter Tryz.func172, Tryz.ntmps172
  go_wp2_with fail
  refine (InSm.same_impl _ _ _ n InoV.zero hc (by decide) HXR.out (fun x hx => by cases hx) (In.holds_below HH.out HB.out) (zero_holds _)).mono ?_
  rintro e w1 ⟨rfl, hb⟩
  replace HB := Lib.hid (HB.out.trans (hb.mono HB.out.size))
  clear hb
  generalize sameB n InoV.zero = D at HW ⊢
  go_wp2
  go_ret
  exact ⟨ret_bool HW.out.symm, HB.out⟩
 ·have h0a : (n.kind == 0) = false := by simpa using h0
  have HOK := Lib.hid (ok_obj h0)
  have HRN := Lib.hid (show objB n = true -> modeB n.mode = true from fun hh => by
   unfold objB at hh
   rw [Bool.and_eq_true] at hh
   exact (mode_iff _).2 ((range_nums n).1 hh.1).2.1)
  clear h0
  by_cases h1 : n.kind = 1
  ·have h1a : (n.kind == 1) = true := by simpa using h1
   by_cases ho : objB n = true
   ·have HO := Lib.hid ho
    have hmode := (mode_iff _).1 (HRN.out ho)
    by_cases hd : n.dflt.length = 0
    ·have HW := Lib.hid (show okI n = !stickyB n.mode by rw [HOK.out, ho, file_bit h1 hd]; simp)
     have e9 : (bits .and .i64 n.mode 512 != 0) = stickyB n.mode := Md.bit_in hmode.1 hmode.2 9 (by omega) 512 rfl
     have e8 : (bits .and .i64 n.mode 512 == 0) = !stickyB n.mode := by rw [<- e9]; simp [bne]
     have hd2 : ((n.dflt.length : Int) == 0) = true := by simp [hd]
     generalize stickyB n.mode = D at e8 e9 HW
     clear ho h1 hd hmode
     go_enter Tryz.func172, Tryz.ntmps172
     go_wp2_with fail
     refine (obj_any _ _ n hc (HV.out.all HB.out) (In.holds_below HH.out HB.out)).mono ?_
     rintro e w1 ⟨rfl, hb⟩
     rw [HO.out]
     replace HX := Lib.hid (HX.out.all hb)
     replace HB := Lib.hid (HB.out.trans (hb.mono HB.out.size))
     clear hb
     obtain ⟨x0, x1, x2, x3, x4, x5, x6, x7, x8, x9⟩ := Bk.c10 HX.out
     go_wp2
     go_ret
     exact ⟨ret_bool HW.out.symm, HB.out⟩
    ·have HW := Lib.hid (show okI n = false by rw [HOK.out, ho, file_dflt h1 hd]; rfl)
     have hd2 : ((n.dflt.length : Int) == 0) = false := by simp; exact fun e => hd (by rw [e]; rfl)
     clear ho h1 hd hmode
     go_enter Tryz.func172, Tryz.ntmps172
     go_wp2_with fail
     refine (obj_any _ _ n hc (HV.out.all HB.out) (In.holds_below HH.out HB.out)).mono ?_
     rintro e w1 ⟨rfl, hb⟩
     rw [HO.out]
     replace HX := Lib.hid (HX.out.all hb)
     replace HB := Lib.hid (HB.out.trans (hb.mono HB.out.size))
     clear hb
     obtain ⟨x0, x1, x2, x3, x4, x5, x6, x7, x8, x9⟩ := Bk.c10 HX.out
     go_wp2
     go_ret
     exact ⟨ret_bool HW.out.symm, HB.out⟩
   ·have ho' : objB n = false := by simpa using ho
    have HO := Lib.hid ho'
    have HW := Lib.hid (show okI n = false by rw [HOK.out, ho']; rfl)
    clear ho ho' h1
    go_enter Tryz.func172, Tryz.ntmps172
    go_wp2_with fail
    refine (obj_any _ _ n hc (HV.out.all HB.out) (In.holds_below HH.out HB.out)).mono ?_
    rintro e w1 ⟨rfl, hb⟩
    rw [HO.out]
    replace HB := Lib.hid (HB.out.trans (hb.mono HB.out.size))
    clear hb
    go_wp2
    go_ret
    exact ⟨ret_bool HW.out.symm, HB.out⟩
  ·have h1a : (n.kind == 1) = false := by simpa using h1
   have HW := Lib.hid (show okI n = objB n by rw [HOK.out, file_dir h1]; simp)
   clear h1
   go_enter Tryz.func172, Tryz.ntmps172
   go_wp2_with fail
   refine (obj_any _ _ n hc (HV.out.all HB.out) (In.holds_below HH.out HB.out)).mono ?_
   rintro e w1 ⟨rfl, hb⟩
   replace HB := Lib.hid (HB.out.trans (hb.mono HB.out.size))
   clear hb
   generalize objB n = D at HW ⊢
   go_wp2
   go_ret
   exact ⟨ret_bool HW.out.symm, HB.out⟩
end Go.Proofs.YthppbcnejapbiaaGreatDoor.InOk

-- YthppbcnejapbiaaGreatDoorInSp
/- A part. -/
namespace Go.Proofs.YthppbcnejapbiaaGreatDoor.InSp
open Go.ChangeShapes Go.WideShapes Go.ChangeAt Go.RowKit
open Foot Bx
open InoV (I sameB)
open Dk (ret_bool)
set_option linter.unusedVariables false
theorem no_of {n m : I} (h : n ≠ m) : sameB n m = false := by
 cases hs : sameB n m
 ·rfl
 ·exact absurd ((InoV.same_iff n m).1 hs) h
theorem rest_of {n m : I} (h0 : n.kind = m.kind) (h1 : n.mode = m.mode) (h2 : n.uid = m.uid) (h3 : n.gid = m.gid) (h4 : n.links = m.links) (h5 : n.size = m.size) (h6 : n.tick = m.tick) : sameB n m = (decide (n.blocks = m.blocks) && decide (n.acl = m.acl) && decide (n.dflt = m.dflt)) := by
 simp [sameB, h0, h1, h2, h3, h4, h5, h6]
set_option maxRecDepth 100000 in
set_option maxHeartbeats 3200000 in
theorem same_spec (w : World) (va vb : Value) (n m : I) (hn : In.cost n <= 1073741824) (hm : In.cost m <= 1073741824) (h : In.Holds w va n) (h' : In.Holds w vb m) :
  Calls Tryz.prog 166 #[va, vb] w fun e w' => e = .returned (.bool (sameB n m)) /\ Below w.heap.size w w' := by
 have hn1 : n.blocks.length <= 1073741824 := Nat.le_trans (In.le_blocks n) hn
 have hn2 : n.acl.length <= 1073741824 := Nat.le_trans (In.le_acl n) hn
 have hn3 : n.dflt.length <= 1073741824 := Nat.le_trans (In.le_dflt n) hn
 have hm1 : m.blocks.length <= 1073741824 := Nat.le_trans (In.le_blocks m) hm
 have hm2 : m.acl.length <= 1073741824 := Nat.le_trans (In.le_acl m) hm
 have hm3 : m.dflt.length <= 1073741824 := Nat.le_trans (In.le_dflt m) hm
 clear hn hm
 obtain ⟨r0, r1, r2, rfl, g0, g1, g2⟩ := h
 obtain ⟨s0, s1, s2, rfl, k0, k1, k2⟩ := h'
 have H0 := Lib.hid g0
 have H1 := Lib.hid g1
 have H2 := Lib.hid g2
 have K0 := Lib.hid k0
 have K1 := Lib.hid k1
 have K2 := Lib.hid k2
 clear g0 g1 g2 k0 k1 k2
 have HB := Lib.hid (((Below.refl w.heap.size w).alloc (Nat.le_refl _) (.cells #[.int .i64 n.kind, .int .i64 n.mode, .int .i64 n.uid, .int .i64 n.gid, .int .i64 n.links, .int .i64 n.size, .int .i64 n.tick, r0, r1, r2] 89)).alloc (by simp) (.cells #[.int .i64 m.kind, .int .i64 m.mode, .int .i64 m.uid, .int .i64 m.gid, .int .i64 m.links, .int .i64 m.size, .int .i64 m.tick, s0, s1, s2] 89))
 have HX := Lib.hid ((new w #[.int .i64 n.kind, .int .i64 n.mode, .int .i64 n.uid, .int .i64 n.gid, .int .i64 n.links, .int .i64 n.size, .int .i64 n.tick, r0, r1, r2] 89).alloc (.cells #[.int .i64 m.kind, .int .i64 m.mode, .int .i64 m.uid, .int .i64 m.gid, .int .i64 m.links, .int .i64 m.size, .int .i64 m.tick, s0, s1, s2] 89))
 have HY := Lib.hid (new_at (w.alloc (.cells #[.int .i64 n.kind, .int .i64 n.mode, .int .i64 n.uid, .int .i64 n.gid, .int .i64 n.links, .int .i64 n.size, .int .i64 n.tick, r0, r1, r2] 89)) #[.int .i64 m.kind, .int .i64 m.mode, .int .i64 m.uid, .int .i64 m.gid, .int .i64 m.links, .int .i64 m.size, .int .i64 m.tick, s0, s1, s2] 89 (w.heap.size + 1) (by simp))
 by_cases h0 : n.kind = m.kind
 ·have ha0 : (n.kind == m.kind) = true := by simpa using h0
  have hb0 : (n.kind != m.kind) = false := by simpa using h0
  by_cases h1 : n.mode = m.mode
  ·have ha1 : (n.mode == m.mode) = true := by simpa using h1
   have hb1 : (n.mode != m.mode) = false := by simpa using h1
   by_cases h2 : n.uid = m.uid
   ·have ha2 : (n.uid == m.uid) = true := by simpa using h2
    have hb2 : (n.uid != m.uid) = false := by simpa using h2
    by_cases h3 : n.gid = m.gid
    ·have ha3 : (n.gid == m.gid) = true := by simpa using h3
     have hb3 : (n.gid != m.gid) = false := by simpa using h3
     by_cases h4 : n.links = m.links
     ·have ha4 : (n.links == m.links) = true := by simpa using h4
      have hb4 : (n.links != m.links) = false := by simpa using h4
      by_cases h5 : n.size = m.size
      ·have ha5 : (n.size == m.size) = true := by simpa using h5
       have hb5 : (n.size != m.size) = false := by simpa using h5
       by_cases h6 : n.tick = m.tick
       ·have ha6 : (n.tick == m.tick) = true := by simpa using h6
        have hb6 : (n.tick != m.tick) = false := by simpa using h6
        have HS := Lib.hid (rest_of h0 h1 h2 h3 h4 h5 h6)
        clear h0 h1 h2 h3 h4 h5 h6
        by_cases hbl : n.blocks = m.blocks
        ·have HBL := Lib.hid (show decide (n.blocks = m.blocks) = true from decide_eq_true hbl)
         clear hbl
         by_cases ha : n.acl = m.acl
         ·have HA := Lib.hid (show decide (n.acl = m.acl) = true from decide_eq_true ha)
          clear ha
          go_enter Tryz.func166, Tryz.ntmps166
          go_wp2_with fail
          refine (InEq.same_ints _ r0 s0 n.blocks m.blocks hn1 hm1 (Ni.holds_below H0.out.old HB.out) (Ni.holds_below K0.out.old HB.out)).mono ?_
          rintro e w1 ⟨rfl, hb⟩
          rw [HBL.out]
          replace HX := Lib.hid (HX.out.all hb)
          replace HY := Lib.hid (HY.out.all hb)
          replace HB := Lib.hid (HB.out.trans (hb.mono HB.out.size))
          clear hb
          obtain ⟨x00, x01, x02, x03, x04, x05, x06, x07, x08, x09⟩ := Bk.c10 HX.out
          obtain ⟨y00, y01, y02, y03, y04, y05, y06, y07, y08, y09⟩ := Bk.c10 HY.out
          go_wp2_with fail
          refine (InEq.same_ents _ r1 s1 n.acl m.acl hn2 hm2 (Ae.holds_below H1.out HB.out) (Ae.holds_below K1.out HB.out)).mono ?_
          rintro e w2 ⟨rfl, hb⟩
          rw [HA.out]
          replace HX := Lib.hid (HX.out.all hb)
          replace HY := Lib.hid (HY.out.all hb)
          replace HB := Lib.hid (HB.out.trans (hb.mono HB.out.size))
          clear hb
          obtain ⟨x10, x11, x12, x13, x14, x15, x16, x17, x18, x19⟩ := Bk.c10 HX.out
          obtain ⟨y10, y11, y12, y13, y14, y15, y16, y17, y18, y19⟩ := Bk.c10 HY.out
          go_wp2_with fail
          refine (InEq.same_ents _ r2 s2 n.dflt m.dflt hn3 hm3 (Ae.holds_below H2.out HB.out) (Ae.holds_below K2.out HB.out)).mono ?_
          rintro e w3 ⟨rfl, hb⟩
          have HV := Lib.hid (show sameB n m = decide (n.dflt = m.dflt) by rw [HS.out, HBL.out, HA.out]; simp)
          generalize decide (n.dflt = m.dflt) = D at HV ⊢
          replace HX := Lib.hid (HX.out.all hb)
          replace HY := Lib.hid (HY.out.all hb)
          replace HB := Lib.hid (HB.out.trans (hb.mono HB.out.size))
          clear hb
          obtain ⟨x20, x21, x22, x23, x24, x25, x26, x27, x28, x29⟩ := Bk.c10 HX.out
          obtain ⟨y20, y21, y22, y23, y24, y25, y26, y27, y28, y29⟩ := Bk.c10 HY.out
          go_wp2
          go_ret
          exact ⟨ret_bool HV.out.symm, HB.out⟩
         ·have HA := Lib.hid (show decide (n.acl = m.acl) = false from decide_eq_false ha)
          clear ha
          go_enter Tryz.func166, Tryz.ntmps166
          go_wp2_with fail
          refine (InEq.same_ints _ r0 s0 n.blocks m.blocks hn1 hm1 (Ni.holds_below H0.out.old HB.out) (Ni.holds_below K0.out.old HB.out)).mono ?_
          rintro e w1 ⟨rfl, hb⟩
          rw [HBL.out]
          replace HX := Lib.hid (HX.out.all hb)
          replace HY := Lib.hid (HY.out.all hb)
          replace HB := Lib.hid (HB.out.trans (hb.mono HB.out.size))
          clear hb
          obtain ⟨x00, x01, x02, x03, x04, x05, x06, x07, x08, x09⟩ := Bk.c10 HX.out
          obtain ⟨y00, y01, y02, y03, y04, y05, y06, y07, y08, y09⟩ := Bk.c10 HY.out
          go_wp2_with fail
          refine (InEq.same_ents _ r1 s1 n.acl m.acl hn2 hm2 (Ae.holds_below H1.out HB.out) (Ae.holds_below K1.out HB.out)).mono ?_
          rintro e w2 ⟨rfl, hb⟩
          rw [HA.out]
          replace HX := Lib.hid (HX.out.all hb)
          replace HY := Lib.hid (HY.out.all hb)
          replace HB := Lib.hid (HB.out.trans (hb.mono HB.out.size))
          clear hb
          obtain ⟨x10, x11, x12, x13, x14, x15, x16, x17, x18, x19⟩ := Bk.c10 HX.out
          obtain ⟨y10, y11, y12, y13, y14, y15, y16, y17, y18, y19⟩ := Bk.c10 HY.out
          have HV := Lib.hid (show sameB n m = false by rw [HS.out, HBL.out, HA.out]; simp)
          go_wp2
          go_ret
          exact ⟨ret_bool HV.out.symm, HB.out⟩
        ·have HBL := Lib.hid (show decide (n.blocks = m.blocks) = false from decide_eq_false hbl)
         have HV := Lib.hid (show sameB n m = false by rw [HS.out, HBL.out]; simp)
         clear hbl
         go_enter Tryz.func166, Tryz.ntmps166
         go_wp2_with fail
         refine (InEq.same_ints _ r0 s0 n.blocks m.blocks hn1 hm1 (Ni.holds_below H0.out.old HB.out) (Ni.holds_below K0.out.old HB.out)).mono ?_
         rintro e w1 ⟨rfl, hb⟩
         rw [HBL.out]
         replace HX := Lib.hid (HX.out.all hb)
         replace HY := Lib.hid (HY.out.all hb)
         replace HB := Lib.hid (HB.out.trans (hb.mono HB.out.size))
         clear hb
         obtain ⟨x00, x01, x02, x03, x04, x05, x06, x07, x08, x09⟩ := Bk.c10 HX.out
         obtain ⟨y00, y01, y02, y03, y04, y05, y06, y07, y08, y09⟩ := Bk.c10 HY.out
         go_wp2
         go_ret
         exact ⟨ret_bool HV.out.symm, HB.out⟩
       ·have HV := Lib.hid (show sameB n m = false from no_of (fun e => h6 (by rw [e])))
        have ha6 : (n.tick == m.tick) = false := by simpa using h6
        have hb6 : (n.tick != m.tick) = true := by simpa using h6
        clear h0 h1 h2 h3 h4 h5 h6
        go_enter Tryz.func166, Tryz.ntmps166
        go_wp2
        go_ret
        exact ⟨ret_bool HV.out.symm, HB.out⟩
      ·have HV := Lib.hid (show sameB n m = false from no_of (fun e => h5 (by rw [e])))
       have ha5 : (n.size == m.size) = false := by simpa using h5
       have hb5 : (n.size != m.size) = true := by simpa using h5
       clear h0 h1 h2 h3 h4 h5
       go_enter Tryz.func166, Tryz.ntmps166
       go_wp2
       go_ret
       exact ⟨ret_bool HV.out.symm, HB.out⟩
     ·have HV := Lib.hid (show sameB n m = false from no_of (fun e => h4 (by rw [e])))
      have ha4 : (n.links == m.links) = false := by simpa using h4
      have hb4 : (n.links != m.links) = true := by simpa using h4
      clear h0 h1 h2 h3 h4
      go_enter Tryz.func166, Tryz.ntmps166
      go_wp2
      go_ret
      exact ⟨ret_bool HV.out.symm, HB.out⟩
    ·have HV := Lib.hid (show sameB n m = false from no_of (fun e => h3 (by rw [e])))
     have ha3 : (n.gid == m.gid) = false := by simpa using h3
     have hb3 : (n.gid != m.gid) = true := by simpa using h3
     clear h0 h1 h2 h3
     go_enter Tryz.func166, Tryz.ntmps166
     go_wp2
     go_ret
     exact ⟨ret_bool HV.out.symm, HB.out⟩
   ·have HV := Lib.hid (show sameB n m = false from no_of (fun e => h2 (by rw [e])))
    have ha2 : (n.uid == m.uid) = false := by simpa using h2
    have hb2 : (n.uid != m.uid) = true := by simpa using h2
    clear h0 h1 h2
    go_enter Tryz.func166, Tryz.ntmps166
    go_wp2
    go_ret
    exact ⟨ret_bool HV.out.symm, HB.out⟩
  ·have HV := Lib.hid (show sameB n m = false from no_of (fun e => h1 (by rw [e])))
   have ha1 : (n.mode == m.mode) = false := by simpa using h1
   have hb1 : (n.mode != m.mode) = true := by simpa using h1
   clear h0 h1
   go_enter Tryz.func166, Tryz.ntmps166
   go_wp2
   go_ret
   exact ⟨ret_bool HV.out.symm, HB.out⟩
 ·have HV := Lib.hid (show sameB n m = false from no_of (fun e => h0 (by rw [e])))
  have ha0 : (n.kind == m.kind) = false := by simpa using h0
  have hb0 : (n.kind != m.kind) = true := by simpa using h0
  clear h0
  go_enter Tryz.func166, Tryz.ntmps166
  go_wp2
  go_ret
  exact ⟨ret_bool HV.out.symm, HB.out⟩
end Go.Proofs.YthppbcnejapbiaaGreatDoor.InSp
