/- Contract: the program's ReadSector gives the data of the last pending write to the sector, else the sector; nothing for a disk or a number beyond the limits. Conditions: the lengths. -/
import Derived.RangeFuncNested
import Derived.RangeFuncBound
import Derived.RangeFuncCalls
import Derived.RangeFuncLeaves
import Derived.RangeFuncBox
import Derived.Shelf.Abstract
import Derived.Shelf.RegionOpen
import Derived.WalkKit
import Derived.OwnWalkIn
import Derived.TacticsInMore
import Derived.LoopNIn
import Derived.LoopIn
import Derived.Test.YtgapjdkelkmdgaaReadSpec
import Derived.Test.YtgapjdkelkmdgaaOwn
namespace Go.Proofs.Ytgapjdkelkmdgaa.ReadI
open Go.ChangeShapes Go.WideShapes Go.ChangeAt Go.RowKit Go.Shelf
open Wr (Wt wcells d0)
open Dk (D Holds Ok AtS AtW atS atW ret_bool Box)
open ReadS (lastTo readV Has readF ret_str)
set_option linter.unusedVariables false
attribute [local go_sem] Oper.semAt_some

/-- What has come when k rounds are over. -/
def upto (M : Nat) (k : Nat) : List Nat := (List.range k).map (fun j => M - 1 - j)
theorem upto_succ (M k : Nat) : upto M (k + 1) = upto M k ++ [M - 1 - k] := by simp [upto, List.range_succ]
theorem upto_length (M k : Nat) : (upto M k).length = k := by simp [upto]
/-- What yield is handed at index j. -/
def wv (ws : List Wt) (j : Nat) : Array Value := #[.int .i64 j, .agg #[.int .i64 (ws.getD j d0).1, .string (ws.getD j d0).2]]

/-- slices.Backward: the slice is boxed, the function value captures the box. -/
theorem back_any (a : Option Addr) (n c : Nat) (w : World) :
    Calls Try.prog 70 #[.slice a n c] w fun e w' => e = .returned (.func (.func 112) #[] #[.pointer (some ⟨w.heap.size, 0, none⟩)]) ∧ w' = w.alloc (.cells #[.slice a n c] 24) := by
  go_enter Try.func70, Try.ntmps70
  go_wp2
  go_ret
  exact ⟨rfl, rfl⟩

set_option maxRecDepth 100000 in
set_option maxHeartbeats 2000000 in
/-- Its closure: for every loop body that keeps what lay below n₀. -/
theorem back1_in (F : Fence) (n : Nat) (h74 : F.fn 112) (hro : F.round = none) (hn : 1 ≤ n) (l Bs n₀ : Nat) (a : Option Addr) (M cap : Nat) (ws : List Wt) (hreach : M ≤ 1073741824) (hBsn : Bs < n₀) (J Jx : List Nat → World → Prop)
    (hY : ∀ pre x W, J pre W → pre.length < M → YieldAt F (n - 1) Try.prog l (wv ws x) W fun e W' =>
      (e = .returned (.bool true) ∧ J (pre ++ [x]) W' ∧ Below n₀ W W') ∨ (e = .returned (.bool false) ∧ Jx (pre ++ [x]) W'))
    (W : World) (hn₀ : n₀ ≤ W.heap.size) (hBs : W.cell? ⟨Bs, 0, none⟩ = some (.slice a M cap)) (hc : ∀ j, j < M → ∃ b o, a = some ⟨b, o, none⟩ ∧ b < n₀ ∧ W.cell? ⟨b, o + j * 2, none⟩ = some (.int .i64 (ws.getD j d0).1) ∧ W.cell? ⟨b, o + j * 2 + 1, none⟩ = some (.string (ws.getD j d0).2)) (h0 : J [] W) :
    CallsIn F n Try.prog 112 #[.func (.yield l) #[] #[], .pointer (some ⟨Bs, 0, none⟩)] W fun e W' => (∃ v, e = .returned v) ∧
      ((∃ ys, ys = upto M M ∧ J ys W') ∨ (∃ pre, (∃ k, k ≤ M ∧ pre = upto M k) ∧ Jx pre W')) := by
  have HC := Lib.hid hc
  clear hc
  refine callsIn_of_wp Try.func112 rfl h74 ?_ hro
  simp only [Try.ntmps112, List.size_toArray, List.length_cons, List.length_nil, Nat.reduceAdd, Nat.reduceSub, Array.replicate_succ, Array.replicate_zero, List.push_toArray, List.append_toArray, List.nil_append, List.cons_append]
  gi_wp2
  gi_loopw [3] (fun i wr => ∃ k : Nat, k ≤ M ∧ i = .int .i64 ((M : Int) - 1 - k) ∧ J (upto M k) wr ∧ Below n₀ W wr)
    (fun i _ => ((intOf i) + 1).toNat)
  case atStart => exact ⟨0, Nat.zero_le _, by go_num, h0, Below.refl _ _⟩
  case round =>
    obtain ⟨k, hk, rfl, hJs, hnx⟩ := hrel
    have hbx := (hnx.cell (p := ⟨Bs, 0, none⟩) hBsn).trans hBs
    by_cases hlt : k < M
    · obtain ⟨j, hj⟩ : ∃ j : Nat, j = M - 1 - k := ⟨_, rfl⟩
      have e0 : (M : Int) - 1 - k = j := by omega
      have hjM : j < M := by omega
      have HJ := Lib.hid hj
      clear hj
      obtain ⟨fn, tmps, assign, body, hy, hR⟩ := hY _ j wr hJs (by rw [upto_length]; exact hlt)
      unfold wv at hy
      obtain ⟨b, o, rfl, hb, g1, g2⟩ := HC.out j hjM
      rw [← hnx.cell (p := ⟨b, _, none⟩) hb] at g1 g2
      rw [e0]
      clear e0
      generalize (ws.getD j d0).1 = x1 at hy g1
      generalize (ws.getD j d0).2 = x2 at hy g2
      gi_wp2
      refine hR.mono ?_
      rintro e W3 (⟨rfl, hJ3, hk3⟩ | ⟨rfl, hJx3⟩)
      · gi_wp2
        go_roundw
        case rel => exact ⟨k + 1, by omega, by have := HJ.out; go_num, by rw [upto_succ, ← HJ.out]; exact hJ3, hnx.trans hk3⟩
        case measure => have := HJ.out; simp [intOf]
      · gi_wp2
        refine bodyPost_ret (results_none rfl _ _ _) rfl ?_
        exact ⟨⟨_, rfl⟩, .inr ⟨_, ⟨k + 1, by omega, by rw [upto_succ, ← HJ.out]⟩, hJx3⟩⟩
    · obtain rfl : k = M := by omega
      gi_wp2
      go_end0
      exact ⟨⟨_, rfl⟩, .inl ⟨_, rfl, hJs⟩⟩

theorem back_stops (F : Fence) (n : Nat) (h74 : F.fn 112) (hro : F.round = none) (hn : 1 ≤ n) (Bs : Nat) (a : Option Addr) (M cap : Nat) (ws : List Wt) (hM : M = ws.length) (hreach : M ≤ 1073741824) (w0 : World) (hBs : Bs < w0.heap.size)
    (hc : w0.cell? ⟨Bs, 0, none⟩ = some (.slice a M cap)) (hat : AtW w0 a ws) :
    SeqStopsK F n Try.prog 112 #[.pointer (some ⟨Bs, 0, none⟩)] (wv ws) (Below w0.heap.size) (fun ys => ys = upto M M) (fun pre => ∃ k, k ≤ M ∧ pre = upto M k) M w0 := fun l J Jx W hW _ _ hY h0 =>
  back1_in F n h74 hro hn l Bs w0.heap.size a M cap ws hreach hBs J Jx hY W hW.size ((hW.cell (p := ⟨Bs, 0, none⟩) hBs).trans hc) (fun j hj => by
    obtain ⟨b, o, e, hb, g1, g2⟩ := hat j (by omega)
    exact ⟨b, o, e, hb, (hW.cell (p := ⟨b, _, none⟩) hb).trans g1, (hW.cell (p := ⟨b, _, none⟩) hb).trans g2⟩) h0

theorem boxed_below {W W' : World} {B : Nat} {t : TypeId} {v : Value} (h : Boxed W B t v) (hb : Below W.heap.size W W') : Boxed W' B t v := (hb.block B h.lt).trans h

theorem lastTo_skip (ws : List Wt) (i : Int) (M : Nat) : ∀ k, k ≤ M → (∀ x ∈ upto M k, (ws.getD x d0).1 ≠ i) → lastTo ws i M = lastTo ws i (M - k)
  | 0, _, _ => rfl
  | k + 1, hk, h => by
    rw [lastTo_skip ws i M k (by omega) (fun x hx => h x (by rw [upto_succ]; exact List.mem_append_left _ hx))]
    have hx := h (M - 1 - k) (by rw [upto_succ]; simp)
    rw [show M - k = (M - 1 - k) + 1 from by omega, lastTo, if_neg hx, show M - (k + 1) = M - 1 - k from by omega]
theorem readV_none (ss : List ByteArray) (ws : List Wt) (i : Nat) (h : ∀ x ∈ upto ws.length ws.length, (ws.getD x d0).1 ≠ (i : Int)) : readV (ss, ws) i = ss.getD i ⟨#[]⟩ := by
  have := lastTo_skip ws i ws.length ws.length (Nat.le_refl _) h
  rw [Nat.sub_self] at this
  rw [readV]
  dsimp only
  rw [this, lastTo]
  simp
theorem readV_hit (ss : List ByteArray) (ws : List Wt) (i : Nat) (k j : Nat) (ini : List Nat) (hk : k ≤ ws.length) (he : upto ws.length k = ini ++ [j]) (h : ∀ x ∈ ini, (ws.getD x d0).1 ≠ (i : Int)) (hj : (ws.getD j d0).1 = (i : Int)) : readV (ss, ws) i = (ws.getD j d0).2 := by
  obtain ⟨k', rfl⟩ : ∃ k', k = k' + 1 := by
    cases k with
    | zero => simp [upto] at he
    | succ k' => exact ⟨k', rfl⟩
  rw [upto_succ] at he
  obtain ⟨rfl, e5⟩ := List.append_inj' he rfl
  obtain rfl : ws.length - 1 - k' = j := by simpa using e5
  have := lastTo_skip ws i ws.length k' (by omega) h
  rw [readV]
  dsimp only
  rw [this, show ws.length - k' = (ws.length - 1 - k') + 1 from by omega, lastTo, if_pos hj]
  rfl

set_option maxRecDepth 100000 in
set_option maxHeartbeats 4000000 in
theorem impl_has (w : World) (a : Option Addr) (L ca : Nat) (b : Option Addr) (M cb : Nat) (ss : List ByteArray) (ws : List Wt) (i : Nat) (hL : L = ss.length) (hM : M = ws.length) (h1 : L ≤ 1073741824) (h2 : M ≤ 1073741824) (hok : Ok (ss, ws)) (hi : i < L) (h : Holds w (.slice a L ca) (.slice b M cb) (ss, ws)) :
    Calls Try.prog 22 #[.agg #[.slice a L ca, .slice b M cb], .int .i64 i] w fun e w' => e = .returned (.string (readV (ss, ws) i)) ∧ Below w.heap.size w w' := by
  have HIS := Lib.hid (fun (W : World) (hb : Below w.heap.size w W) => (show Calls Try.prog 59 #[.agg #[.slice a L ca, .slice b M cb]] W fun e w' => e = .returned (.bool true) ∧ Below W.heap.size W w' from by
    have := IsDisk.impl_any W (.slice a L ca) (.slice b M cb) (ss, ws) (by dsimp only; omega) (by dsimp only; omega) (h.below hb)
    rw [decide_eq_true hok] at this
    exact this))
  have HHS := Lib.hid (fun (W : World) => (show Calls Try.prog 69 #[.agg #[.slice a L ca, .slice b M cb], .int .i64 (i : Int)] W fun e w' => e = .returned (.bool true) ∧ Below W.heap.size W w' from by
    have := IsDisk.has_any a L ca (.slice b M cb) i W h1
    rw [decide_eq_true (show 0 ≤ (i : Int) ∧ (i : Int) < L from ⟨by omega, by omega⟩)] at this
    exact this))
  have HA := Lib.hid (show AtS w a ss from by obtain ⟨a', c', e, h'⟩ := atS h.1; cases e; exact h')
  have HW := Lib.hid (show AtW w b ws from by obtain ⟨a', c', e, h'⟩ := atW h.2; cases e; exact h')
  have HL := Lib.hid hL
  have HM := Lib.hid hM
  clear h hL hM hok
  obtain ⟨ba, oa, rfl, hba, hca⟩ := HA.out i (by rw [← HL.out]; exact hi)
  have hle : w.heap.size ≤ w.heap.size + 1 + 1 := by omega
  obtain ⟨w3, hw3⟩ : ∃ w3, ((w.alloc (.cells #[.slice (some ⟨ba, oa, none⟩) L ca, .slice b M cb] 26)).alloc (.cells #[.int .i64 (i : Int)] 3)).alloc (.cells #[.string ⟨#[]⟩] 9) = w3 := ⟨_, rfl⟩
  have hB3 : Below w.heap.size w w3 := by rw [← hw3]; exact (((Below.refl _ w).alloc (Nat.le_refl _) _).alloc (by simp) _).alloc (by simp; omega) _
  have hs3 : w3.heap.size = w.heap.size + 3 := by rw [← hw3]; simp
  have bD : Box w3 w.heap.size (.slice (some ⟨ba, oa, none⟩) L ca) (.slice b M cb) 26 := by rw [← hw3]; exact Dk.blk_alloc (Dk.blk_alloc (Dk.blk_new w _) _) _
  have bI : Boxed w3 (w.heap.size + 1) 3 (.int .i64 (i : Int)) := by
    have := (Boxed.new (w.alloc (.cells #[.slice (some ⟨ba, oa, none⟩) L ca, .slice b M cb] 26)) 3 (.int .i64 (i : Int))).alloc (.cells #[.string ⟨#[]⟩] 9)
    rw [World.size_alloc, hw3] at this; exact this
  have bR : Boxed w3 (w.heap.size + 1 + 1) 9 (.string ⟨#[]⟩) := by
    have := Boxed.new ((w.alloc (.cells #[.slice (some ⟨ba, oa, none⟩) L ca, .slice b M cb] 26)).alloc (.cells #[.int .i64 (i : Int)] 3)) 9 (.string ⟨#[]⟩)
    rw [World.size_alloc, World.size_alloc, hw3] at this; exact this
  have x0 := bD.cells.1
  have x1 := bD.cells.2
  refine (callsIn_wide (n := 3)).1 ?_
  refine callsIn_of_wp_marks Try.func22 rfl trivial ?_ rfl
  simp only [Try.ntmps22, List.size_toArray, List.length_cons, List.length_nil, Nat.reduceAdd, Nat.reduceSub, Array.replicate_succ, Array.replicate_zero, List.push_toArray, List.append_toArray, List.nil_append, List.cons_append]
  gi_wp2_with fail
  refine ⟨trivial, (callsIn_wide.2 (HIS.out w3 hB3)).mono ?_⟩
  rintro e w4 ⟨rfl, hb4⟩
  have hB4 := hB3.trans (hb4.mono hB3.size)
  replace bD := Box.below bD hb4
  replace bI := boxed_below bI hb4
  replace bR := boxed_below bR hb4
  have hs4 := hb4.size
  have y0 := bD.cells.1
  have y1 := bD.cells.2
  have y2 := bI.cell
  clear x0 x1 hb4
  gi_wp2_with fail
  refine ⟨trivial, (callsIn_wide.2 (HHS.out w4)).mono ?_⟩
  rintro e w5 ⟨rfl, hb5⟩
  have hB5 := hB4.trans (hb5.mono hB4.size)
  replace bD := Box.below bD hb5
  replace bI := boxed_below bI hb5
  replace bR := boxed_below bR hb5
  have hs5 := hb5.size
  have z1 := bD.cells.2
  clear y0 y1 y2 hb5
  gi_wp2_with fail
  refine ⟨trivial, (callsIn_wide.2 (back_any b M cb w5)).mono ?_⟩
  rintro e w6 ⟨rfl, rfl⟩
  gi_wp2_with fail
  have bB := Boxed.new w5 24 (.slice b M cb)
  have hb6 := Joins.below_alloc1 w5 (.cells #[.slice b M cb] 24)
  have hsW0 : (w5.alloc (.cells #[.slice b M cb] 24)).heap.size = w5.heap.size + 1 := by simp
  generalize w5.alloc (.cells #[.slice b M cb] 24) = W0 at bB hb6 hsW0 ⊢
  have hB6 := hB5.trans (hb6.mono hB5.size)
  replace bD := Box.below bD hb6
  replace bI := boxed_below bI hb6
  replace bR := boxed_below bR hb6
  clear z1
  refine wpIn_rangeFunc_ownH rfl (by decide) (gf := 112) (lb := #[.pointer (some ⟨w5.heap.size, 0, none⟩)]) rfl trivial (enters_of Try.func112 (by kernel_rfl) rfl)
    (back_stops Fence.wide 2 trivial rfl (by omega) w5.heap.size b M cb ws HM.out h2 W0 (by omega) bB.cell (HW.out.below hB6)) belowK_t (belowK_b (Nat.le_refl _)) (Below.refl _ _) (fun _ => rfl)
    (fun pre W => (∀ j ∈ pre, (ws.getD j d0).1 ≠ (i : Int)) ∧ Below W0.heap.size W0 W)
    (fun c pre W => (c = .ret ∧ ∃ ini j, pre = ini ++ [j] ∧ (∀ x ∈ ini, (ws.getD x d0).1 ≠ (i : Int)) ∧ (ws.getD j d0).1 = (i : Int) ∧ W.cell? ⟨w.heap.size + 1 + 1, 0, none⟩ = some (.string (ws.getD j d0).2)) ∧ Below w.heap.size w W)
    (OwnFrom.and (ownFrom_pure _ _) (ownFrom_below (Nat.le_refl _) (Nat.le_refl _)))
    (fun c => OwnFrom.and (Own.from (fun s A B row hs hg hr => by obtain ⟨hc, ini, j, e1, e2, e3, e4⟩ := hs; exact ⟨hc, ini, j, e1, e2, e3, cell_kept e4 hg hr⟩) _) (ownFrom_below (Nat.le_refl _) hB6.size))
    ⟨by simp, Below.refl _ _⟩
    (fun x a' W => ∃ Bx, W0.heap.size ≤ Bx ∧ Box W Bx (.int .i64 (ws.getD x d0).1) (.string (ws.getD x d0).2) 39 ∧ a' =
      { tmps := #[.agg #[.slice (some ⟨ba, oa, none⟩) L ca, .slice b M cb], .int .i64 i, .pointer (some ⟨w.heap.size, 0, none⟩), .pointer (some ⟨w.heap.size + 1, 0, none⟩), .pointer (some ⟨w.heap.size + 1 + 1, 0, none⟩), undef, .pointer (some ⟨Bx, 0, none⟩),
          .agg #[.slice (some ⟨ba, oa, none⟩) L ca, .slice b M cb], .bool true, .bool false, .bool false, .agg #[.slice (some ⟨ba, oa, none⟩) L ca, .slice b M cb], .int .i64 i, .bool true, .bool false, .bool false, .pointer (some ⟨w.heap.size, 1, none⟩), .slice b M cb,
          .func (.func 112) #[] #[.pointer (some ⟨w5.heap.size, 0, none⟩)], .int .i64 (x : Int), .agg #[.int .i64 (ws.getD x d0).1, .string (ws.getD x d0).2], undef, undef, undef, undef, undef, undef, undef, undef, undef, undef, undef], defers := [] })
    (fun x a' _ X Y row hs hg hr => by obtain ⟨Bx, h1, h2, h3⟩ := hs; exact ⟨Bx, h1, Dk.blk_grown h2 hg (fun e => by obtain ⟨_, o, ho, hc⟩ := hr Bx e.symm; rw [show X.heap[Bx]? = _ from h2] at ho; cases ho; cases hc), h3⟩)
    ?assign ?body ?done ?stop
  case assign =>
    rintro l pre x W K ⟨hp, hB⟩ hK
    unfold wv
    generalize (ws.getD x d0).1 = x1 at hK ⊢
    generalize (ws.getD x d0).2 = x2 at hK ⊢
    gi_wp2
    exact hK _ _ ((KeepsOthers.alloc _ _).from _) ((Below.refl _ W).alloc hB.size _) ⟨hp, hB.alloc hB.size _⟩ ⟨W.heap.size, hB.size, Dk.blk_new W _, rfl⟩
  case body =>
    rintro l pre x a' W hl ⟨r, hr⟩ ⟨hp, hB⟩ ⟨Bx, hBx, bX, rfl⟩ hlt
    have HP := Lib.hid hp
    clear hp
    have q0 := bX.cells.1
    have q1 := bX.cells.2
    have q2 := (boxed_below bI hB).cell
    have bR' := boxed_below bR hB
    have q3 := bR'.cell
    have q4 := bR'.frozen
    have hBw := hB6.trans (hB.mono hB6.size)
    by_cases hx : (ws.getD x d0).1 = (i : Int)
    · have HX := Lib.hid hx
      rw [hx] at q0
      generalize (ws.getD x d0).1 = x1
      obtain ⟨x2, hx2⟩ : ∃ q, q = (ws.getD x d0).2 := ⟨_, rfl⟩
      rw [← hx2] at q1
      have HX2 := Lib.hid hx2
      clear hx hx2
      gi_wp2
      exact ⟨(KeepsOthers.setCell _ _ _).from _, ⟨rfl, pre, x, rfl, HP.out, HX.out, by rw [← HX2.out]; exact World.cell?_setCell_same' _ _ _ (by rw [q3]; rfl)⟩, hBw.setCell (p := ⟨w.heap.size + 1 + 1, 0, none⟩) hle _⟩
    · have HX := Lib.hid hx
      obtain ⟨x1, hx1⟩ : ∃ q, q = (ws.getD x d0).1 := ⟨_, rfl⟩
      rw [← hx1] at q0 hx
      have hbq : (x1 == (i : Int)) = false := beq_false_of_ne hx
      clear hx1 hx
      generalize (ws.getD x d0).2 = x2 at q1
      gi_wp2
      exact ⟨KeepsFrom.refl _ _, Below.refl _ _, fun y hy => (List.mem_append.1 hy).elim (HP.out y) (fun e => by simp at e; subst e; exact HX.out), hB⟩
  case done =>
    rintro D ys W hD rfl ⟨hne, hB⟩ hK
    have HN := Lib.hid hne
    clear hne
    have bD' := Box.below bD hB
    have q0 := bD'.cells.1
    have q2 := (boxed_below bI hB).cell
    have bR' := boxed_below bR hB
    have q3 := bR'.cell
    have q4 := bR'.frozen
    have hBw := hB6.trans (hB.mono hB6.size)
    have q5 := (hBw.cell (p := ⟨ba, oa + i, none⟩) hba).trans hca
    have HV := Lib.hid (show readV (ss, ws) i = ss.getD i ⟨#[]⟩ from readV_none ss ws i (by rw [← HM.out]; exact HN.out))
    generalize ss.getD i ⟨#[]⟩ = s at q5 HV
    gi_wp2
    have hK' := (KeepsOthers.setCell W ⟨w.heap.size + 1 + 1, 0, none⟩ (.string s)).same D _ hK rfl
    refine ⟨by simp, .inl ⟨_, _, rfl, run_takeDeferred hK', ?_⟩⟩
    have hc5 := cell_kept (World.cell?_setCell_same' W ⟨w.heap.size + 1 + 1, 0, none⟩ (.string s) (by rw [q3]; rfl)) (grownBy_putObj' _ D (.deferred none)) (fun r e => by cases e; exact ⟨_, hK', rfl⟩)
    refine ⟨.string s, ?_, by rw [HV.out], (hBw.setCell (p := ⟨w.heap.size + 1 + 1, 0, none⟩) hle _).trans (belowK_b (w := w) (Nat.le_refl _) _ D _ _ (by omega) hK' rfl rfl)⟩
    simp [results, Try.results22, go_sem, hc5]
  case stop =>
    rintro D c pre W hD ⟨k, hk, rfl⟩ ⟨⟨rfl, ini, j, e1, e2, e3, hcr⟩, hB⟩ hK
    rw [HM.out] at hk e1
    have HV := Lib.hid (readV_hit ss ws i k j ini hk e1 e2 e3)
    gi_wp2
    refine ⟨by simp, .inl ⟨_, _, rfl, run_takeDeferred hK, ?_⟩⟩
    have hc5 := cell_kept hcr (grownBy_putObj' _ D (.deferred none)) (fun r e => by cases e; exact ⟨_, hK, rfl⟩)
    refine ⟨.string (ws.getD j d0).2, ?_, by rw [HV.out], hB.trans (belowK_b (w := w) (Nat.le_refl _) W D _ _ (by omega) hK rfl rfl)⟩
    simp [results, Try.results22, go_sem, hc5]

set_option maxRecDepth 100000 in
set_option maxHeartbeats 1000000 in
theorem impl_any (w : World) (vs vp : Value) (d : D) (i : Int) (h1 : d.1.length ≤ 1073741824) (h2 : d.2.length ≤ 1073741824) (h : Holds w vs vp d) :
    Calls Try.prog 22 #[.agg #[vs, vp], .int .i64 i] w fun e w' => e = .returned (.string (readF d i)) ∧ Below w.heap.size w w' := by
  have H := Lib.hid h
  obtain ⟨a, ca, rfl, _⟩ := atS h.1
  obtain ⟨b, cb, rfl, _⟩ := atW h.2
  clear h
  by_cases hp : Ok d ∧ Has d i
  · obtain ⟨hok, hi⟩ := hp
    obtain ⟨n, rfl⟩ : ∃ n : Nat, i = n := ⟨i.toNat, by have := hi.1; omega⟩
    rw [show readF d (n : Int) = readV d n from if_pos ⟨hok, hi⟩]
    exact impl_has w a _ ca b _ cb d.1 d.2 n rfl rfl h1 h2 hok (by have := hi.2; omega) H.out
  · have HR := Lib.hid (show readF d i = ⟨#[]⟩ from if_neg hp)
    have hb1 := Joins.below_alloc1 w (.cells #[.slice a d.1.length ca, .slice b d.2.length cb] 26)
    have hb2 := hb1.alloc (by simp) (.cells #[.int .i64 i] 3)
    have hb3 := hb2.alloc (by simp; omega) (.cells #[.string ⟨#[]⟩] 9)
    have HB := Lib.hid hb3
    have bD := Lib.hid (show Box (((w.alloc (.cells #[.slice a d.1.length ca, .slice b d.2.length cb] 26)).alloc (.cells #[.int .i64 i] 3)).alloc (.cells #[.string ⟨#[]⟩] 9)) w.heap.size _ _ 26 from Dk.blk_alloc (Dk.blk_alloc (Dk.blk_new w (.cells #[.slice a d.1.length ca, .slice b d.2.length cb] 26)) _) _)
    have hbI := (Boxed.new (w.alloc (.cells #[.slice a d.1.length ca, .slice b d.2.length cb] 26)) 3 (.int .i64 i)).alloc (.cells #[.string ⟨#[]⟩] 9)
    have hbR := Boxed.new ((w.alloc (.cells #[.slice a d.1.length ca, .slice b d.2.length cb] 26)).alloc (.cells #[.int .i64 i] 3)) 9 (.string ⟨#[]⟩)
    simp only [World.size_alloc] at hbI hbR
    have bI := Lib.hid hbI
    have bR := Lib.hid hbR
    clear hb1 hb2 hb3 hbI hbR
    have hle : w.heap.size ≤ w.heap.size + 1 + 1 := by omega
    by_cases hok : Ok d
    · have HI := Lib.hid (show decide (0 ≤ i ∧ i < (d.1.length : Int)) = false from decide_eq_false (fun h => hp ⟨hok, h⟩))
      have HOK := Lib.hid (show decide (Ok d) = true from decide_eq_true hok)
      clear hp hok
      go_enter Try.func22, Try.ntmps22
      go_wp2_with fail
      refine (IsDisk.impl_any _ _ _ d h1 h2 (H.out.below HB.out)).mono ?_
      rintro e w1 ⟨rfl, hb⟩
      rw [HOK.out]
      obtain ⟨x0, x1⟩ := (Box.below bD.out hb).cells
      have x2 := (boxed_below bI.out hb).cell
      have x3 := (boxed_below bR.out hb).cell
      have x4 := (boxed_below bR.out hb).frozen
      have HB1 := Lib.hid (HB.out.trans (hb.mono HB.out.size))
      have bR1 := Lib.hid (boxed_below bR.out hb)
      clear hb
      go_wp2_with fail
      refine (IsDisk.has_any a _ ca _ i _ h1).mono ?_
      rw [HI.out]
      rintro e w2 ⟨rfl, hb⟩
      have y3 := (boxed_below bR1.out hb).cell
      have y4 := (boxed_below bR1.out hb).frozen
      have HB2 := Lib.hid (HB1.out.trans (hb.mono HB1.out.size))
      clear hb x0 x1 x2 x3 x4
      go_wp2
      refine bodyPost_ret (v := .string ⟨#[]⟩) ?_ rfl ⟨ret_str HR.out.symm, HB2.out.setCell (p := ⟨w.heap.size + 1 + 1, 0, none⟩) hle _⟩
      have c0 := World.cell?_setCell_same' w2 ⟨w.heap.size + 1 + 1, 0, none⟩ (.string ⟨#[]⟩) (by rw [y3]; rfl)
      simp [results, Try.results22, go_sem, c0]
    · have HOK := Lib.hid (show decide (Ok d) = false from decide_eq_false hok)
      clear hp hok
      go_enter Try.func22, Try.ntmps22
      go_wp2_with fail
      refine (IsDisk.impl_any _ _ _ d h1 h2 (H.out.below HB.out)).mono ?_
      rintro e w1 ⟨rfl, hb⟩
      rw [HOK.out]
      have y3 := (boxed_below bR.out hb).cell
      have y4 := (boxed_below bR.out hb).frozen
      have HB2 := Lib.hid (HB.out.trans (hb.mono HB.out.size))
      clear hb
      go_wp2
      refine bodyPost_ret (v := .string ⟨#[]⟩) ?_ rfl ⟨ret_str HR.out.symm, HB2.out.setCell (p := ⟨w.heap.size + 1 + 1, 0, none⟩) hle _⟩
      have c0 := World.cell?_setCell_same' w1 ⟨w.heap.size + 1 + 1, 0, none⟩ (.string ⟨#[]⟩) (by rw [y3]; rfl)
      simp [results, Try.results22, go_sem, c0]
end Go.Proofs.Ytgapjdkelkmdgaa.ReadI
