/- Contracts: the library's Equal at both element types, the model's comparisons of slices, the program's SameDisk and the model's: whether two disks are equal. Conditions: the lengths. -/
import Derived.Test.YtbfbcfnnajaeeaaApp
import Derived.Deep.RegionHeld3
import Derived.Lib.SlicesS
import Derived.Laws.StructEq
namespace Go.Proofs.Ytbfbcfnnajaeeaa.Same
open Go.ChangeShapes Go.WideShapes Go.ChangeAt Go.RowKit
open Wr (Wt wcells d0)
open Dk (D Holds AtS AtW atS atW ret_bool)
set_option linter.unusedVariables false

theorem ext_getD {α : Type} {d : α} {xs ys : List α} (hl : xs.length = ys.length) (h : ∀ j, j < xs.length → xs.getD j d = ys.getD j d) : xs = ys := by
  refine List.ext_getElem hl fun i h1 h2 => ?_
  have := h i h1
  simpa [List.getD, List.getElem?_eq_getElem h1, List.getElem?_eq_getElem h2] using this
theorem below_draws {w : World} (m : Nat) : Below w.heap.size w (w.drewN m) := Joins.below_draws _ w m

set_option maxRecDepth 100000 in
set_option maxHeartbeats 400000 in
theorem equalS_any (w : World) (va vb : Value) (xs ys : List ByteArray) (h1 : xs.length ≤ 1073741824) (h2 : ys.length ≤ 1073741824) (ha : Strs.Holds w va xs) (hb : Strs.Holds w vb ys) :
    Calls Try.prog 46 #[va, vb] w fun e w' => e = .returned (.bool (decide (xs = ys))) ∧ Below w.heap.size w w' := by
  obtain ⟨a, ca, rfl, hA⟩ := atS ha
  obtain ⟨b, cb, rfl, hB⟩ := atS hb
  have HA := Lib.hid hA
  have HB := Lib.hid hB
  clear hA hB ha hb
  by_cases hl : xs.length = ys.length
  · obtain ⟨L, hL⟩ : ∃ L, L = xs.length := ⟨_, rfl⟩
    rw [← hl]
    rw [← hl] at h2
    rw [← hL] at h1 ⊢
    have HL := Lib.hid hL
    have HE := Lib.hid hl
    clear hL hl h2
    go_enter Try.func46, Try.ntmps46
    go_wp2
    go_loopw [13] (fun i wr => ∃ k m : Nat, k ≤ L ∧ i = .int .i64 k ∧ wr = w.drewN m ∧ ∀ j, j < k → xs.getD j ⟨#[]⟩ = ys.getD j ⟨#[]⟩) (fun i _ => L - (intOf i).toNat)
    case atStart => exact ⟨0, 0, Nat.zero_le _, rfl, rfl, fun j hj => absurd hj (Nat.not_lt_zero _)⟩
    case round =>
      obtain ⟨k, m, hk, rfl, rfl, heq⟩ := hrel
      have HQ := Lib.hid heq
      clear heq
      by_cases hlt : k < L
      · obtain ⟨b1, o1, rfl, _, g1⟩ := HA.out k (by rw [← HL.out]; exact hlt)
        obtain ⟨b2, o2, rfl, _, g2⟩ := HB.out k (by rw [← HE.out, ← HL.out]; exact hlt)
        by_cases hxy : xs.getD k ⟨#[]⟩ = ys.getD k ⟨#[]⟩
        · have HN := Lib.hid (show ∀ j, j < k + 1 → xs.getD j ⟨#[]⟩ = ys.getD j ⟨#[]⟩ from fun j hj => (by
            rcases Nat.lt_or_ge j k with hjk | hjk
            · exact HQ.out j hjk
            · rw [show j = k from by omega]; exact hxy))
          rw [← hxy] at g2
          clear hxy
          generalize xs.getD k ⟨#[]⟩ = x at g1 g2
          go_wp2
          go_quiet (fail)
          go_wp2
          go_roundw
          case rel => exact ⟨k + 1, _, by omega, by go_num, by first | rfl | exact World.drewN_drewN .., HN.out⟩
          case measure => simp [intOf]; omega
        · have HN := Lib.hid (show decide (xs = ys) = false from decide_eq_false (fun h => hxy (by rw [h])))
          generalize xs.getD k ⟨#[]⟩ = x at g1 hxy
          generalize ys.getD k ⟨#[]⟩ = y at g2 hxy
          have hbq : (x.toList == y.toList) = false := (Lib.bytes_beq_false_iff x y).2 hxy
          go_wp2
          go_quiet (fail)
          go_wp2
          go_ret
          exact ⟨ret_bool HN.out.symm, by first | exact below_draws _ | (rw [World.drewN_drewN]; exact below_draws _)⟩
      · have HN := Lib.hid (show decide (xs = ys) = true from decide_eq_true (ext_getD HE.out (fun j hj => HQ.out j (by rw [← HL.out] at hj; omega))))
        go_wp2
        go_ret
        exact ⟨ret_bool HN.out.symm, below_draws _⟩
  · have hd : decide (xs = ys) = false := decide_eq_false (fun h => hl (by rw [h]))
    rw [hd]
    generalize xs.length = L at *
    generalize ys.length = M at *
    go_enter Try.func46, Try.ntmps46
    go_wp2
    go_ret
    exact ⟨rfl, Below.refl _ _⟩
set_option maxRecDepth 100000 in
/-- '!=' at two writes. -/
theorem neq_wr (x y : Wt) (w : World) : Sem.run Try.prog (binOp .neq 60 (.agg #[.int .i64 x.1, .string x.2]) (.agg #[.int .i64 y.1, .string y.2])) w = .ok (.bool (!decide (x = y))) w := by
  have u3 := Try.underlying3
  have u9 := Try.underlying9
  have a3 := Try.isAgg3
  have z3 := Try.sizeOf3
  have a9 := Try.isAgg9
  have z9 := Try.sizeOf9
  have hS : Try.prog.underlying 60 = some (.struct (Try.prog.fieldsOf 60)) := by kernel_rfl
  have hp : Try.prog.stoodInHeld 60 = false := by kernel_rfl
  rw [run_neq_struct, show (10000 : Nat) = 9999 + 1 from rfl, run_equalIn_agg w 9999 60 _ _ hS hp]
  simp only [Program.fieldsOf, Try.underlying60]
  go_simp
  by_cases h1 : x.1 = y.1
  · by_cases h2 : x.2 = y.2
    · have : x = y := Prod.ext h1 h2
      subst this
      simp
    · have : x ≠ y := fun h => h2 (by rw [h])
      simp [h1, this]
      exact fun he => h2 ((Lib.bytes_beq_iff x.2 y.2).1 (by rw [he]; simp))
  · have : x ≠ y := fun h => h1 (by rw [h])
    simp [h1, this]
theorem guard_wr (o : BinOp) (x y : Operand) (xs ys : Array Value) (w : World) : Sem.run Try.prog (eqGuard o 60 x y (.agg xs) (.agg ys)) w = .ok () w := run_eqGuard_agg w o 60 x y xs ys (by kernel_rfl)

set_option maxRecDepth 100000 in
set_option maxHeartbeats 400000 in
theorem equalW_any (w : World) (va vb : Value) (xs ys : List Wt) (h1 : xs.length ≤ 1073741824) (h2 : ys.length ≤ 1073741824) (ha : Wr.Holds w va xs) (hb : Wr.Holds w vb ys) :
    Calls Try.prog 47 #[va, vb] w fun e w' => e = .returned (.bool (decide (xs = ys))) ∧ Below w.heap.size w w' := by
  obtain ⟨a, ca, rfl, hA⟩ := atW ha
  obtain ⟨b, cb, rfl, hB⟩ := atW hb
  have HA := Lib.hid hA
  have HB := Lib.hid hB
  clear hA hB ha hb
  by_cases hl : xs.length = ys.length
  · obtain ⟨L, hL⟩ : ∃ L, L = xs.length := ⟨_, rfl⟩
    rw [← hl]
    rw [← hl] at h2
    rw [← hL] at h1 ⊢
    have HL := Lib.hid hL
    have HE := Lib.hid hl
    clear hL hl h2
    go_enter Try.func47, Try.ntmps47
    go_wp2
    go_loopw [13] (fun i wr => ∃ k m : Nat, k ≤ L ∧ i = .int .i64 k ∧ wr = w.drewN m ∧ ∀ j, j < k → xs.getD j d0 = ys.getD j d0) (fun i _ => L - (intOf i).toNat)
    case atStart => exact ⟨0, 0, Nat.zero_le _, rfl, rfl, fun j hj => absurd hj (Nat.not_lt_zero _)⟩
    case round =>
      obtain ⟨k, m, hk, rfl, rfl, heq⟩ := hrel
      have HQ := Lib.hid heq
      clear heq
      by_cases hlt : k < L
      · obtain ⟨b1, o1, rfl, _, g1, g1'⟩ := HA.out k (by rw [← HL.out]; exact hlt)
        obtain ⟨b2, o2, rfl, _, g2, g2'⟩ := HB.out k (by rw [← HE.out, ← HL.out]; exact hlt)
        by_cases hxy : xs.getD k d0 = ys.getD k d0
        · have HN := Lib.hid (show ∀ j, j < k + 1 → xs.getD j d0 = ys.getD j d0 from fun j hj => (by
            rcases Nat.lt_or_ge j k with hjk | hjk
            · exact HQ.out j hjk
            · rw [show j = k from by omega]; exact hxy))
          rw [← hxy] at g2 g2'
          clear hxy
          generalize xs.getD k d0 = x at g1 g1' g2 g2'
          go_wp2
          go_quiet (fail)
          go_wp2
          go_roundw
          case rel => exact ⟨k + 1, _, by omega, by go_num, by first | rfl | exact World.drewN_drewN .., HN.out⟩
          case measure => simp [intOf]; omega
        · have HN := Lib.hid (show decide (xs = ys) = false from decide_eq_false (fun h => hxy (by rw [h])))
          generalize xs.getD k d0 = x at g1 g1' hxy
          generalize ys.getD k d0 = y at g2 g2' hxy
          have hq : ∀ w, Sem.run Try.prog (binOp .neq 60 (.agg #[.int .i64 x.1, .string x.2]) (.agg #[.int .i64 y.1, .string y.2])) w = .ok (.bool true) w := fun w => by rw [neq_wr x y w, decide_eq_false hxy]; rfl
          have hg := guard_wr
          go_wp2
          go_quiet (fail)
          go_wp2
          go_ret
          exact ⟨ret_bool HN.out.symm, by first | exact below_draws _ | (rw [World.drewN_drewN]; exact below_draws _)⟩
      · have HN := Lib.hid (show decide (xs = ys) = true from decide_eq_true (ext_getD HE.out (fun j hj => HQ.out j (by rw [← HL.out] at hj; omega))))
        go_wp2
        go_ret
        exact ⟨ret_bool HN.out.symm, below_draws _⟩
  · have hd : decide (xs = ys) = false := decide_eq_false (fun h => hl (by rw [h]))
    rw [hd]
    generalize xs.length = L at *
    generalize ys.length = M at *
    go_enter Try.func47, Try.ntmps47
    go_wp2
    go_ret
    exact ⟨rfl, Below.refl _ _⟩
set_option maxRecDepth 100000 in
set_option maxHeartbeats 400000 in
theorem texts_any (w : World) (va vb : Value) (xs ys : List ByteArray) (h1 : xs.length ≤ 1073741824) (h2 : ys.length ≤ 1073741824) (ha : Strs.Holds w va xs) (hb : Strs.Holds w vb ys) :
    Calls Try.prog 65 #[va, vb] w fun e w' => e = .returned (.bool (decide (xs = ys))) ∧ Below w.heap.size w w' := by
  obtain ⟨a, ca, rfl, hA⟩ := atS ha
  obtain ⟨b, cb, rfl, hB⟩ := atS hb
  have HA := Lib.hid hA
  have HB := Lib.hid hB
  clear hA hB ha hb
  by_cases hl : xs.length = ys.length
  · obtain ⟨L, hL⟩ : ∃ L, L = xs.length := ⟨_, rfl⟩
    rw [← hl]
    rw [← hl] at h2
    rw [← hL] at h1 ⊢
    have HL := Lib.hid hL
    have HE := Lib.hid hl
    clear hL hl h2
    go_enter Try.func65, Try.ntmps65
    go_wp2
    go_loopw [14] (fun i wr => ∃ k m : Nat, k ≤ L ∧ i = .int .i64 k ∧ wr = w.drewN m ∧ ∀ j, j < k → xs.getD j ⟨#[]⟩ = ys.getD j ⟨#[]⟩) (fun i _ => L - (intOf i).toNat)
    case atStart => exact ⟨0, 0, Nat.zero_le _, rfl, rfl, fun j hj => absurd hj (Nat.not_lt_zero _)⟩
    case round =>
      obtain ⟨k, m, hk, rfl, rfl, heq⟩ := hrel
      have HQ := Lib.hid heq
      clear heq
      by_cases hlt : k < L
      · obtain ⟨b1, o1, rfl, _, g1⟩ := HA.out k (by rw [← HL.out]; exact hlt)
        obtain ⟨b2, o2, rfl, _, g2⟩ := HB.out k (by rw [← HE.out, ← HL.out]; exact hlt)
        by_cases hxy : xs.getD k ⟨#[]⟩ = ys.getD k ⟨#[]⟩
        · have HN := Lib.hid (show ∀ j, j < k + 1 → xs.getD j ⟨#[]⟩ = ys.getD j ⟨#[]⟩ from fun j hj => (by
            rcases Nat.lt_or_ge j k with hjk | hjk
            · exact HQ.out j hjk
            · rw [show j = k from by omega]; exact hxy))
          rw [← hxy] at g2
          clear hxy
          generalize xs.getD k ⟨#[]⟩ = x at g1 g2
          go_wp2
          go_roundw
          case rel => exact ⟨k + 1, m, by omega, by go_num, by first | rfl | exact World.drewN_drewN .., HN.out⟩
          case measure => simp [intOf]; omega
        · have HN := Lib.hid (show decide (xs = ys) = false from decide_eq_false (fun h => hxy (by rw [h])))
          generalize xs.getD k ⟨#[]⟩ = x at g1 hxy
          generalize ys.getD k ⟨#[]⟩ = y at g2 hxy
          have hbq : (x.toList == y.toList) = false := (Lib.bytes_beq_false_iff x y).2 hxy
          go_wp2
          go_ret
          exact ⟨ret_bool HN.out.symm, by first | exact below_draws _ | (rw [World.drewN_drewN]; exact below_draws _)⟩
      · have HN := Lib.hid (show decide (xs = ys) = true from decide_eq_true (ext_getD HE.out (fun j hj => HQ.out j (by rw [← HL.out] at hj; omega))))
        go_wp2
        go_ret
        exact ⟨ret_bool HN.out.symm, below_draws _⟩
  · have hd : decide (xs = ys) = false := decide_eq_false (fun h => hl (by rw [h]))
    rw [hd]
    generalize xs.length = L at *
    generalize ys.length = M at *
    go_enter Try.func65, Try.ntmps65
    go_wp2
    go_ret
    exact ⟨rfl, Below.refl _ _⟩
set_option maxRecDepth 100000 in
set_option maxHeartbeats 400000 in
theorem writes_any (w : World) (va vb : Value) (xs ys : List Wt) (h1 : xs.length ≤ 1073741824) (h2 : ys.length ≤ 1073741824) (ha : Wr.Holds w va xs) (hb : Wr.Holds w vb ys) :
    Calls Try.prog 66 #[va, vb] w fun e w' => e = .returned (.bool (decide (xs = ys))) ∧ Below w.heap.size w w' := by
  obtain ⟨a, ca, rfl, hA⟩ := atW ha
  obtain ⟨b, cb, rfl, hB⟩ := atW hb
  have HA := Lib.hid hA
  have HB := Lib.hid hB
  clear hA hB ha hb
  by_cases hl : xs.length = ys.length
  · obtain ⟨L, hL⟩ : ∃ L, L = xs.length := ⟨_, rfl⟩
    rw [← hl]
    rw [← hl] at h2
    rw [← hL] at h1 ⊢
    have HL := Lib.hid hL
    have HE := Lib.hid hl
    clear hL hl h2
    go_enter Try.func66, Try.ntmps66
    go_wp2
    go_loopw [14] (fun i wr => ∃ k : Nat, k ≤ L ∧ i = .int .i64 k ∧ Below w.heap.size w wr ∧ ∀ j, j < k → xs.getD j d0 = ys.getD j d0) (fun i _ => L - (intOf i).toNat)
    case atStart => exact ⟨0, Nat.zero_le _, rfl, Below.refl _ _, fun j hj => absurd hj (Nat.not_lt_zero _)⟩
    case round =>
      obtain ⟨k, hk, rfl, hbel, heq⟩ := hrel
      have HBEL := Lib.hid hbel
      have hsz := hbel.size
      clear hbel
      have HQ := Lib.hid heq
      clear heq
      by_cases hlt : k < L
      · obtain ⟨b1, o1, rfl, hl1, g1, g1'⟩ := HA.out k (by rw [← HL.out]; exact hlt)
        obtain ⟨b2, o2, rfl, hl2, g2, g2'⟩ := HB.out k (by rw [← HE.out, ← HL.out]; exact hlt)
        rw [← HBEL.out.cell (p := ⟨b1, _, none⟩) hl1] at g1 g1'
        rw [← HBEL.out.cell (p := ⟨b2, _, none⟩) hl2] at g2 g2'
        have hl3 : b2 < wr.heap.size := by omega
        by_cases hxy : xs.getD k d0 = ys.getD k d0
        · have HN := Lib.hid (show ∀ j, j < k + 1 → xs.getD j d0 = ys.getD j d0 from fun j hj => (by
            rcases Nat.lt_or_ge j k with hjk | hjk
            · exact HQ.out j hjk
            · rw [show j = k from by omega]; exact hxy))
          rw [← hxy] at g2 g2'
          clear hxy
          generalize xs.getD k d0 = x at g1 g1' g2 g2'
          go_wp2
          go_quiet (fail)
          go_wp2
          go_roundw
          case rel => exact ⟨k + 1, by omega, by go_num, (HBEL.out.alloc hsz _).trans (below_draws _ |>.mono (by simp; omega)), HN.out⟩
          case measure => simp [intOf]; omega
        · have HN := Lib.hid (show decide (xs = ys) = false from decide_eq_false (fun h => hxy (by rw [h])))
          generalize xs.getD k d0 = x at g1 g1' hxy
          generalize ys.getD k d0 = y at g2 g2' hxy
          have hq : ∀ w, Sem.run Try.prog (binOp .neq 60 (.agg #[.int .i64 x.1, .string x.2]) (.agg #[.int .i64 y.1, .string y.2])) w = .ok (.bool true) w := fun w => by rw [neq_wr x y w, decide_eq_false hxy]; rfl
          have hg := guard_wr
          go_wp2
          go_quiet (fail)
          go_wp2
          go_ret
          exact ⟨ret_bool HN.out.symm, (HBEL.out.alloc hsz _).trans (below_draws _ |>.mono (by simp; omega))⟩
      · have HN := Lib.hid (show decide (xs = ys) = true from decide_eq_true (ext_getD HE.out (fun j hj => HQ.out j (by rw [← HL.out] at hj; omega))))
        go_wp2
        go_ret
        exact ⟨ret_bool HN.out.symm, HBEL.out⟩
  · have hd : decide (xs = ys) = false := decide_eq_false (fun h => hl (by rw [h]))
    rw [hd]
    generalize xs.length = L at *
    generalize ys.length = M at *
    go_enter Try.func66, Try.ntmps66
    go_wp2
    go_ret
    exact ⟨rfl, Below.refl _ _⟩
set_option maxRecDepth 100000 in
set_option maxHeartbeats 400000 in
theorem impl_any (w : World) (va vb vc vd : Value) (d d' : D) (h1 : d.1.length ≤ 1073741824) (h2 : d.2.length ≤ 1073741824) (h3 : d'.1.length ≤ 1073741824) (h4 : d'.2.length ≤ 1073741824) (h : Holds w va vb d) (h' : Holds w vc vd d') :
    Calls Try.prog 18 #[.agg #[va, vb], .agg #[vc, vd]] w fun e w' => e = .returned (.bool (decide (d = d'))) ∧ Below w.heap.size w w' := by
  have H := Lib.hid h
  have H' := Lib.hid h'
  have hcase := Lib.hid (show decide (d = d') = (decide (d.1 = d'.1) && decide (d.2 = d'.2)) by
    obtain ⟨a, b⟩ := d
    obtain ⟨a', b'⟩ := d'
    by_cases q1 : a = a' <;> by_cases q2 : b = b' <;> simp [q1, q2])
  clear h h'
  have HB := Lib.hid (((Below.refl w.heap.size w).alloc (Nat.le_refl _) (.cells #[va, vb] 26)).alloc (by simp) (.cells #[vc, vd] 26))
  have BX := Lib.hid (show Dk.Box ((w.alloc (.cells #[va, vb] 26)).alloc (.cells #[vc, vd] 26)) w.heap.size va vb 26 from Dk.blk_alloc (Dk.blk_new w _) _)
  have BY := Lib.hid (show Dk.Box ((w.alloc (.cells #[va, vb] 26)).alloc (.cells #[vc, vd] 26)) (w.heap.size + 1) vc vd 26 from by
    have := Dk.blk_new (w.alloc (.cells #[va, vb] 26)) (.cells #[vc, vd] 26)
    rw [World.size_alloc] at this
    exact this)
  by_cases hq : d.1 = d'.1
  · have hd1 : decide (d.1 = d'.1) = true := decide_eq_true hq
    have HD1 := Lib.hid hd1
    clear hd1 hq
    go_enter Try.func18, Try.ntmps18
    go_wp2_with fail
    refine (equalS_any _ va vc d.1 d'.1 h1 h3 (H.out.below HB.out).1 (H'.out.below HB.out).1).mono ?_
    rintro e w1 ⟨rfl, hb⟩
    rw [HD1.out]
    replace HB := Lib.hid (HB.out.trans (hb.mono HB.out.size))
    obtain ⟨x0, x1⟩ := (Dk.Box.below BX.out hb).cells
    obtain ⟨y0, y1⟩ := (Dk.Box.below BY.out hb).cells
    clear hb
    go_wp2_with fail
    refine (equalW_any _ vb vd d.2 d'.2 h2 h4 (H.out.below HB.out).2 (H'.out.below HB.out).2).mono ?_
    rintro e w2 ⟨rfl, hb⟩
    have HR := Lib.hid (show decide (d = d') = decide (d.2 = d'.2) by rw [hcase.out, HD1.out, Bool.true_and])
    generalize decide (d.2 = d'.2) = q at HR ⊢
    go_wp2
    go_ret
    exact ⟨ret_bool HR.out.symm, HB.out.trans (hb.mono HB.out.size)⟩
  · have HD1 := Lib.hid (show decide (d.1 = d'.1) = false from decide_eq_false hq)
    have HR := Lib.hid (show decide (d = d') = false by rw [hcase.out, HD1.out, Bool.false_and])
    clear hq
    go_enter Try.func18, Try.ntmps18
    go_wp2_with fail
    refine (equalS_any _ va vc d.1 d'.1 h1 h3 (H.out.below HB.out).1 (H'.out.below HB.out).1).mono ?_
    rintro e w1 ⟨rfl, hb⟩
    rw [HD1.out]
    go_wp2
    go_ret
    exact ⟨ret_bool HR.out.symm, HB.out.trans (hb.mono HB.out.size)⟩

set_option maxRecDepth 100000 in
set_option maxHeartbeats 400000 in
theorem spec_any (w : World) (va vb vc vd : Value) (d d' : D) (h1 : d.1.length ≤ 1073741824) (h2 : d.2.length ≤ 1073741824) (h3 : d'.1.length ≤ 1073741824) (h4 : d'.2.length ≤ 1073741824) (h : Holds w va vb d) (h' : Holds w vc vd d') :
    Calls Try.prog 34 #[.agg #[va, vb], .agg #[vc, vd]] w fun e w' => e = .returned (.bool (decide (d = d'))) ∧ Below w.heap.size w w' := by
  have H := Lib.hid h
  have H' := Lib.hid h'
  have hcase := Lib.hid (show decide (d = d') = (decide (d.1 = d'.1) && decide (d.2 = d'.2)) by
    obtain ⟨a, b⟩ := d
    obtain ⟨a', b'⟩ := d'
    by_cases q1 : a = a' <;> by_cases q2 : b = b' <;> simp [q1, q2])
  clear h h'
  have HB := Lib.hid (((Below.refl w.heap.size w).alloc (Nat.le_refl _) (.cells #[va, vb] 26)).alloc (by simp) (.cells #[vc, vd] 26))
  have BX := Lib.hid (show Dk.Box ((w.alloc (.cells #[va, vb] 26)).alloc (.cells #[vc, vd] 26)) w.heap.size va vb 26 from Dk.blk_alloc (Dk.blk_new w _) _)
  have BY := Lib.hid (show Dk.Box ((w.alloc (.cells #[va, vb] 26)).alloc (.cells #[vc, vd] 26)) (w.heap.size + 1) vc vd 26 from by
    have := Dk.blk_new (w.alloc (.cells #[va, vb] 26)) (.cells #[vc, vd] 26)
    rw [World.size_alloc] at this
    exact this)
  by_cases hq : d.1 = d'.1
  · have hd1 : decide (d.1 = d'.1) = true := decide_eq_true hq
    have HD1 := Lib.hid hd1
    clear hd1 hq
    go_enter Try.func34, Try.ntmps34
    go_wp2_with fail
    refine (texts_any _ va vc d.1 d'.1 h1 h3 (H.out.below HB.out).1 (H'.out.below HB.out).1).mono ?_
    rintro e w1 ⟨rfl, hb⟩
    rw [HD1.out]
    replace HB := Lib.hid (HB.out.trans (hb.mono HB.out.size))
    obtain ⟨x0, x1⟩ := (Dk.Box.below BX.out hb).cells
    obtain ⟨y0, y1⟩ := (Dk.Box.below BY.out hb).cells
    clear hb
    go_wp2_with fail
    refine (writes_any _ vb vd d.2 d'.2 h2 h4 (H.out.below HB.out).2 (H'.out.below HB.out).2).mono ?_
    rintro e w2 ⟨rfl, hb⟩
    have HR := Lib.hid (show decide (d = d') = decide (d.2 = d'.2) by rw [hcase.out, HD1.out, Bool.true_and])
    generalize decide (d.2 = d'.2) = q at HR ⊢
    go_wp2
    go_ret
    exact ⟨ret_bool HR.out.symm, HB.out.trans (hb.mono HB.out.size)⟩
  · have HD1 := Lib.hid (show decide (d.1 = d'.1) = false from decide_eq_false hq)
    have HR := Lib.hid (show decide (d = d') = false by rw [hcase.out, HD1.out, Bool.false_and])
    clear hq
    go_enter Try.func34, Try.ntmps34
    go_wp2_with fail
    refine (texts_any _ va vc d.1 d'.1 h1 h3 (H.out.below HB.out).1 (H'.out.below HB.out).1).mono ?_
    rintro e w1 ⟨rfl, hb⟩
    rw [HD1.out]
    go_wp2
    go_ret
    exact ⟨ret_bool HR.out.symm, HB.out.trans (hb.mono HB.out.size)⟩

end Go.Proofs.Ytbfbcfnnajaeeaa.Same
