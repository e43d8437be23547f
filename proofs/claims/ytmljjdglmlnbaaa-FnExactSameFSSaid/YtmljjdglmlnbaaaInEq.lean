/- Contracts and plain facts that a law of this seat leans on. Conditions: as each theorem types them. -/
import Derived.Test.YtmljjdglmlnbaaaIn
import Derived.Deep.RegionHeld3
import Derived.Laws.StructEq
namespace Go.Proofs.Ytmljjdglmlnbaaa.InEq
open Go.ChangeShapes Go.WideShapes Go.ChangeAt Go.RowKit
open Foot Bx
open InoV (needV usedV)
open Dk (ret_bool)
open Strs (ret_int)
set_option linter.unusedVariables false

theorem ext_getD {α : Type} {d : α} {xs ys : List α} (hl : xs.length = ys.length) (h : ∀ j, j < xs.length → xs.getD j d = ys.getD j d) : xs = ys := by
  refine List.ext_getElem hl fun i h1 h2 => ?_
  have := h i h1
  simpa [List.getD, List.getElem?_eq_getElem h1, List.getElem?_eq_getElem h2] using this
theorem below_draws {w : World} (m : Nat) : Below w.heap.size w (w.drewN m) := Joins.below_draws _ w m
set_option maxRecDepth 100000 in
/-- '!=' at two entries. -/
theorem neq_ent (x y : AclV.At) (w : World) : Sem.run Try.prog (binOp .neq 65 (.agg #[.int .i64 x.1, .int .i64 x.2.1, .int .i64 x.2.2]) (.agg #[.int .i64 y.1, .int .i64 y.2.1, .int .i64 y.2.2])) w = .ok (.bool (!decide (x = y))) w := by
  have u3 := Try.underlying3
  have a3 := Try.isAgg3
  have z3 := Try.sizeOf3
  have hS : Try.prog.underlying 65 = some (.struct (Try.prog.fieldsOf 65)) := by kernel_rfl
  have hp : Try.prog.stoodInHeld 65 = false := by kernel_rfl
  rw [run_neq_struct, show (10000 : Nat) = 9999 + 1 from rfl, run_equalIn_agg w 9999 65 _ _ hS hp]
  simp only [Program.fieldsOf, Try.underlying65]
  obtain ⟨x0, x1, x2⟩ := x
  obtain ⟨y0, y1, y2⟩ := y
  go_simp
  by_cases h0 : x0 = y0 <;> by_cases h1 : x1 = y1 <;> by_cases h2 : x2 = y2 <;> simp [h0, h1, h2]
theorem guard_ent (o : BinOp) (x y : Operand) (xs ys : Array Value) (w : World) : Sem.run Try.prog (eqGuard o 65 x y (.agg xs) (.agg ys)) w = .ok () w := run_eqGuard_agg w o 65 x y xs ys (by kernel_rfl)

set_option maxRecDepth 100000 in
set_option maxHeartbeats 400000 in
theorem same_ints (w : World) (va vb : Value) (xs ys : List Int) (h1 : xs.length ≤ 1073741824) (h2 : ys.length ≤ 1073741824) (ha : Ni.HoldsN w va xs) (hb : Ni.HoldsN w vb ys) :
    Calls Try.prog 29 #[va, vb] w fun e w' => e = .returned (.bool (decide (xs = ys))) ∧ Below w.heap.size w w' := by
  obtain ⟨a, ca, rfl, hA⟩ := ha
  obtain ⟨b, cb, rfl, hB⟩ := hb
  have HA := Lib.hid hA
  have HB := Lib.hid hB
  clear hA hB
  by_cases hl : xs.length = ys.length
  · obtain ⟨L, hL⟩ : ∃ L, L = xs.length := ⟨_, rfl⟩
    rw [← hl]
    rw [← hl] at h2
    rw [← hL] at h1 ⊢
    have HL := Lib.hid hL
    have HE := Lib.hid hl
    clear hL hl h2
    go_enter Try.func29, Try.ntmps29
    go_wp2
    go_loopw [14] (fun i wr => ∃ k : Nat, k ≤ L ∧ i = .int .i64 k ∧ Below w.heap.size w wr ∧ ∀ j, j < k → xs.getD j 0 = ys.getD j 0) (fun i _ => L - (intOf i).toNat)
    case atStart => exact ⟨0, Nat.zero_le _, rfl, Below.refl _ _, fun j hj => absurd hj (Nat.not_lt_zero _)⟩
    case round =>
      obtain ⟨k, hk, rfl, hbel, heq⟩ := hrel
      have HBEL := Lib.hid hbel
      have hsz := hbel.size
      clear hbel
      have HQ := Lib.hid heq
      clear heq
      by_cases hlt : k < L
      · obtain ⟨b1, o1, rfl, hl1, g0⟩ := HA.out k (by rw [← HL.out]; exact hlt)
        obtain ⟨b2, o2, rfl, hl2, k0⟩ := HB.out k (by rw [← HE.out, ← HL.out]; exact hlt)
        rw [← HBEL.out.cell (p := ⟨b1, _, none⟩) hl1] at g0
        rw [← HBEL.out.cell (p := ⟨b2, _, none⟩) hl2] at k0
        have hl3 : b2 < wr.heap.size := by omega
        by_cases hxy : xs.getD k 0 = ys.getD k 0
        · have HN := Lib.hid (show ∀ j, j < k + 1 → xs.getD j 0 = ys.getD j 0 from fun j hj => (by
            rcases Nat.lt_or_ge j k with hjk | hjk
            · exact HQ.out j hjk
            · rw [show j = k from by omega]; exact hxy))
          rw [← hxy] at k0
          clear hxy
          generalize xs.getD k 0 = x at g0 k0
          go_wp2
          go_roundw
          case rel => exact ⟨k + 1, by omega, by go_num, HBEL.out, HN.out⟩
          case measure => simp [intOf]; omega
        · have HN := Lib.hid (show decide (xs = ys) = false from decide_eq_false (fun h => hxy (by rw [h])))
          generalize xs.getD k 0 = x at g0 hxy
          generalize ys.getD k 0 = y at k0 hxy
          have hq : (x == y) = false := by simpa using hxy
          have hq2 : (x != y) = true := by simpa using hxy
          go_wp2
          go_ret
          exact ⟨ret_bool HN.out.symm, HBEL.out⟩
      · have HN := Lib.hid (show decide (xs = ys) = true from decide_eq_true (ext_getD HE.out (fun j hj => HQ.out j (by rw [← HL.out] at hj; omega))))
        go_wp2
        go_ret
        exact ⟨ret_bool HN.out.symm, HBEL.out⟩
  · have hd : decide (xs = ys) = false := decide_eq_false (fun h => hl (by rw [h]))
    rw [hd]
    generalize xs.length = L at *
    generalize ys.length = M at *
    go_enter Try.func29, Try.ntmps29
    go_wp2
    go_ret
    exact ⟨rfl, Below.refl _ _⟩

set_option maxRecDepth 100000 in
set_option maxHeartbeats 400000 in
theorem same_ents (w : World) (va vb : Value) (xs ys : List AclV.At) (h1 : xs.length ≤ 1073741824) (h2 : ys.length ≤ 1073741824) (ha : Ae.Holds w va xs) (hb : Ae.Holds w vb ys) :
    Calls Try.prog 30 #[va, vb] w fun e w' => e = .returned (.bool (decide (xs = ys))) ∧ Below w.heap.size w w' := by
  obtain ⟨a, ca, rfl, hA⟩ := Ae.atL ha
  obtain ⟨b, cb, rfl, hB⟩ := Ae.atL hb
  have HA := Lib.hid hA
  have HB := Lib.hid hB
  clear hA hB ha hb
  by_cases hl : xs.length = ys.length
  · obtain ⟨L, hL⟩ : ∃ L, L = xs.length := ⟨_, rfl⟩
    rw [← hl]
    rw [← hl] at h2
    rw [← hL] at h1 ⊢
    have HL := Lib.hid hL
    have HE := Lib.hid hl
    clear hL hl h2
    go_enter Try.func30, Try.ntmps30
    go_wp2
    go_loopw [14] (fun i wr => ∃ k : Nat, k ≤ L ∧ i = .int .i64 k ∧ Below w.heap.size w wr ∧ ∀ j, j < k → xs.getD j AclV.a0 = ys.getD j AclV.a0) (fun i _ => L - (intOf i).toNat)
    case atStart => exact ⟨0, Nat.zero_le _, rfl, Below.refl _ _, fun j hj => absurd hj (Nat.not_lt_zero _)⟩
    case round =>
      obtain ⟨k, hk, rfl, hbel, heq⟩ := hrel
      have HBEL := Lib.hid hbel
      have hsz := hbel.size
      clear hbel
      have HQ := Lib.hid heq
      clear heq
      by_cases hlt : k < L
      · obtain ⟨b1, o1, rfl, hl1, g0, g1, g2⟩ := HA.out k (by rw [← HL.out]; exact hlt)
        obtain ⟨b2, o2, rfl, hl2, k0, k1, k2⟩ := HB.out k (by rw [← HE.out, ← HL.out]; exact hlt)
        rw [← HBEL.out.cell (p := ⟨b1, _, none⟩) hl1] at g0 g1 g2
        rw [← HBEL.out.cell (p := ⟨b2, _, none⟩) hl2] at k0 k1 k2
        have hl3 : b2 < wr.heap.size := by omega
        by_cases hxy : xs.getD k AclV.a0 = ys.getD k AclV.a0
        · have HN := Lib.hid (show ∀ j, j < k + 1 → xs.getD j AclV.a0 = ys.getD j AclV.a0 from fun j hj => (by
            rcases Nat.lt_or_ge j k with hjk | hjk
            · exact HQ.out j hjk
            · rw [show j = k from by omega]; exact hxy))
          rw [← hxy] at k0 k1 k2
          clear hxy
          generalize xs.getD k AclV.a0 = x at g0 g1 g2 k0 k1 k2
          go_wp2
          go_quiet (fail)
          go_wp2
          go_roundw
          case rel => exact ⟨k + 1, by omega, by go_num, ((HBEL.out.alloc hsz _).trans (below_draws _ |>.mono (by first | omega | (simp; omega)))), HN.out⟩
          case measure => simp [intOf]; omega
        · have HN := Lib.hid (show decide (xs = ys) = false from decide_eq_false (fun h => hxy (by rw [h])))
          generalize xs.getD k AclV.a0 = x at g0 g1 g2 hxy
          generalize ys.getD k AclV.a0 = y at k0 k1 k2 hxy
          have hq : ∀ w, Sem.run Try.prog (binOp .neq 65 (.agg #[.int .i64 x.1, .int .i64 x.2.1, .int .i64 x.2.2]) (.agg #[.int .i64 y.1, .int .i64 y.2.1, .int .i64 y.2.2])) w = .ok (.bool true) w := fun w => by rw [neq_ent x y w, decide_eq_false hxy]; rfl
          have hg := guard_ent
          go_wp2
          go_quiet (fail)
          go_wp2
          go_ret
          exact ⟨ret_bool HN.out.symm, ((HBEL.out.alloc hsz _).trans (below_draws _ |>.mono (by first | omega | (simp; omega))))⟩
      · have HN := Lib.hid (show decide (xs = ys) = true from decide_eq_true (ext_getD HE.out (fun j hj => HQ.out j (by rw [← HL.out] at hj; omega))))
        go_wp2
        go_ret
        exact ⟨ret_bool HN.out.symm, HBEL.out⟩
  · have hd : decide (xs = ys) = false := decide_eq_false (fun h => hl (by rw [h]))
    rw [hd]
    generalize xs.length = L at *
    generalize ys.length = M at *
    go_enter Try.func30, Try.ntmps30
    go_wp2
    go_ret
    exact ⟨rfl, Below.refl _ _⟩

set_option maxRecDepth 100000 in
set_option maxHeartbeats 400000 in
theorem equal_ents (w : World) (va vb : Value) (xs ys : List AclV.At) (h1 : xs.length ≤ 1073741824) (h2 : ys.length ≤ 1073741824) (ha : Ae.Holds w va xs) (hb : Ae.Holds w vb ys) :
    Calls Try.prog 33 #[va, vb] w fun e w' => e = .returned (.bool (decide (xs = ys))) ∧ Below w.heap.size w w' := by
  obtain ⟨a, ca, rfl, hA⟩ := Ae.atL ha
  obtain ⟨b, cb, rfl, hB⟩ := Ae.atL hb
  have HA := Lib.hid hA
  have HB := Lib.hid hB
  clear hA hB ha hb
  by_cases hl : xs.length = ys.length
  · obtain ⟨L, hL⟩ : ∃ L, L = xs.length := ⟨_, rfl⟩
    rw [← hl]
    rw [← hl] at h2
    rw [← hL] at h1 ⊢
    have HL := Lib.hid hL
    have HE := Lib.hid hl
    clear hL hl h2
    go_enter Try.func33, Try.ntmps33
    go_wp2
    go_loopw [13] (fun i wr => ∃ k : Nat, k ≤ L ∧ i = .int .i64 k ∧ Below w.heap.size w wr ∧ ∀ j, j < k → xs.getD j AclV.a0 = ys.getD j AclV.a0) (fun i _ => L - (intOf i).toNat)
    case atStart => exact ⟨0, Nat.zero_le _, rfl, Below.refl _ _, fun j hj => absurd hj (Nat.not_lt_zero _)⟩
    case round =>
      obtain ⟨k, hk, rfl, hbel, heq⟩ := hrel
      have HBEL := Lib.hid hbel
      have hsz := hbel.size
      clear hbel
      have HQ := Lib.hid heq
      clear heq
      by_cases hlt : k < L
      · obtain ⟨b1, o1, rfl, hl1, g0, g1, g2⟩ := HA.out k (by rw [← HL.out]; exact hlt)
        obtain ⟨b2, o2, rfl, hl2, k0, k1, k2⟩ := HB.out k (by rw [← HE.out, ← HL.out]; exact hlt)
        rw [← HBEL.out.cell (p := ⟨b1, _, none⟩) hl1] at g0 g1 g2
        rw [← HBEL.out.cell (p := ⟨b2, _, none⟩) hl2] at k0 k1 k2
        have hl3 : b2 < wr.heap.size := by omega
        by_cases hxy : xs.getD k AclV.a0 = ys.getD k AclV.a0
        · have HN := Lib.hid (show ∀ j, j < k + 1 → xs.getD j AclV.a0 = ys.getD j AclV.a0 from fun j hj => (by
            rcases Nat.lt_or_ge j k with hjk | hjk
            · exact HQ.out j hjk
            · rw [show j = k from by omega]; exact hxy))
          rw [← hxy] at k0 k1 k2
          clear hxy
          generalize xs.getD k AclV.a0 = x at g0 g1 g2 k0 k1 k2
          go_wp2
          go_quiet (fail)
          go_wp2
          go_roundw
          case rel => exact ⟨k + 1, by omega, by go_num, (HBEL.out.trans (below_draws _ |>.mono (by first | omega | (simp; omega)))), HN.out⟩
          case measure => simp [intOf]; omega
        · have HN := Lib.hid (show decide (xs = ys) = false from decide_eq_false (fun h => hxy (by rw [h])))
          generalize xs.getD k AclV.a0 = x at g0 g1 g2 hxy
          generalize ys.getD k AclV.a0 = y at k0 k1 k2 hxy
          have hq : ∀ w, Sem.run Try.prog (binOp .neq 65 (.agg #[.int .i64 x.1, .int .i64 x.2.1, .int .i64 x.2.2]) (.agg #[.int .i64 y.1, .int .i64 y.2.1, .int .i64 y.2.2])) w = .ok (.bool true) w := fun w => by rw [neq_ent x y w, decide_eq_false hxy]; rfl
          have hg := guard_ent
          go_wp2
          go_quiet (fail)
          go_wp2
          go_ret
          exact ⟨ret_bool HN.out.symm, (HBEL.out.trans (below_draws _ |>.mono (by first | omega | (simp; omega))))⟩
      · have HN := Lib.hid (show decide (xs = ys) = true from decide_eq_true (ext_getD HE.out (fun j hj => HQ.out j (by rw [← HL.out] at hj; omega))))
        go_wp2
        go_ret
        exact ⟨ret_bool HN.out.symm, HBEL.out⟩
  · have hd : decide (xs = ys) = false := decide_eq_false (fun h => hl (by rw [h]))
    rw [hd]
    generalize xs.length = L at *
    generalize ys.length = M at *
    go_enter Try.func33, Try.ntmps33
    go_wp2
    go_ret
    exact ⟨rfl, Below.refl _ _⟩

theorem used_snoc {l : List Int} {k : Nat} (h : k < l.length) : usedV (l.take (k + 1)) = usedV (l.take k) ++ (if l.getD k 0 = -1 then [] else [l.getD k 0]) := by
  have e : l.getD k 0 = l[k] := by rw [List.getD_eq_getElem?_getD, List.getElem?_eq_getElem h]; rfl
  rw [List.take_succ_eq_append_getElem h, e]
  unfold usedV
  rw [List.filter_append]
  congr 1
  by_cases hx : l[k] = -1 <;> simp [hx]
theorem used_len (l : List Int) : (usedV l).length ≤ l.length := List.length_filter_le _ _
theorem cells1_new (w : World) (x : Value) (T : TypeId) : ∀ j u, [x][j]? = some u → (w.alloc (.cells #[x] T)).cell? ((⟨w.heap.size, 0, none⟩ : Addr).add j) = some u := by
  intro j u h
  match j, h with
  | 0, h =>
    obtain rfl : x = u := by simpa using h
    exact (Bk.cell (Bx.new w #[x] T) 0)
theorem own_nil1 (w : World) (base : Nat) (e : TypeId) : w.ownsRow base e 1 (.slice none 0 0) 0 (NiF.cells []) := ⟨rfl, .inl ⟨rfl, rfl⟩⟩
theorem own_fresh1 (w : World) (base g : Nat) (hg : g = w.heap.size) (hb : base ≤ g) (e : TypeId) : (w.alloc (.cells #[] e)).ownsRow base e 1 (.slice (some ⟨g, 0, none⟩) 0 0) 0 (NiF.cells []) := by
  subst hg
  refine ⟨rfl, .inr ⟨w.heap.size, 0, #[], rfl, hb, ?_, Nat.le_refl _, Nat.zero_le _, rfl, rfl⟩⟩
  exact (MapKept.heap_alloc w _).1

end Go.Proofs.Ytmljjdglmlnbaaa.InEq
