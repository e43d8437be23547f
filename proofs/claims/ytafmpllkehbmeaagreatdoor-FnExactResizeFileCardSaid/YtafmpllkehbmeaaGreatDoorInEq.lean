/- Contracts and plain facts that a law of this seat leans on. Conditions: as each theorem types them. -/
import Derived.Test.YtafmpllkehbmeaaGreatDoorIn
import Derived.Deep.RegionHeld3
import Derived.Laws.StructEq
namespace Go.Proofs.YtafmpllkehbmeaaGreatDoor.InEq
open Go.ChangeShapes Go.WideShapes Go.ChangeAt Go.RowKit
open Foot Bx
open InoV (needV usedV)
open Dk (ret_bool)
open Strs (ret_int)
set_option linter.unusedVariables false

theorem ext_getD {α : Type} {d : α} {xs ys : List α} (hl : xs.length = ys.length) (h : ∀ j, j < xs.length → xs.getD j d = ys.getD j d) : xs = ys := by
  refine List.ext_getElem hl fun i h1 h2 => ?_
  have := h i h1
  simpa [List.getD, List.getElem?_eq_getElem h1, List.getElem?_eq_getElem h2] using this
theorem below_draws {w : World} (m : Nat) : Below w.heap.size w (w.drewN m) := Joins.below_draws _ w m
set_option maxRecDepth 100000 in
/-- '!=' at two entries. -/
theorem neq_ent (x y : AclV.At) (w : World) : Sem.run Tryz.prog (binOp .neq 137 (.agg #[.int .i64 x.1, .int .i64 x.2.1, .int .i64 x.2.2]) (.agg #[.int .i64 y.1, .int .i64 y.2.1, .int .i64 y.2.2])) w = .ok (.bool (!decide (x = y))) w := by
  have u3 := Tryz.underlying3
  have a3 := Tryz.isAgg3
  have z3 := Tryz.sizeOf3
  have hS : Tryz.prog.underlying 137 = some (.struct (Tryz.prog.fieldsOf 137)) := by kernel_rfl
  have hp : Tryz.prog.stoodInHeld 137 = false := by kernel_rfl
  rw [run_neq_struct, show (10000 : Nat) = 9999 + 1 from rfl, run_equalIn_agg w 9999 137 _ _ hS hp]
  simp only [Program.fieldsOf, Tryz.underlying137]
  obtain ⟨x0, x1, x2⟩ := x
  obtain ⟨y0, y1, y2⟩ := y
  go_simp
  by_cases h0 : x0 = y0 <;> by_cases h1 : x1 = y1 <;> by_cases h2 : x2 = y2 <;> simp [h0, h1, h2]
theorem guard_ent (o : BinOp) (x y : Operand) (xs ys : Array Value) (w : World) : Sem.run Tryz.prog (eqGuard o 137 x y (.agg xs) (.agg ys)) w = .ok () w := run_eqGuard_agg w o 137 x y xs ys (by kernel_rfl)

set_option maxRecDepth 100000 in
set_option maxHeartbeats 400000 in
theorem same_ints (w : World) (va vb : Value) (xs ys : List Int) (h1 : xs.length ≤ 1073741824) (h2 : ys.length ≤ 1073741824) (ha : Ni.HoldsN w va xs) (hb : Ni.HoldsN w vb ys) :
    Calls Tryz.prog 234 #[va, vb] w fun e w' => e = .returned (.bool (decide (xs = ys))) ∧ Below w.heap.size w w' := by
  obtain ⟨a, ca, rfl, hA⟩ := ha
  obtain ⟨b, cb, rfl, hB⟩ := hb
  have HA := Lib.hid hA
  have HB := Lib.hid hB
  clear hA hB
  by_cases hl : xs.length = ys.length
  · obtain ⟨L, hL⟩ : ∃ L, L = xs.length := ⟨_, rfl⟩
    rw [← hl]
    rw [← hl] at h2
    rw [← hL] at h1 ⊢
    have HL := Lib.hid hL
    have HE := Lib.hid hl
    clear hL hl h2
    go_enter Tryz.func234, Tryz.ntmps234
    go_wp2
    go_loopw [14] (fun i wr => ∃ k : Nat, k ≤ L ∧ i = .int .i64 k ∧ Below w.heap.size w wr ∧ ∀ j, j < k → xs.getD j 0 = ys.getD j 0) (fun i _ => L - (intOf i).toNat)
    case atStart => exact ⟨0, Nat.zero_le _, rfl, Below.refl _ _, fun j hj => absurd hj (Nat.not_lt_zero _)⟩
    case round =>
      obtain ⟨k, hk, rfl, hbel, heq⟩ := hrel
      have HBEL := Lib.hid hbel
      have hsz := hbel.size
      clear hbel
      have HQ := Lib.hid heq
      clear heq
      by_cases hlt : k < L
      · obtain ⟨b1, o1, rfl, hl1, g0⟩ := HA.out k (by rw [← HL.out]; exact hlt)
        obtain ⟨b2, o2, rfl, hl2, k0⟩ := HB.out k (by rw [← HE.out, ← HL.out]; exact hlt)
        rw [← HBEL.out.cell (p := ⟨b1, _, none⟩) hl1] at g0
        rw [← HBEL.out.cell (p := ⟨b2, _, none⟩) hl2] at k0
        have hl3 : b2 < wr.heap.size := by omega
        by_cases hxy : xs.getD k 0 = ys.getD k 0
        · have HN := Lib.hid (show ∀ j, j < k + 1 → xs.getD j 0 = ys.getD j 0 from fun j hj => (by
            rcases Nat.lt_or_ge j k with hjk | hjk
            · exact HQ.out j hjk
            · rw [show j = k from by omega]; exact hxy))
          rw [← hxy] at k0
          clear hxy
          generalize xs.getD k 0 = x at g0 k0
          go_wp2
          go_roundw
          case rel => exact ⟨k + 1, by omega, by go_num, HBEL.out, HN.out⟩
          case measure => simp [intOf]; omega
        · have HN := Lib.hid (show decide (xs = ys) = false from decide_eq_false (fun h => hxy (by rw [h])))
          generalize xs.getD k 0 = x at g0 hxy
          generalize ys.getD k 0 = y at k0 hxy
          have hq : (x == y) = false := by simpa using hxy
          have hq2 : (x != y) = true := by simpa using hxy
          go_wp2
          go_ret
          exact ⟨ret_bool HN.out.symm, HBEL.out⟩
      · have HN := Lib.hid (show decide (xs = ys) = true from decide_eq_true (ext_getD HE.out (fun j hj => HQ.out j (by rw [← HL.out] at hj; omega))))
        go_wp2
        go_ret
        exact ⟨ret_bool HN.out.symm, HBEL.out⟩
  · have hd : decide (xs = ys) = false := decide_eq_false (fun h => hl (by rw [h]))
    rw [hd]
    generalize xs.length = L at *
    generalize ys.length = M at *
    go_enter Tryz.func234, Tryz.ntmps234
    go_wp2
    go_ret
    exact ⟨rfl, Below.refl _ _⟩

set_option maxRecDepth 100000 in
set_option maxHeartbeats 400000 in
theorem same_ents (w : World) (va vb : Value) (xs ys : List AclV.At) (h1 : xs.length ≤ 1073741824) (h2 : ys.length ≤ 1073741824) (ha : Ae.Holds w va xs) (hb : Ae.Holds w vb ys) :
    Calls Tryz.prog 235 #[va, vb] w fun e w' => e = .returned (.bool (decide (xs = ys))) ∧ Below w.heap.size w w' := by
  obtain ⟨a, ca, rfl, hA⟩ := Ae.atL ha
  obtain ⟨b, cb, rfl, hB⟩ := Ae.atL hb
  have HA := Lib.hid hA
  have HB := Lib.hid hB
  clear hA hB ha hb
  by_cases hl : xs.length = ys.length
  · obtain ⟨L, hL⟩ : ∃ L, L = xs.length := ⟨_, rfl⟩
    rw [← hl]
    rw [← hl] at h2
    rw [← hL] at h1 ⊢
    have HL := Lib.hid hL
    have HE := Lib.hid hl
    clear hL hl h2
    go_enter Tryz.func235, Tryz.ntmps235
    go_wp2
    go_loopw [14] (fun i wr => ∃ k : Nat, k ≤ L ∧ i = .int .i64 k ∧ Below w.heap.size w wr ∧ ∀ j, j < k → xs.getD j AclV.a0 = ys.getD j AclV.a0) (fun i _ => L - (intOf i).toNat)
    case atStart => exact ⟨0, Nat.zero_le _, rfl, Below.refl _ _, fun j hj => absurd hj (Nat.not_lt_zero _)⟩
    case round =>
      obtain ⟨k, hk, rfl, hbel, heq⟩ := hrel
      have HBEL := Lib.hid hbel
      have hsz := hbel.size
      clear hbel
      have HQ := Lib.hid heq
      clear heq
      by_cases hlt : k < L
      · obtain ⟨b1, o1, rfl, hl1, g0, g1, g2⟩ := HA.out k (by rw [← HL.out]; exact hlt)
        obtain ⟨b2, o2, rfl, hl2, k0, k1, k2⟩ := HB.out k (by rw [← HE.out, ← HL.out]; exact hlt)
        rw [← HBEL.out.cell (p := ⟨b1, _, none⟩) hl1] at g0 g1 g2
        rw [← HBEL.out.cell (p := ⟨b2, _, none⟩) hl2] at k0 k1 k2
        have hl3 : b2 < wr.heap.size := by omega
        by_cases hxy : xs.getD k AclV.a0 = ys.getD k AclV.a0
        · have HN := Lib.hid (show ∀ j, j < k + 1 → xs.getD j AclV.a0 = ys.getD j AclV.a0 from fun j hj => (by
            rcases Nat.lt_or_ge j k with hjk | hjk
            · exact HQ.out j hjk
            · rw [show j = k from by omega]; exact hxy))
          rw [← hxy] at k0 k1 k2
          clear hxy
          generalize xs.getD k AclV.a0 = x at g0 g1 g2 k0 k1 k2
          go_wp2
          go_quiet (fail)
          go_wp2
          go_roundw
          case rel => exact ⟨k + 1, by omega, by go_num, ((HBEL.out.alloc hsz _).trans (below_draws _ |>.mono (by first | omega | (simp; omega)))), HN.out⟩
          case measure => simp [intOf]; omega
        · have HN := Lib.hid (show decide (xs = ys) = false from decide_eq_false (fun h => hxy (by rw [h])))
          generalize xs.getD k AclV.a0 = x at g0 g1 g2 hxy
          generalize ys.getD k AclV.a0 = y at k0 k1 k2 hxy
          have hq : ∀ w, Sem.run Tryz.prog (binOp .neq 137 (.agg #[.int .i64 x.1, .int .i64 x.2.1, .int .i64 x.2.2]) (.agg #[.int .i64 y.1, .int .i64 y.2.1, .int .i64 y.2.2])) w = .ok (.bool true) w := fun w => by rw [neq_ent x y w, decide_eq_false hxy]; rfl
          have hg := guard_ent
          go_wp2
          go_quiet (fail)
          go_wp2
          go_ret
          exact ⟨ret_bool HN.out.symm, ((HBEL.out.alloc hsz _).trans (below_draws _ |>.mono (by first | omega | (simp; omega))))⟩
      · have HN := Lib.hid (show decide (xs = ys) = true from decide_eq_true (ext_getD HE.out (fun j hj => HQ.out j (by rw [← HL.out] at hj; omega))))
        go_wp2
        go_ret
        exact ⟨ret_bool HN.out.symm, HBEL.out⟩
  · have hd : decide (xs = ys) = false := decide_eq_false (fun h => hl (by rw [h]))
    rw [hd]
    generalize xs.length = L at *
    generalize ys.length = M at *
    go_enter Tryz.func235, Tryz.ntmps235
    go_wp2
    go_ret
    exact ⟨rfl, Below.refl _ _⟩

set_option maxRecDepth 100000 in
set_option maxHeartbeats 400000 in
theorem equal_ents (w : World) (va vb : Value) (xs ys : List AclV.At) (h1 : xs.length ≤ 1073741824) (h2 : ys.length ≤ 1073741824) (ha : Ae.Holds w va xs) (hb : Ae.Holds w vb ys) :
    Calls Tryz.prog 131 #[va, vb] w fun e w' => e = .returned (.bool (decide (xs = ys))) ∧ Below w.heap.size w w' := by
  obtain ⟨a, ca, rfl, hA⟩ := Ae.atL ha
  obtain ⟨b, cb, rfl, hB⟩ := Ae.atL hb
  have HA := Lib.hid hA
  have HB := Lib.hid hB
  clear hA hB ha hb
  by_cases hl : xs.length = ys.length
  · obtain ⟨L, hL⟩ : ∃ L, L = xs.length := ⟨_, rfl⟩
    rw [← hl]
    rw [← hl] at h2
    rw [← hL] at h1 ⊢
    have HL := Lib.hid hL
    have HE := Lib.hid hl
    clear hL hl h2
    go_enter Tryz.func131, Tryz.ntmps131
    go_wp2
    go_loopw [13] (fun i wr => ∃ k : Nat, k ≤ L ∧ i = .int .i64 k ∧ Below w.heap.size w wr ∧ ∀ j, j < k → xs.getD j AclV.a0 = ys.getD j AclV.a0) (fun i _ => L - (intOf i).toNat)
    case atStart => exact ⟨0, Nat.zero_le _, rfl, Below.refl _ _, fun j hj => absurd hj (Nat.not_lt_zero _)⟩
    case round =>
      obtain ⟨k, hk, rfl, hbel, heq⟩ := hrel
      have HBEL := Lib.hid hbel
      have hsz := hbel.size
      clear hbel
      have HQ := Lib.hid heq
      clear heq
      by_cases hlt : k < L
      · obtain ⟨b1, o1, rfl, hl1, g0, g1, g2⟩ := HA.out k (by rw [← HL.out]; exact hlt)
        obtain ⟨b2, o2, rfl, hl2, k0, k1, k2⟩ := HB.out k (by rw [← HE.out, ← HL.out]; exact hlt)
        rw [← HBEL.out.cell (p := ⟨b1, _, none⟩) hl1] at g0 g1 g2
        rw [← HBEL.out.cell (p := ⟨b2, _, none⟩) hl2] at k0 k1 k2
        have hl3 : b2 < wr.heap.size := by omega
        by_cases hxy : xs.getD k AclV.a0 = ys.getD k AclV.a0
        · have HN := Lib.hid (show ∀ j, j < k + 1 → xs.getD j AclV.a0 = ys.getD j AclV.a0 from fun j hj => (by
            rcases Nat.lt_or_ge j k with hjk | hjk
            · exact HQ.out j hjk
            · rw [show j = k from by omega]; exact hxy))
          rw [← hxy] at k0 k1 k2
          clear hxy
          generalize xs.getD k AclV.a0 = x at g0 g1 g2 k0 k1 k2
          go_wp2
          go_quiet (fail)
          go_wp2
          go_roundw
          case rel => exact ⟨k + 1, by omega, by go_num, (HBEL.out.trans (below_draws _ |>.mono (by first | omega | (simp; omega)))), HN.out⟩
          case measure => simp [intOf]; omega
        · have HN := Lib.hid (show decide (xs = ys) = false from decide_eq_false (fun h => hxy (by rw [h])))
          generalize xs.getD k AclV.a0 = x at g0 g1 g2 hxy
          generalize ys.getD k AclV.a0 = y at k0 k1 k2 hxy
          have hq : ∀ w, Sem.run Tryz.prog (binOp .neq 137 (.agg #[.int .i64 x.1, .int .i64 x.2.1, .int .i64 x.2.2]) (.agg #[.int .i64 y.1, .int .i64 y.2.1, .int .i64 y.2.2])) w = .ok (.bool true) w := fun w => by rw [neq_ent x y w, decide_eq_false hxy]; rfl
          have hg := guard_ent
          go_wp2
          go_quiet (fail)
          go_wp2
          go_ret
          exact ⟨ret_bool HN.out.symm, (HBEL.out.trans (below_draws _ |>.mono (by first | omega | (simp; omega))))⟩
      · have HN := Lib.hid (show decide (xs = ys) = true from decide_eq_true (ext_getD HE.out (fun j hj => HQ.out j (by rw [← HL.out] at hj; omega))))
        go_wp2
        go_ret
        exact ⟨ret_bool HN.out.symm, HBEL.out⟩
  · have hd : decide (xs = ys) = false := decide_eq_false (fun h => hl (by rw [h]))
    rw [hd]
    generalize xs.length = L at *
    generalize ys.length = M at *
    go_enter Tryz.func131, Tryz.ntmps131
    go_wp2
    go_ret
    exact ⟨rfl, Below.refl _ _⟩

/-- For every int of 64 bits. -/
theorem need_spec (n : Int) (w : World) (h : Rg n) :
    Calls Tryz.prog 159 #[.int .i64 n] w fun e w' => e = .returned (.int .i64 (needV n)) ∧ w = w' := by
  obtain ⟨h1, h2⟩ := h
  by_cases hn : n ≤ 0
  · have HV := Lib.hid (show needV n = 0 from if_pos hn)
    rw [HV.out]
    go_enter Tryz.func159, Tryz.ntmps159
    go_wp2
    go_ret
    exact ⟨rfl, rfl⟩
  · have HV := Lib.hid (show needV n = (n - 1) / 32 + 1 from if_neg hn)
    go_enter Tryz.func159, Tryz.ntmps159
    go_wp2
    go_ret
    exact ⟨ret_int (by rw [HV.out]), rfl⟩

/-- For every int of 64 bits. -/
theorem need_impl (n : Int) (w : World) (h : Rg n) :
    Calls Tryz.prog 61 #[.int .i64 n] w fun e w' => e = .returned (.int .i64 (needV n)) ∧ w = w' := by
  obtain ⟨h1, h2⟩ := h
  by_cases hn : n ≤ 0
  · have HV := Lib.hid (show needV n = 0 from if_pos hn)
    rw [HV.out]
    go_enter Tryz.func61, Tryz.ntmps61
    go_wp2
    go_ret
    exact ⟨rfl, rfl⟩
  · have HV := Lib.hid (show needV n = (n - 1) / 32 + 1 from if_neg hn)
    go_enter Tryz.func61, Tryz.ntmps61
    go_wp2
    go_ret
    exact ⟨ret_int (by rw [HV.out]), rfl⟩

theorem used_snoc {l : List Int} {k : Nat} (h : k < l.length) : usedV (l.take (k + 1)) = usedV (l.take k) ++ (if l.getD k 0 = -1 then [] else [l.getD k 0]) := by
  have e : l.getD k 0 = l[k] := by rw [List.getD_eq_getElem?_getD, List.getElem?_eq_getElem h]; rfl
  rw [List.take_succ_eq_append_getElem h, e]
  unfold usedV
  rw [List.filter_append]
  congr 1
  by_cases hx : l[k] = -1 <;> simp [hx]
theorem used_len (l : List Int) : (usedV l).length ≤ l.length := List.length_filter_le _ _
theorem cells1_new (w : World) (x : Value) (T : TypeId) : ∀ j u, [x][j]? = some u → (w.alloc (.cells #[x] T)).cell? ((⟨w.heap.size, 0, none⟩ : Addr).add j) = some u := by
  intro j u h
  match j, h with
  | 0, h =>
    obtain rfl : x = u := by simpa using h
    exact (Bk.cell (Bx.new w #[x] T) 0)
theorem own_nil1 (w : World) (base : Nat) (e : TypeId) : w.ownsRow base e 1 (.slice none 0 0) 0 (NiF.cells []) := ⟨rfl, .inl ⟨rfl, rfl⟩⟩
set_option maxRecDepth 100000 in
set_option maxHeartbeats 800000 in
theorem used_impl (w : World) (v : Value) (n : InoV.I) (hl : n.blocks.length ≤ 1073741824) (h : In.Holds w v n) :
    Calls Tryz.prog 27 #[v] w fun e w' => ∃ v' S, e = .returned v' ∧ NiF.Own w' w.heap.size v' (usedV n.blocks) S ∧ Below w.heap.size w w' := by
  obtain ⟨i0, hi, hz0, hz1, hz2⟩ := info_parts Ni.intInfo
  have HF0 := Lib.hid hi
  have HF1 := Lib.hid hz0
  have HF2 := Lib.hid hz1
  have HF3 := Lib.hid hz2
  clear hi hz0 hz1 hz2
  obtain ⟨r0, r1, r2, rfl, g0, g1, g2⟩ := h
  obtain ⟨a, c, rfl, _, hcell⟩ := g0
  have HC := Lib.hid hcell
  clear hcell g1 g2
  obtain ⟨L, hL⟩ : ∃ L, L = n.blocks.length := ⟨_, rfl⟩
  have HU := Lib.hid (fun k (h : k < n.blocks.length) => used_snoc h)
  have HUL := Lib.hid (fun k => used_len (n.blocks.take k))
  have HB0 := Lib.hid ((Below.refl w.heap.size w).alloc (Nat.le_refl _) (.cells #[.int .i64 n.kind, .int .i64 n.mode, .int .i64 n.uid, .int .i64 n.gid, .int .i64 n.links, .int .i64 n.size, .int .i64 n.tick, .slice a L c, r1, r2] 34))
  rw [← hL] at hl ⊢
  have HL := Lib.hid hL
  clear hL
  go_enter Tryz.func27, Tryz.ntmps27
  go_wp2
  go_loopw [3, 9] (fun sv iv wr => ∃ k : Nat, k ≤ L ∧ iv = .int .i64 k ∧ wr.ownsRow w.heap.size 3 1 sv (usedV (n.blocks.take k)).length (NiF.cells (usedV (n.blocks.take k))) ∧ Below w.heap.size w wr) (fun _ iv _ => L - (intOf iv).toNat)
  case atStart => exact ⟨0, Nat.zero_le _, rfl, own_nil1 _ _ _, HB0.out⟩
  case round =>
    obtain ⟨k, hk, rfl, hown, hbel⟩ := hrel
    have HBEL := Lib.hid hbel
    have HOWN := Lib.hid hown
    have hsz := hbel.size
    clear hbel hown
    by_cases hlt : k < L
    · obtain ⟨b, o, rfl, hb, g0⟩ := HC.out k (by rw [← HL.out]; exact hlt)
      rw [← HBEL.out.cell (p := ⟨b, _, none⟩) hb] at g0
      have hu := HU.out k (by rw [← HL.out]; exact hlt)
      have hul := HUL.out k
      rw [List.length_take] at hul
      generalize n.blocks.getD k 0 = x at g0 hu
      by_cases hx : x = -1
      · subst hx
        rw [if_pos rfl, List.append_nil] at hu
        have HN := Lib.hid hu
        clear hu
        go_wp2
        go_roundw
        case rel => exact ⟨k + 1, by omega, by go_num, by rw [HN.out]; exact HOWN.out, HBEL.out⟩
        case measure => simp [intOf]; omega
      · rw [if_neg hx] at hu
        have hq : (x == -1) = false := by simpa using hx
        have hq2 : (x != -1) = true := by simpa using hx
        generalize usedV (n.blocks.take k) = us at HOWN hu hul
        have HN := Lib.hid hu
        clear hu
        obtain ⟨M, hM⟩ : ∃ M, M = us.length := ⟨_, rfl⟩
        have HM := Lib.hid hM
        have HO2 := Lib.hid (show wr.ownsRow w.heap.size 3 1 _ M (NiF.cells us) from by rw [hM]; exact HOWN.out)
        rw [← hM] at hul
        clear hM HOWN
        go_wp2_with (first | (at_builtin; refine wpList_append_own _ rfl _ _ 31 rfl w.heap.size 3 i0 (.int .i64 0) 1 8 Tryz.underlying31 HF0.out HF1.out HF2.out HF3.out rfl (by decide) _ _ _ rfl (HO2.out.alloc _) ⟨wr.heap.size, 0, none⟩ 1 1 [.int .i64 x] rfl rfl ?c1 ?c2 ?c3 ?c4 ?c5 ?_))
        case c1 => exact cells1_new _ _ _
        case c2 => simp [Value.oneCell']
        case c3 => unfold maxLen; omega
        case c4 => omega
        case c5 => simp; omega
        intro v' w1 hown1 hg1 _
        have HO1 := Lib.hid (show w1.ownsRow w.heap.size 3 1 v' (us ++ [x]).length (NiF.cells (us ++ [x])) from by
          have h := hown1
          rw [List.length_append, NiF.cells, List.map_append, ← HM.out]; exact h)
        have HB1 := Lib.hid ((HBEL.out.alloc hsz (.cells #[.int .i64 x] 3)).grown hg1 (by simp; omega) (fun k hk => (HO2.out.lt k hk).1))
        clear hown1 hg1
        go_wp2
        go_roundw
        case rel => exact ⟨k + 1, by omega, by go_num, by rw [HN.out]; exact HO1.out, HB1.out⟩
        case measure => simp [intOf]; omega
    · obtain rfl : k = L := by omega
      have HT := Lib.hid (show n.blocks.take k = n.blocks from by rw [HL.out, List.take_length])
      go_wp2
      go_ret
      refine ⟨_, _, rfl, NiF.own_of ?_, HBEL.out⟩
      have h := HOWN.out
      rw [HT.out] at h
      exact h

end Go.Proofs.YtafmpllkehbmeaaGreatDoor.InEq
