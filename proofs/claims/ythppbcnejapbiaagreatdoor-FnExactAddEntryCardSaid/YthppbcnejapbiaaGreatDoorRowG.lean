/- A part. -/
import Derived.Test.YthppbcnejapbiaaGreatDoorKit
import Derived.Laws.IdiomStrings
import Derived.Laws.OwnMore
import Derived.Lib.ConvBytes
namespace Go.Proofs.YthppbcnejapbiaaGreatDoor.RowG
open Go.ChangeShapes Go.WideShapes Go.ChangeAt Go.RowKit
set_option linter.unusedVariables false
def OwnG (w : World) (base : Nat) (e : TypeId) (v : Value) (n : Nat) (xs : List Value) : Prop :=
 xs.length = n /\ ∃ g cap cur fz, v = .slice (some ⟨g, 0, none⟩) n cap /\ base <= g /\ w.heap[g]? = some (.cells cur e fz) /\ (cap <= fz.1 \/ fz.2 <= fz.1) /\ n <= cap /\ cap <= maxLen /\ cur.size = cap /\ cur.toList.take n = xs
section
variable {w : World} {base : Nat} {e : TypeId} {v : Value} {n : Nat} {xs : List Value}
theorem ownG_of {g cap : Nat} (h : w.ownsRow base e 1 (.slice (some ⟨g, 0, none⟩) n cap) n xs) : OwnG w base e (.slice (some ⟨g, 0, none⟩) n cap) n xs := by
 obtain ⟨h1, h2⟩ := h
 refine ⟨by simpa using h1, ?_⟩
 rcases h2 with ⟨h2, _⟩ | ⟨g', cap', cur, hv, hb, hg, hn, hc, hs, ht⟩
 ·cases h2
 ·exact ⟨g', cap', cur, (0, 0), hv, hb, hg, .inr (Nat.le_refl _), hn, hc, by simpa using hs, by simpa using ht⟩
theorem OwnG.slice (h : OwnG w base e v n xs) : ∃ g cap, v = .slice (some ⟨g, 0, none⟩) n cap /\ base <= g /\ g < w.heap.size := by
 obtain ⟨_, g, cap, cur, fz, rfl, hb, hg, _⟩ := h
 exact ⟨g, cap, rfl, hb, (Array.getElem?_eq_some_iff.1 hg).1⟩
theorem OwnG.lt (h : OwnG w base e v n xs) : ∀ k, v.ownBlock = some k -> base <= k /\ k < w.heap.size := by
 obtain ⟨g, cap, rfl, h1, h2⟩ := h.slice
 intro k hk
 simp [Value.ownBlock] at hk
 subst hk
 exact ⟨h1, h2⟩
theorem OwnG.alloc (h : OwnG w base e v n xs) (o : Obj) : OwnG (w.alloc o) base e v n xs := by
 obtain ⟨h1, g, cap, cur, fz, rfl, hbb, hgg, rest⟩ := h
 exact ⟨h1, g, cap, cur, fz, rfl, hbb, (Below.heap_alloc _ _ _ (Array.getElem?_eq_some_iff.1 hgg).1).trans hgg, rest⟩
theorem OwnG.cellAt {g cap : Nat} (h : OwnG w base e (.slice (some ⟨g, 0, none⟩) n cap) n xs) (j : Nat) (hj : j < n) : w.cell? ⟨g, j, none⟩ = xs[j]? := by
 obtain ⟨h1, g', cap', cur, fz, hv, hbb, hgg, _, _, _, _, ht⟩ := h
 simp only [Value.slice.injEq, Option.some.injEq, Addr.mk.injEq, and_true, true_and] at hv
 obtain ⟨rfl, rfl⟩ := hv
 rw [cell_of_row w g j cur e fz hgg, <- ht, List.getElem?_take, if_pos hj]
 simp
theorem free_of {fz : Nat × Nat} {cap j : Nat} (hf : cap <= fz.1 \/ fz.2 <= fz.1) (hj : j < cap) : (decide (fz.1 <= j) && decide (j < fz.2)) = false := by
 simp only [Bool.and_eq_false_iff, decide_eq_false_iff_not]
 omega
theorem frozen_row {w : World} {g j cap : Nat} {cur : Array Value} {e : TypeId} {fz : Nat × Nat} (hgg : w.heap[g]? = some (.cells cur e fz)) (hf : cap <= fz.1 \/ fz.2 <= fz.1) (hj : j < cap) : w.frozen? ⟨g, j, none⟩ = false := by
 obtain ⟨lo, hi⟩ := fz
 have := free_of (fz := (lo, hi)) hf hj
 simpa [World.frozen?, hgg] using this
theorem OwnG.frozenAt {g cap : Nat} (h : OwnG w base e (.slice (some ⟨g, 0, none⟩) n cap) n xs) (j : Nat) (hj : j < n) : w.frozen? ⟨g, j, none⟩ = false := by
 obtain ⟨h1, g', cap', cur, fz, hv, hbb, hgg, hf, hn, _, _, ht⟩ := h
 simp only [Value.slice.injEq, Option.some.injEq, Addr.mk.injEq, and_true, true_and] at hv
 obtain ⟨rfl, rfl⟩ := hv
 exact frozen_row hgg hf (by omega)
theorem set_heap {w : World} {g j : Nat} {cur : Array Value} {e : TypeId} {fz : Nat × Nat} (u : Value) (hgg : w.heap[g]? = some (.cells cur e fz)) : (w.setCell ⟨g, j, none⟩ u).heap[g]? = some (.cells (cur.setIfInBounds j u) e fz) := by
 rw [setCell_eq_setRow w g j cur e fz u hgg]
 exact setRow_heap w g cur _ e fz hgg
theorem grown_set (w : World) (g j : Nat) (u : Value) : w.grownBy (w.setCell ⟨g, j, none⟩ u) (some g) :=
 ⟨rfl, rfl, rfl, by simp [World.setCell], fun k _ hk => Below.heap_setCell _ _ _ _ (fun e => hk (by simp [e]))⟩
theorem OwnG.stored {g cap : Nat} (h : OwnG w base e (.slice (some ⟨g, 0, none⟩) n cap) n xs) (j : Nat) (u : Value) :
  OwnG (w.setCell ⟨g, j, none⟩ u) base e (.slice (some ⟨g, 0, none⟩) n cap) n (xs.set j u) /\ w.grownBy (w.setCell ⟨g, j, none⟩ u) (some g) := by
 obtain ⟨h1, g', cap', cur, fz, hv, hbb, hgg, hf, hn, hc, hs, ht⟩ := h
 simp only [Value.slice.injEq, Option.some.injEq, Addr.mk.injEq, and_true, true_and] at hv
 obtain ⟨rfl, rfl⟩ := hv
 refine ⟨⟨by simpa using h1, g, cap, cur.setIfInBounds j u, fz, rfl, hbb, set_heap u hgg, hf, hn, hc, by simpa using hs, ?_⟩, grown_set w g j u⟩
 rw [Array.toList_setIfInBounds, <- ht, List.take_set]
end
theorem bytes_own (w : World) (e : TypeId) (s : ByteArray) (hs : s.size <= maxLen) :
  OwnG (Lib.bytesWorld w e s) w.heap.size e (.slice (some ⟨w.heap.size, 0, none⟩) s.size (grownCap w s.size 0 e)) s.size (s.data.toList.map fun b => Value.int .u8 (b.toNat : Int)) /\ Below w.heap.size w (Lib.bytesWorld w e s) := by
 have hge := grownCap_ge w s.size 0 e
 have hcs : (Lib.bytesCells w e s).size = grownCap w s.size 0 e := by
  have h1 : s.data.size = s.size := rfl
  simp only [Lib.bytesCells, Array.size_append, Array.size_map, Array.size_replicate, h1]
  omega
 refine ⟨⟨by simp, w.heap.size, _, _, _, rfl, Nat.le_refl _, Lib.bytesWorld_at_new w e s, .inl (by rw [hcs]; exact Nat.le_refl _), hge, grownCap_le_maxLen w s.size 0 e hs, hcs, ?_⟩, ?_⟩
 ·simp only [Lib.bytesCells, Array.toList_append, Array.toList_map]
  rw [List.take_left' (by simp)]
 ·refine ⟨?_, ?_, ?_, ?_, fun k hk => Lib.bytesWorld_at_old w e s k hk⟩
  ·simp [Lib.bytesWorld, World.freeze, World.alloc, World.drew, -World.alloc_eq, -World.drew_eq]
  ·simp [Lib.bytesWorld, World.freeze, World.alloc, World.drew, -World.alloc_eq, -World.drew_eq]
  ·simp [Lib.bytesWorld, World.freeze, World.alloc, World.drew, -World.alloc_eq, -World.drew_eq]
  ·rw [Lib.bytesWorld_size]; omega
section
variable {P : Program} (w : World)
theorem run_append_one (base : Nat) (t ty e : TypeId) (i : TypeInfo) (z : Value) (bytes : Nat) (ht : P.underlying t = some (.slice e)) (hi : P.info? e = some i) (hz : i.zero = some z)
  (hsize : i.size = 1) (hby : i.bytes = bytes) (hzs : z.cells.size = 1) (v : Value) (n : Nat) (xs : List Value) (hown : OwnG w base e v n xs)
  (a : Addr) (c : Nat) (u : Value) (hnews : ∀ j x, [u][j]? = some x -> w.cell? (a.add j) = some x) (h1 : ∀ x ∈ [u], x.oneCell' = true)
  (h63 : n + 1 <= maxLen) (hbytes : (n + 1) * bytes <= 140737488355328) (hbase : base <= w.heap.size) :
  ∃ v' w', (Builtin.append_ #[t, t] ty #[v, .slice (some a) 1 c]).run P w = .ok v' w' /\ OwnG w' base e v' (n + 1) (xs ++ [u]) /\ w.grownBy w' v.ownBlock := by
 obtain ⟨hl, g, cap, cur, fz, rfl, hb, hg, hf, hn, hc, hs, htk⟩ := hown
 have hlen : (xs ++ [u]).length = n + 1 := by simp [hl]
 by_cases hroom : n + 1 <= cap
 ·have hfc := run_firstCells_some (P := P) w 1 1 a 1 c [u] rfl hnews
  have hcell : w.cell? ⟨g, n, none⟩ = some (cur[n]'(by omega)) := by
   rw [cell_of_row w g n cur e fz hg, Array.getElem?_eq_getElem (by omega)]
  have hfr := frozen_row (j := n) hg hf (by omega)
  have hst : Sem.run P (store ⟨g, n, none⟩ u) w = .ok () (w.setCell ⟨g, n, none⟩ u) := by
   rw [run_store P w _ u _ (h1 u (by simp)), hcell]
   simp [hfr]
  refine ⟨.slice (some ⟨g, 0, none⟩) (n + 1) cap, w.setCell ⟨g, n, none⟩ u, ?_, ⟨hlen, g, cap, cur.setIfInBounds n u, fz, rfl, hb, set_heap u hg, hf, hroom, hc, by simpa using hs, ?_⟩, grown_set w g n u⟩
  ·simp [Builtin.append_, run_underlying ht, sizeOf, typeInfo, hi, hsize, Builtin.lenOf, hroom, hfc, Addr.add_lit, storeCells, hst]
  ·rw [Array.toList_setIfInBounds, List.take_succ_eq_append_getElem (by simp; omega), List.take_set, htk]
   simp only [List.getElem_set_self]
   rw [List.set_eq_of_length_le (by omega)]
 ·have holds : ∀ j x, xs[j]? = some x -> w.cell? ((⟨g, 0, none⟩ : Addr).add j) = some x := by
   intro j x hx
   rw [Addr.add_lit, Nat.zero_add, cell_of_row w g j cur e fz hg]
   rw [<- htk, List.getElem?_take] at hx
   split at hx
   ·simpa using hx
   ·cases hx
  have hr := run_append_grow (P := P) w t ty e i z ht hi hz ⟨g, 0, none⟩ n cap xs (by rw [hsize]; simpa using hl) holds a 1 c [u] (by rw [hsize]; rfl) hnews (by omega) (by unfold maxLen at h63; omega) (by rw [hby]; exact growslice_fits (by omega) hbytes)
  have hge := grownCap_ge w (n + 1) cap e
  have hcm2 := grownCap_le_maxLen w (n + 1) cap e h63
  refine ⟨_, _, hr, ⟨hlen, w.heap.size, _, _, (0, 0), rfl, hbase, heap_alloc_new w.drew _, .inr (Nat.le_refl _), hge, hcm2, ?_, ?_⟩, ⟨rfl, rfl, rfl, by simp, fun k hk _ => Below.heap_alloc w.drew _ k hk⟩⟩
  ·simp only [Array.size_append, List.size_toArray, size_zeroCells, hzs, hl, List.length_cons, List.length_nil]
   omega
  ·simp only [Array.toList_append]
   rw [<- hlen]
   exact List.take_left' rfl
theorem wpList_append_one {ops : Array Oper} {rest : List Oper} {o : Oper} {a : Act} {Q : Exit -> Act -> World -> Prop} (hgd : o.guard = none) (s x : Operand) (t : TypeId)
  (ho : o.op = .call { callee := .builtin .append, args := #[s, x], argTypes := #[t, t] })
  (base : Nat) (e : TypeId) (i : TypeInfo) (z : Value) (bytes : Nat) (ht : P.underlying t = some (.slice e)) (hi : P.info? e = some i) (hz : i.zero = some z)
  (hsize : i.size = 1) (hby : i.bytes = bytes) (hzs : z.cells.size = 1) (v : Value) (n : Nat) (xs : List Value) (hs : a.eval s = v) (hown : OwnG w base e v n xs)
  (ad : Addr) (c : Nat) (u : Value) (hx : a.eval x = .slice (some ad) 1 c) (hnews : ∀ j x, [u][j]? = some x -> w.cell? (ad.add j) = some x) (h1 : ∀ x ∈ [u], x.oneCell' = true)
  (h63 : n + 1 <= maxLen) (hbytes : (n + 1) * bytes <= 140737488355328) (hbase : base <= w.heap.size)
  (h : ∀ v' w', OwnG w' base e v' (n + 1) (xs ++ [u]) -> w.grownBy w' v.ownBlock -> wpList P ops Q rest (a.put o.dst v') w') : wpList P ops Q (o :: rest) a w := by
 refine wpList_plain hgd fun K hK => ?_
 obtain ⟨v', w', hr, h2, h3⟩ := run_append_one (P := P) w base t o.type e i z bytes ht hi hz hsize hby hzs v n xs hown ad c u hnews h1 h63 hbytes hbase
 unfold Oper.wp execOp
 simp only [ho, resolve, invoke, builtin, Sem.run_bind, Sem.run_pure, Result.andThen_ok, List.map_toArray, List.map_cons, List.map_nil, hs, hx, hr]
 exact hK _ _ (h v' w' h2 h3)
end
def cellsB (l : List UInt8) : List Value := l.map fun b => Value.int .u8 (b.toNat : Int)
theorem cellsB_length (l : List UInt8) : (cellsB l).length = l.length := by simp [cellsB]
theorem cellsB_append (a b : List UInt8) : cellsB (a ++ b) = cellsB a ++ cellsB b := by simp [cellsB]
theorem cellsB_set (l : List UInt8) (j : Nat) (b : UInt8) : (cellsB l).set j (.int .u8 (b.toNat : Int)) = cellsB (l.set j b) := by simp [cellsB, List.map_set]
theorem back {w : World} {base g cap n : Nat} {l : List UInt8} {E : TypeId} (h : OwnG w base E (.slice (some ⟨g, 0, none⟩) n cap) n (cellsB l)) :
  Sem.run Tryz.prog (convert 118 9 (.slice (some ⟨g, 0, none⟩) n cap)) w = .ok (.string ⟨l.toArray⟩) w := by
 have hl : l.length = n := by have := h.1; simpa [cellsB] using this
 subst hl
 refine run_convert_bytes_back w 118 9 5 ⟨g, 0, none⟩ cap l Tryz.underlying118 Tryz.underlying5 Tryz.underlying9 fun j hj => ?_
 rw [Addr.add_lit, Nat.zero_add, h.cellAt j hj]
 simp [cellsB, List.getElem?_eq_getElem hj]
theorem back_own {w : World} {base n : Nat} {v : Value} {l : List UInt8} {E : TypeId} (h : w.ownsRow base E 1 v n (cellsB l)) :
  Sem.run Tryz.prog (convert 118 9 v) w = .ok (.string ⟨l.toArray⟩) w := by
 rcases h.2 with ⟨rfl, rfl⟩ | ⟨g, cap, cur, rfl, _⟩
 ·have : l = [] := by have := h.1; simpa [cellsB] using this
  subst this
  rw [run_convert_bytes_string w 118 9 5 none 0 0 Tryz.underlying118 Tryz.underlying5 Tryz.underlying9]
  rfl
 ·exact back (ownG_of h)
theorem byteInfo : (Tryz.prog.info? 5).map (fun i => (i.zero, i.size, i.bytes)) = some (some (.int .u8 0), 1, 1) := by kernel_rfl
end Go.Proofs.YthppbcnejapbiaaGreatDoor.RowG
