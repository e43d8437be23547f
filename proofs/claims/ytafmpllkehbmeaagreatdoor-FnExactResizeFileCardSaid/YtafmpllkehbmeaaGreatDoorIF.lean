/- The uniform face of a slice of Inodes: what it holds, owns, costs; its size, a copy, comparing two that read alike, marking one that the call owns, asking for the marks; what an argument of that type offers. Conditions: as each theorem types them. -/
import Derived.Test.YtafmpllkehbmeaaGreatDoorIn
import Derived.Deep.RegionHeld3
namespace Go.Proofs.YtafmpllkehbmeaaGreatDoor.IF
open Go.ChangeShapes Go.WideShapes Go.ChangeAt Go.RowKit Go.Deep
open Foot Bx
open Strs (ret_int grow_trans below_of_drew)
set_option linter.unusedVariables false

abbrev L := List In.L
def z0 : In.L := InoV.zero
/-- The cells of one at an address. -/
def Cell (w : World) (b o : Nat) (n : In.L) (r0 r1 r2 : Value) : Prop := w.cell? ⟨b, o, none⟩ = some (.int .i64 n.kind) ∧ w.cell? ⟨b, o + 1, none⟩ = some (.int .i64 n.mode) ∧ w.cell? ⟨b, o + 2, none⟩ = some (.int .i64 n.uid) ∧ w.cell? ⟨b, o + 3, none⟩ = some (.int .i64 n.gid) ∧ w.cell? ⟨b, o + 4, none⟩ = some (.int .i64 n.links) ∧ w.cell? ⟨b, o + 5, none⟩ = some (.int .i64 n.size) ∧ w.cell? ⟨b, o + 6, none⟩ = some (.int .i64 n.tick) ∧ w.cell? ⟨b, o + 7, none⟩ = some (r0) ∧ w.cell? ⟨b, o + 8, none⟩ = some (r1) ∧ w.cell? ⟨b, o + 9, none⟩ = some (r2)
def Parts (w : World) (n : In.L) (r0 r1 r2 : Value) : Prop := NiF.Holds w r0 n.blocks ∧ AeF.Holds w r1 n.acl ∧ AeF.Holds w r2 n.dflt
theorem parts_below {w w' : World} {n : In.L} {r0 r1 r2 : Value} (h : Parts w n r0 r1 r2) (hb : Below w.heap.size w w') : Parts w' n r0 r1 r2 := by
  obtain ⟨h0, h1, h2⟩ := h
  exact ⟨NiF.holds_below h0 hb, AeF.holds_below h1 hb, AeF.holds_below h2 hb⟩
theorem parts_holds {w : World} {n : In.L} {r0 r1 r2 : Value} (h : Parts w n r0 r1 r2) : In.Holds w (.agg #[.int .i64 n.kind, .int .i64 n.mode, .int .i64 n.uid, .int .i64 n.gid, .int .i64 n.links, .int .i64 n.size, .int .i64 n.tick, r0, r1, r2]) n := by
  obtain ⟨h0, h1, h2⟩ := h
  exact ⟨r0, r1, r2, rfl, h0, h1, h2⟩
/-- A slice value, no longer than its capacity, whose elements hold the list. -/
def Holds (w : World) (v : Value) (l : L) : Prop := ∃ (a : Option Addr) (cap : Nat), v = .slice a l.length cap ∧ l.length ≤ cap ∧ ∀ i, i < l.length → ∃ b o, a = some ⟨b, o, none⟩ ∧ b < w.heap.size ∧ ∃ r0 r1 r2 : Value, Cell w b (o + i * 10) (l.getD i z0) r0 r1 r2 ∧ Parts w (l.getD i z0) r0 r1 r2
theorem Cell.below {w w' : World} {b o : Nat} {n : In.L} {r0 r1 r2 : Value} (h : Cell w b o n r0 r1 r2) (hlt : b < w.heap.size) (hb : Below w.heap.size w w') : Cell w' b o n r0 r1 r2 := by
  unfold Cell at h ⊢
  rw [hb.cell (p := ⟨b, o, none⟩) hlt, hb.cell (p := ⟨b, o + 1, none⟩) hlt, hb.cell (p := ⟨b, o + 2, none⟩) hlt, hb.cell (p := ⟨b, o + 3, none⟩) hlt, hb.cell (p := ⟨b, o + 4, none⟩) hlt, hb.cell (p := ⟨b, o + 5, none⟩) hlt, hb.cell (p := ⟨b, o + 6, none⟩) hlt, hb.cell (p := ⟨b, o + 7, none⟩) hlt, hb.cell (p := ⟨b, o + 8, none⟩) hlt, hb.cell (p := ⟨b, o + 9, none⟩) hlt]
  exact h
theorem holds_below {w w' : World} {v : Value} {l : L} (h : Holds w v l) (hb : Below w.heap.size w w') : Holds w' v l := by
  obtain ⟨a, c, rfl, hle, hc⟩ := h
  refine ⟨a, c, rfl, hle, fun i hi => ?_⟩
  obtain ⟨b, o, rfl, hlt, r0, r1, r2, hC, hP⟩ := hc i hi
  exact ⟨b, o, rfl, Nat.lt_of_lt_of_le hlt hb.size, r0, r1, r2, hC.below hlt hb, parts_below hP hb⟩
theorem form {w : World} {v : Value} {l : L} (h : Holds w v l) : ∃ a c, v = .slice a l.length c := by
  obtain ⟨a, c, rfl, _⟩ := h
  exact ⟨a, c, rfl⟩
/-- At an index within its length. -/
def AtL (w : World) (a : Option Addr) (l : L) : Prop := ∀ i, i < l.length → ∃ b o, a = some ⟨b, o, none⟩ ∧ b < w.heap.size ∧ ∃ r0 r1 r2 : Value, Cell w b (o + i * 10) (l.getD i z0) r0 r1 r2 ∧ Parts w (l.getD i z0) r0 r1 r2
theorem atL {w : World} {v : Value} {l : L} (h : Holds w v l) : ∃ a cap, v = .slice a l.length cap ∧ l.length ≤ cap ∧ AtL w a l := h
theorem AtL.below {w w' : World} {a : Option Addr} {l : L} (h : AtL w a l) (hb : Below w.heap.size w w') : AtL w' a l := by
  intro i hi
  obtain ⟨b, o, rfl, hlt, r0, r1, r2, hC, hP⟩ := h i hi
  exact ⟨b, o, rfl, Nat.lt_of_lt_of_le hlt hb.size, r0, r1, r2, hC.below hlt hb, parts_below hP hb⟩

/-! What the call owns. -/
/-- An element: what it is, its value, the blocks of its slices. -/
abbrev El := In.L × Value × List Nat
def vcells : Value → List Value
  | .agg cs => cs.toList
  | v => [v]
def cells (es : List El) : List Value := es.flatMap fun e => vcells e.2.1
def ns (es : List El) : L := es.map (·.1)
def fps (es : List El) : List Nat := es.flatMap (·.2.2)
def Own (w : World) (base : Nat) (v : Value) (l : L) (S : List Nat) : Prop := ∃ es : List El, ns es = l ∧ w.ownsRow base 34 10 v l.length (cells es) ∧ S = fpR v ++ fps es ∧ S.Nodup ∧ ∀ e ∈ es, In.Own w base e.2.1 e.1 e.2.2
theorem ns_length (es : List El) : (ns es).length = es.length := by simp [ns]
theorem cells_app (es fs : List El) : cells (es ++ fs) = cells es ++ cells fs := by simp [cells]
theorem fps_app (es fs : List El) : fps (es ++ fs) = fps es ++ fps fs := by simp [fps]
theorem mem_fps {es : List El} {e : El} (h : e ∈ es) {x : Nat} (hx : x ∈ e.2.2) : x ∈ fps es := List.mem_flatMap.2 ⟨e, h, hx⟩
theorem vlen {w : World} {base : Nat} {v : Value} {n : In.L} {S : List Nat} (h : In.Own w base v n S) : (vcells v).length = 10 := by
  obtain ⟨r0, r1, r2, rfl, _⟩ := In.own_holds h
  rfl
theorem flat_len {α β : Type} (f : α → List β) (k : Nat) : ∀ es : List α, (∀ e ∈ es, (f e).length = k) → (es.flatMap f).length = es.length * k
  | [], _ => by simp
  | a :: r, h => by
    rw [List.flatMap_cons, List.length_append, h a (by simp), flat_len f k r (fun e he => h e (by simp [he])), List.length_cons, Nat.succ_mul]
    omega
theorem flat_at {α β : Type} (f : α → List β) (k : Nat) : ∀ es : List α, (∀ e ∈ es, (f e).length = k) → ∀ (i : Nat) (hi : i < es.length) (j : Nat), j < k → (es.flatMap f)[i * k + j]? = (f es[i])[j]?
  | [], _, i, hi, _, _ => by simp at hi
  | a :: r, h, 0, _, j, hj => by
    rw [List.flatMap_cons, Nat.zero_mul, Nat.zero_add, List.getElem?_append_left (by rw [h a (by simp)]; exact hj)]
    rfl
  | a :: r, h, i + 1, hi, j, hj => by
    have hk := h a (by simp)
    rw [List.flatMap_cons, List.getElem?_append_right (by rw [hk, Nat.succ_mul]; omega), hk, show (i + 1) * k + j - k = i * k + j from by rw [Nat.succ_mul]; omega]
    exact flat_at f k r (fun e he => h e (by simp [he])) i (by simpa using hi) j hj
theorem cells_len {w : World} {base : Nat} {es : List El} (h : ∀ e ∈ es, In.Own w base e.2.1 e.1 e.2.2) : (cells es).length = es.length * 10 := flat_len _ 10 es fun e he => vlen (h e he)
/-- A row of elements, read. -/
theorem holds_row {w : World} {base : Nat} {v : Value} {es : List El} (hrow : w.ownsRow base 34 10 v (ns es).length (cells es)) (hel : ∀ e ∈ es, In.Own w base e.2.1 e.1 e.2.2) : Holds w v (ns es) := by
  have hl := ns_length es
  rcases hrow.2 with ⟨rfl, h0⟩ | ⟨g, cap, cur, rfl, hb, hg, hn', _, _, htake⟩
  · have : es = [] := List.eq_nil_of_length_eq_zero (by omega)
    subst this
    exact ⟨none, 0, rfl, Nat.le_refl _, fun i hi => by simp [ns] at hi⟩
  · refine ⟨some ⟨g, 0, none⟩, cap, rfl, hn', fun i hi => ?_⟩
    have hie : i < es.length := by omega
    have hm := hel es[i] (List.getElem_mem hie)
    have hx : (ns es).getD i z0 = es[i].1 := by
      rw [List.getD_eq_getElem?_getD, ns, List.getElem?_map, List.getElem?_eq_getElem hie]; rfl
    obtain ⟨r0, r1, r2, hv, h0, h1, h2⟩ := In.own_holds hm
    have hat : ∀ j, j < 10 → w.cell? ⟨g, 0 + i * 10 + j, none⟩ = (vcells es[i].2.1)[j]? := fun j hj => by
      rw [Nat.zero_add, hrow.cellAt _ (by rw [hl]; have := Nat.mul_le_mul_right 10 (show i + 1 ≤ es.length by omega); rw [Nat.succ_mul] at this; omega)]
      exact flat_at (fun e : El => vcells e.2.1) 10 es (fun e he => vlen (hel e he)) i hie j hj
    rw [hv] at hat
    rw [hx]
    exact ⟨g, 0, rfl, (Array.getElem?_eq_some_iff.1 hg).1, r0, r1, r2, ⟨hat 0 (by omega), hat 1 (by omega), hat 2 (by omega), hat 3 (by omega), hat 4 (by omega), hat 5 (by omega), hat 6 (by omega), hat 7 (by omega), hat 8 (by omega), hat 9 (by omega)⟩, ⟨h0, h1, h2⟩⟩
section
variable {w w' : World} {base : Nat} {v : Value} {l : L} {S T : List Nat}
theorem own_holds (h : Own w base v l S) : Holds w v l := by
  obtain ⟨es, rfl, hrow, rfl, hnd, hel⟩ := h
  exact holds_row hrow hel
theorem own_chg (h : Own w base v l S) (hc : Chg w w' T) (ha : Apart S T) : Own w' base v l S := by
  obtain ⟨es, rfl, hrow, rfl, hnd, hel⟩ := h
  obtain ⟨h1, h2⟩ := apart_app.1 ha
  exact ⟨es, rfl, row_chg hrow hc h1, rfl, hnd, fun e he => In.own_chg (hel e he) hc fun x hx => h2 x (mem_fps he hx)⟩
theorem own_below (h : Own w base v l S) (hb : Below w.heap.size w w') : Own w' base v l S := own_chg h (Chg.of_below hb (Nat.le_refl _) []) (fun k _ hh => by cases hh)
theorem own_mono {base' : Nat} (h : Own w base v l S) (hb : base' ≤ base) : Own w base' v l S := by
  obtain ⟨es, rfl, hrow, rfl, hnd, hel⟩ := h
  exact ⟨es, rfl, row_mono hrow hb, rfl, hnd, fun e he => In.own_mono (hel e he) hb⟩
theorem fps_lies {es : List El} (hel : ∀ e ∈ es, In.Own w base e.2.1 e.1 e.2.2) : Lies (fps es) base w.heap.size := fun x hx => by
  obtain ⟨e, he, hx⟩ := List.mem_flatMap.1 hx
  exact In.own_lies (hel e he) x hx
theorem own_lies (h : Own w base v l S) : Lies S base w.heap.size := by
  obtain ⟨es, rfl, hrow, rfl, hnd, hel⟩ := h
  exact (row_lies hrow).app (fps_lies hel)
theorem own_nodup (h : Own w base v l S) : S.Nodup := by
  obtain ⟨es, rfl, hrow, rfl, hnd, hel⟩ := h
  exact hnd
theorem own_set (h : Own w base v l S) {a : Addr} (ha : a.block < base) (u : Value) : Own (w.setCell a u) base v l S := by
  obtain ⟨es, rfl, hrow, rfl, hnd, hel⟩ := h
  exact ⟨es, rfl, ownsRow_setCell_below hrow ha u, rfl, hnd, fun e he => In.own_set (hel e he) ha u⟩
theorem own_form (h : Own w base v l S) : ∃ a c, v = .slice a l.length c := form (own_holds h)
end
def csum (l : L) : Nat := (l.map In.cost).sum
def cost (l : L) : Nat := l.length + csum l
def Lim (l : L) : Prop := l.length ≤ maxLen ∧ ∀ x ∈ l, In.Lim x
theorem csum_snoc (l : L) (i : Nat) (h : i < l.length) : csum (l.take (i + 1)) = csum (l.take i) + In.cost (l.getD i z0) := by
  unfold csum
  rw [List.take_succ_eq_append_getElem h, List.map_append, List.sum_append]
  simp [List.getD, List.getElem?_eq_getElem h]
theorem csum_le (l : L) (i : Nat) : csum (l.take i) ≤ csum l := by
  have : csum l = csum (l.take i) + csum (l.drop i) := by
    unfold csum
    rw [← List.sum_append, ← List.map_append, List.take_append_drop]
  omega
theorem mem_getD {l : L} {i : Nat} (h : i < l.length) : l.getD i z0 ∈ l := by
  rw [List.getD_eq_getElem?_getD, List.getElem?_eq_getElem h]
  exact List.getElem_mem h
theorem cost_mem {l : L} {x : In.L} (h : x ∈ l) : In.cost x ≤ csum l := by
  unfold csum
  induction l with
  | nil => cases h
  | cons a r ih =>
    rw [List.map_cons, List.sum_cons]
    rcases List.mem_cons.1 h with rfl | h
    · omega
    · have := ih h; omega
theorem cost_at {l : L} {i : Nat} (h : i < l.length) : In.cost (l.getD i z0) ≤ csum l := cost_mem (mem_getD h)


set_option maxRecDepth 100000 in
set_option maxHeartbeats 1600000 in
theorem sz_any (w : World) (v : Value) (l : L) (left : Nat) (hleft : left ≤ 1073741824) (hl : Lim l) (h : Holds w v l) :
    Calls Tryz.prog 88 #[v, .int .i64 left] w fun e w' => e = .returned (.int .i64 (costOf (cost l) left)) ∧ Below w.heap.size w w' := by
  obtain ⟨a, cap, rfl, hle, hc⟩ := atL h
  have hlen := hl.1
  unfold maxLen at hlen
  by_cases hlt0 : left < l.length
  · have HR := Lib.hid (show costOf (cost l) left = -1 from cost_neg (by unfold cost; omega))
    clear hc hl h
    generalize l.length = M at hlt0 hlen hle ⊢
    go_enter Tryz.func88, Tryz.ntmps88
    go_wp2
    go_ret
    exact ⟨ret_int HR.out.symm, Below.refl _ _⟩
  · have HC := Lib.hid hc
    have HLM := Lib.hid hl.2
    have HCS := Lib.hid (csum_snoc l)
    have HCL := Lib.hid (csum_le l)
    have HCD := Lib.hid (show cost l = l.length + csum l from rfl)
    obtain ⟨M, hM⟩ : ∃ M, M = l.length := ⟨_, rfl⟩
    rw [← hM] at hlt0 hlen hle HCD ⊢
    have HM := Lib.hid hM
    clear hM hc hl h
    go_enter Tryz.func88, Tryz.ntmps88
    go_wp2
    go_loopw [1, 5] (fun lv iv wr => ∃ i r : Nat, i ≤ M ∧ iv = .int .i64 i ∧ lv = .int .i64 r ∧ r + M + csum (l.take i) = left ∧ Below w.heap.size w wr) (fun _ iv _ => M - (intOf iv).toNat)
    case atStart => exact ⟨0, left - M, Nat.zero_le _, rfl, by go_num, by simp [csum]; omega, Below.refl _ _⟩
    case round =>
      obtain ⟨i, r, hi, rfl, rfl, hr, hbel⟩ := hrel
      have HQ := Lib.hid hr
      have HB := Lib.hid hbel
      have hrl : r ≤ 1073741824 := by omega
      clear hr hbel
      by_cases hlt : i < M
      · have hlx : i < l.length := by rw [← HM.out]; exact hlt
        obtain ⟨b, o, rfl, hb, r0, r1, r2, hC, hP⟩ := HC.out i hlx
        have HP := Lib.hid (parts_holds (parts_below hP HB.out))
        obtain ⟨h0, h1, h2⟩ := hP
        obtain ⟨a0, d0, rfl⟩ := NiF.form h0
        obtain ⟨a1, d1, rfl⟩ := AeF.form h1
        obtain ⟨a2, d2, rfl⟩ := AeF.form h2
        obtain ⟨g0, g1, g2, g3, g4, g5, g6, g7, g8, g9⟩ := hC.below hb HB.out
        clear hC h0 h1 h2
        have HLX := Lib.hid (HLM.out _ (mem_getD hlx))
        have ht := Lib.hid (HCS.out i hlx)
        have HTS := Lib.hid (HCL.out (i + 1))
        generalize l.getD i z0 = x at g0 g1 g2 g3 g4 g5 g6 g7 g8 g9 HP HLX ht
        by_cases hq : In.cost x ≤ r
        · obtain ⟨s, hs⟩ : ∃ s, s = r - In.cost x := ⟨_, rfl⟩
          have HZ := Lib.hid (show costOf (In.cost x) r = (s : Int) by rw [hs]; exact cost_pos hq)
          have HN := Lib.hid (show s + M + csum (l.take (i + 1)) = left by have := ht.out; have := HQ.out; omega)
          have hsl : s ≤ 1073741824 := by omega
          clear hs hq
          go_wp2_with fail
          refine (In.sz_any _ _ x r (by omega) HLX.out HP.out).mono ?_
          rintro e w1 ⟨rfl, hb1⟩
          rw [HZ.out]
          replace HB := Lib.hid (HB.out.trans (hb1.mono HB.out.size))
          clear hb1 g0 g1 g2 g3 g4 g5 g6 g7 g8 g9
          go_wp2
          go_roundw
          case rel => exact ⟨i + 1, s, by omega, by go_num, rfl, HN.out, HB.out⟩
          case measure => simp [intOf]; omega
        · have HZ := Lib.hid (show costOf (In.cost x) r = -1 from cost_neg hq)
          have HN := Lib.hid (show costOf (cost l) left = -1 from cost_neg (by rw [HCD.out]; have := ht.out; have := HTS.out; have := HQ.out; omega))
          clear hq
          go_wp2_with fail
          refine (In.sz_any _ _ x r (by omega) HLX.out HP.out).mono ?_
          rintro e w1 ⟨rfl, hb1⟩
          rw [HZ.out]
          replace HB := Lib.hid (HB.out.trans (hb1.mono HB.out.size))
          clear hb1 g0 g1 g2 g3 g4 g5 g6 g7 g8 g9
          go_wp2
          go_ret
          exact ⟨ret_int HN.out.symm, HB.out⟩
      · have HN := Lib.hid (show costOf (cost l) left = r by
          have h1 := HQ.out
          rw [List.take_of_length_le (by rw [← HM.out]; omega)] at h1
          rw [cost_pos (by rw [HCD.out]; omega), HCD.out]
          omega)
        go_wp2
        go_ret
        exact ⟨ret_int HN.out.symm, HB.out⟩

/-- Cells stored one behind another. -/
def setSeq (l : List Value) (o : Nat) : List Value → List Value
  | [] => l
  | u :: r => setSeq (l.set o u) (o + 1) r
theorem setSeq_take (us : List Value) : ∀ (l : List Value) (o : Nat), o + us.length ≤ l.length → (setSeq l o us).take (o + us.length) = l.take o ++ us := by
  induction us with
  | nil => intro l o _; simp [setSeq]
  | cons u r ih =>
    intro l o h
    rw [List.length_cons] at h
    rw [setSeq, List.length_cons, show o + (r.length + 1) = (o + 1) + r.length from by omega, ih _ _ (by rw [List.length_set]; omega), List.take_succ_eq_append_getElem (by rw [List.length_set]; omega), List.take_set_of_le (Nat.le_refl _)]
    simp
theorem setSeq_drop (us : List Value) : ∀ (l : List Value) (o : Nat), (setSeq l o us).drop (o + us.length) = l.drop (o + us.length) := by
  induction us with
  | nil => intro l o; rfl
  | cons u r ih =>
    intro l o
    rw [setSeq, List.length_cons, show o + (r.length + 1) = (o + 1) + r.length from by omega, ih, List.drop_set_of_lt (by omega)]
theorem set_mid (A B C us : List Value) (h : us.length = B.length) : setSeq (A ++ B ++ C) A.length us = A ++ us ++ C := by
  have h1 := setSeq_take us (A ++ B ++ C) A.length (by simp only [List.length_append]; omega)
  have h2 := setSeq_drop us (A ++ B ++ C) A.length
  rw [← List.take_append_drop (A.length + us.length) (setSeq (A ++ B ++ C) A.length us), h1, h2, List.append_assoc A B C, List.take_left' rfl, ← List.append_assoc A B C, List.drop_left' (by rw [List.length_append]; omega)]
theorem take_set (l : List Value) (i : Nat) (u0 u1 u2 u3 u4 u5 u6 u7 u8 u9 : Value) (h : i * 10 + 10 ≤ l.length) : (((((((((((l.set (i * 10) (u0)).set (i * 10 + 1) (u1)).set (i * 10 + 2) (u2)).set (i * 10 + 3) (u3)).set (i * 10 + 4) (u4)).set (i * 10 + 5) (u5)).set (i * 10 + 6) (u6)).set (i * 10 + 7) (u7)).set (i * 10 + 8) (u8)).set (i * 10 + 9) (u9))).take ((i + 1) * 10) = l.take (i * 10) ++ [u0, u1, u2, u3, u4, u5, u6, u7, u8, u9] := by
  rw [show (i + 1) * 10 = i * 10 + 10 from by omega]
  exact setSeq_take [u0, u1, u2, u3, u4, u5, u6, u7, u8, u9] l (i * 10) h
theorem info : (Tryz.prog.info? 34).map (fun i => (i.zero, i.size, i.bytes)) = some (some (.agg #[.int .i64 0, .int .i64 0, .int .i64 0, .int .i64 0, .int .i64 0, .int .i64 0, .int .i64 0, .slice none 0 0, .slice none 0 0, .slice none 0 0]), 10, 128) := by kernel_rfl


set_option maxRecDepth 100000 in
set_option maxHeartbeats 6400000 in
/-- A copy, in memory of the call's own. -/
theorem to_any (w : World) (v : Value) (l : L) (hc : cost l ≤ 1073741824) (h : Holds w v l) :
    Calls Tryz.prog 94 #[v] w fun e w' => ∃ v' S, e = .returned v' ∧ Own w' w.heap.size v' l S ∧ Below w.heap.size w w' := by
  obtain ⟨i0, hi, hz0, hz1, hz2⟩ := info_parts info
  obtain ⟨a, cap, rfl, hle, hat⟩ := atL h
  have HC := Lib.hid hat
  have hlen : l.length ≤ 1073741824 := Nat.le_trans (Nat.le_add_right _ _) hc
  have HCA := Lib.hid (fun i (hi : i < l.length) => Nat.le_trans (cost_at hi) (Nat.le_trans (Nat.le_add_left _ l.length) hc))
  obtain ⟨M, hM⟩ : ∃ M, M = l.length := ⟨_, rfl⟩
  rw [← hM] at hlen hle ⊢
  have HM := Lib.hid hM
  clear hM hat h hc
  have hro : i0.bytes * M ≤ 281474976710656 := by rw [hz2]; omega
  have HRO := Lib.hid hro
  have HBY := Lib.hid hz2
  clear hro hz2
  go_enter Tryz.func94, Tryz.ntmps94
  go_wp2_with (at_make; refine wpList_make_full _ rfl _ _ 24 rfl w.heap.size 34 i0 (.agg #[.int .i64 0, .int .i64 0, .int .i64 0, .int .i64 0, .int .i64 0, .int .i64 0, .int .i64 0, .slice none 0 0, .slice none 0 0, .slice none 0 0]) 10 Tryz.underlying24 hi hz0 hz1 .i64 .i64 _ _ M rfl rfl rfl rfl ?c1 ?c2 ?c3 ?_)
  case c1 => exact HRO.out
  case c2 => unfold maxLen; omega
  case c3 => exact Nat.le_refl _
  intro w1 hown1 hg1
  have HO1 := Lib.hid hown1
  have HB1 := Lib.hid (show Below w.heap.size w w1 from (Below.refl _ _).grown hg1 (Nat.le_refl _) (fun k hk => by cases hk))
  have hs1 : w.heap.size + 1 ≤ w1.heap.size := by
    rcases hown1.2 with ⟨hh, _⟩ | ⟨g, c', cur, hh, _, hg, _⟩
    · cases hh
    · simp only [Value.slice.injEq, Option.some.injEq, Addr.mk.injEq, and_true, true_and] at hh
      obtain ⟨rfl, _⟩ := hh
      exact (Array.getElem?_eq_some_iff.1 hg).1
  clear hown1 hg1
  go_wp2
  go_loopw [4] (fun iv wr => ∃ (i : Nat) (es : List El) (lst : List Value), i ≤ M ∧ iv = .int .i64 i ∧ es.length = i ∧ ns es = l.take i ∧ wr.ownsRow w.heap.size 34 10 (.slice (some ⟨w.heap.size, 0, none⟩) M M) M lst ∧ lst.take (i * 10) = cells es ∧ (∀ e ∈ es, In.Own wr (w.heap.size + 1) e.2.1 e.1 e.2.2) ∧ (fps es).Nodup ∧ w.heap.size + 1 ≤ wr.heap.size ∧ Below w.heap.size w wr) (fun iv _ => M - (intOf iv).toNat)
  case atStart => exact ⟨0, [], _, Nat.zero_le _, rfl, rfl, by simp [ns], HO1.out, by simp [cells], (fun e he => by cases he), by simp [fps], hs1, HB1.out⟩
  case round =>
    obtain ⟨i, es, lst, hi, rfl, hel, hns, hown, htake, hes, hnd, hsz, hbel⟩ := hrel
    have HEL := Lib.hid hel
    have HNS := Lib.hid hns
    have HO := Lib.hid hown
    have HT := Lib.hid htake
    have HES := Lib.hid hes
    have HND := Lib.hid hnd
    have HB := Lib.hid hbel
    clear hel hns hown htake hes hnd hbel HO1 HB1 hs1
    by_cases hlt : i < M
    · have hlx : i < l.length := by rw [← HM.out]; exact hlt
      have HTK := Lib.hid (show l.take (i + 1) = l.take i ++ [l.getD i z0] from by rw [List.take_succ_eq_append_getElem hlx]; simp [List.getD, List.getElem?_eq_getElem hlx])
      have hll : i * 10 + 10 ≤ lst.length := by have := HO.out.1; have := Nat.mul_le_mul_right 10 (show i + 1 ≤ M by omega); rw [Nat.succ_mul] at this; omega
      obtain ⟨b, o, rfl, hb, r0, r1, r2, hC, hP⟩ := HC.out i hlx
      have HP := Lib.hid (parts_holds (parts_below hP HB.out))
      obtain ⟨h0, h1, h2⟩ := hP
      obtain ⟨a0, d0, rfl⟩ := NiF.form h0
      obtain ⟨a1, d1, rfl⟩ := AeF.form h1
      obtain ⟨a2, d2, rfl⟩ := AeF.form h2
      obtain ⟨g0, g1, g2, g3, g4, g5, g6, g7, g8, g9⟩ := hC.below hb HB.out
      clear hC h0 h1 h2
      have hcx := HCA.out i hlx
      generalize l.getD i z0 = x at g0 g1 g2 g3 g4 g5 g6 g7 g8 g9 HP hcx HTK
      go_wp2_with fail
      refine (In.to_any _ _ x (by omega) HP.out).mono ?_
      rintro e w2 ⟨y, Sy, rfl, hoy, hb2⟩
      have hly := In.own_lies hoy
      have hndy := In.own_nodup hoy
      have hs2 := hb2.size
      have HB2 := Lib.hid (HB.out.trans (hb2.mono HB.out.size))
      have hown := Strs.own_below HO.out hb2
      obtain ⟨r0, r1, r2, S0, S1, S2, rfl, hSy, hndS, ho0, ho1, ho2⟩ := hoy
      obtain ⟨b0, e0, rfl⟩ := NiF.own_form ho0
      obtain ⟨b1, e1, rfl⟩ := AeF.own_form ho1
      obtain ⟨b2, e2, rfl⟩ := AeF.own_form ho2
      have hoy2 : In.Own w2 wr.heap.size (.agg #[.int .i64 x.kind, .int .i64 x.mode, .int .i64 x.uid, .int .i64 x.gid, .int .i64 x.links, .int .i64 x.size, .int .i64 x.tick, .slice b0 x.blocks.length e0, .slice b1 x.acl.length e1, .slice b2 x.dflt.length e2]) x Sy := ⟨_, _, _, _, _, _, rfl, hSy, hndS, ho0, ho1, ho2⟩
      have hc0 := hown.cellAt (i * 10) (by have := HO.out.1; omega)
      rw [List.getElem?_eq_getElem (show i * 10 < lst.length by omega)] at hc0
      have hf0 := hown.frozenAt (i * 10)
      have hc1 := hown.cellAt (i * 10 + 1) (by have := HO.out.1; omega)
      rw [List.getElem?_eq_getElem (show i * 10 + 1 < lst.length by omega)] at hc1
      have hf1 := hown.frozenAt (i * 10 + 1)
      have hc2 := hown.cellAt (i * 10 + 2) (by have := HO.out.1; omega)
      rw [List.getElem?_eq_getElem (show i * 10 + 2 < lst.length by omega)] at hc2
      have hf2 := hown.frozenAt (i * 10 + 2)
      have hc3 := hown.cellAt (i * 10 + 3) (by have := HO.out.1; omega)
      rw [List.getElem?_eq_getElem (show i * 10 + 3 < lst.length by omega)] at hc3
      have hf3 := hown.frozenAt (i * 10 + 3)
      have hc4 := hown.cellAt (i * 10 + 4) (by have := HO.out.1; omega)
      rw [List.getElem?_eq_getElem (show i * 10 + 4 < lst.length by omega)] at hc4
      have hf4 := hown.frozenAt (i * 10 + 4)
      have hc5 := hown.cellAt (i * 10 + 5) (by have := HO.out.1; omega)
      rw [List.getElem?_eq_getElem (show i * 10 + 5 < lst.length by omega)] at hc5
      have hf5 := hown.frozenAt (i * 10 + 5)
      have hc6 := hown.cellAt (i * 10 + 6) (by have := HO.out.1; omega)
      rw [List.getElem?_eq_getElem (show i * 10 + 6 < lst.length by omega)] at hc6
      have hf6 := hown.frozenAt (i * 10 + 6)
      have hc7 := hown.cellAt (i * 10 + 7) (by have := HO.out.1; omega)
      rw [List.getElem?_eq_getElem (show i * 10 + 7 < lst.length by omega)] at hc7
      have hf7 := hown.frozenAt (i * 10 + 7)
      have hc8 := hown.cellAt (i * 10 + 8) (by have := HO.out.1; omega)
      rw [List.getElem?_eq_getElem (show i * 10 + 8 < lst.length by omega)] at hc8
      have hf8 := hown.frozenAt (i * 10 + 8)
      have hc9 := hown.cellAt (i * 10 + 9) (by have := HO.out.1; omega)
      rw [List.getElem?_eq_getElem (show i * 10 + 9 < lst.length by omega)] at hc9
      have hf9 := hown.frozenAt (i * 10 + 9)
      have hst := ((((((((((hown.stored (i * 10) (.int .i64 x.kind)).1.stored (i * 10 + 1) (.int .i64 x.mode)).1.stored (i * 10 + 2) (.int .i64 x.uid)).1.stored (i * 10 + 3) (.int .i64 x.gid)).1.stored (i * 10 + 4) (.int .i64 x.links)).1.stored (i * 10 + 5) (.int .i64 x.size)).1.stored (i * 10 + 6) (.int .i64 x.tick)).1.stored (i * 10 + 7) (.slice b0 x.blocks.length e0)).1.stored (i * 10 + 8) (.slice b1 x.acl.length e1)).1.stored (i * 10 + 9) (.slice b2 x.dflt.length e2))
      have hts := take_set lst i (.int .i64 x.kind) (.int .i64 x.mode) (.int .i64 x.uid) (.int .i64 x.gid) (.int .i64 x.links) (.int .i64 x.size) (.int .i64 x.tick) (.slice b0 x.blocks.length e0) (.slice b1 x.acl.length e1) (.slice b2 x.dflt.length e2) hll
      rw [HT.out] at hts
      have HST := Lib.hid hst.1
      have HBF := Lib.hid (show Below w.heap.size w ((((((((((w2.setCell ⟨w.heap.size, i * 10, none⟩ (.int .i64 x.kind)).setCell ⟨w.heap.size, i * 10 + 1, none⟩ (.int .i64 x.mode)).setCell ⟨w.heap.size, i * 10 + 2, none⟩ (.int .i64 x.uid)).setCell ⟨w.heap.size, i * 10 + 3, none⟩ (.int .i64 x.gid)).setCell ⟨w.heap.size, i * 10 + 4, none⟩ (.int .i64 x.links)).setCell ⟨w.heap.size, i * 10 + 5, none⟩ (.int .i64 x.size)).setCell ⟨w.heap.size, i * 10 + 6, none⟩ (.int .i64 x.tick)).setCell ⟨w.heap.size, i * 10 + 7, none⟩ (.slice b0 x.blocks.length e0)).setCell ⟨w.heap.size, i * 10 + 8, none⟩ (.slice b1 x.acl.length e1)).setCell ⟨w.heap.size, i * 10 + 9, none⟩ (.slice b2 x.dflt.length e2)) from ((((((((((HB2.out.setCell (Nat.le_refl _) _).setCell (Nat.le_refl _) _).setCell (Nat.le_refl _) _).setCell (Nat.le_refl _) _).setCell (Nat.le_refl _) _).setCell (Nat.le_refl _) _).setCell (Nat.le_refl _) _).setCell (Nat.le_refl _) _).setCell (Nat.le_refl _) _).setCell (Nat.le_refl _) _))
      have HEF := Lib.hid (show ∀ e ∈ es ++ [((x, .agg #[.int .i64 x.kind, .int .i64 x.mode, .int .i64 x.uid, .int .i64 x.gid, .int .i64 x.links, .int .i64 x.size, .int .i64 x.tick, .slice b0 x.blocks.length e0, .slice b1 x.acl.length e1, .slice b2 x.dflt.length e2], Sy) : El)], In.Own ((((((((((w2.setCell ⟨w.heap.size, i * 10, none⟩ (.int .i64 x.kind)).setCell ⟨w.heap.size, i * 10 + 1, none⟩ (.int .i64 x.mode)).setCell ⟨w.heap.size, i * 10 + 2, none⟩ (.int .i64 x.uid)).setCell ⟨w.heap.size, i * 10 + 3, none⟩ (.int .i64 x.gid)).setCell ⟨w.heap.size, i * 10 + 4, none⟩ (.int .i64 x.links)).setCell ⟨w.heap.size, i * 10 + 5, none⟩ (.int .i64 x.size)).setCell ⟨w.heap.size, i * 10 + 6, none⟩ (.int .i64 x.tick)).setCell ⟨w.heap.size, i * 10 + 7, none⟩ (.slice b0 x.blocks.length e0)).setCell ⟨w.heap.size, i * 10 + 8, none⟩ (.slice b1 x.acl.length e1)).setCell ⟨w.heap.size, i * 10 + 9, none⟩ (.slice b2 x.dflt.length e2)) (w.heap.size + 1) e.2.1 e.1 e.2.2 from fun e he => by
        rcases List.mem_append.1 he with he | he
        · have := In.own_below (HES.out e he) hb2
          exact (In.own_set (In.own_set (In.own_set (In.own_set (In.own_set (In.own_set (In.own_set (In.own_set (In.own_set (In.own_set this (a := ⟨w.heap.size, i * 10, none⟩) (by first | (simp; done) | (simp; omega)) (.int .i64 x.kind)) (a := ⟨w.heap.size, i * 10 + 1, none⟩) (by first | (simp; done) | (simp; omega)) (.int .i64 x.mode)) (a := ⟨w.heap.size, i * 10 + 2, none⟩) (by first | (simp; done) | (simp; omega)) (.int .i64 x.uid)) (a := ⟨w.heap.size, i * 10 + 3, none⟩) (by first | (simp; done) | (simp; omega)) (.int .i64 x.gid)) (a := ⟨w.heap.size, i * 10 + 4, none⟩) (by first | (simp; done) | (simp; omega)) (.int .i64 x.links)) (a := ⟨w.heap.size, i * 10 + 5, none⟩) (by first | (simp; done) | (simp; omega)) (.int .i64 x.size)) (a := ⟨w.heap.size, i * 10 + 6, none⟩) (by first | (simp; done) | (simp; omega)) (.int .i64 x.tick)) (a := ⟨w.heap.size, i * 10 + 7, none⟩) (by first | (simp; done) | (simp; omega)) (.slice b0 x.blocks.length e0)) (a := ⟨w.heap.size, i * 10 + 8, none⟩) (by first | (simp; done) | (simp; omega)) (.slice b1 x.acl.length e1)) (a := ⟨w.heap.size, i * 10 + 9, none⟩) (by first | (simp; done) | (simp; omega)) (.slice b2 x.dflt.length e2))
        · rw [List.mem_singleton] at he
          subst he
          exact In.own_mono ((In.own_set (In.own_set (In.own_set (In.own_set (In.own_set (In.own_set (In.own_set (In.own_set (In.own_set (In.own_set hoy2 (a := ⟨w.heap.size, i * 10, none⟩) (by first | (simp; done) | (simp; omega)) (.int .i64 x.kind)) (a := ⟨w.heap.size, i * 10 + 1, none⟩) (by first | (simp; done) | (simp; omega)) (.int .i64 x.mode)) (a := ⟨w.heap.size, i * 10 + 2, none⟩) (by first | (simp; done) | (simp; omega)) (.int .i64 x.uid)) (a := ⟨w.heap.size, i * 10 + 3, none⟩) (by first | (simp; done) | (simp; omega)) (.int .i64 x.gid)) (a := ⟨w.heap.size, i * 10 + 4, none⟩) (by first | (simp; done) | (simp; omega)) (.int .i64 x.links)) (a := ⟨w.heap.size, i * 10 + 5, none⟩) (by first | (simp; done) | (simp; omega)) (.int .i64 x.size)) (a := ⟨w.heap.size, i * 10 + 6, none⟩) (by first | (simp; done) | (simp; omega)) (.int .i64 x.tick)) (a := ⟨w.heap.size, i * 10 + 7, none⟩) (by first | (simp; done) | (simp; omega)) (.slice b0 x.blocks.length e0)) (a := ⟨w.heap.size, i * 10 + 8, none⟩) (by first | (simp; done) | (simp; omega)) (.slice b1 x.acl.length e1)) (a := ⟨w.heap.size, i * 10 + 9, none⟩) (by first | (simp; done) | (simp; omega)) (.slice b2 x.dflt.length e2))) hsz)
      have HTF := Lib.hid (show (((((((((((lst.set (i * 10) (.int .i64 x.kind)).set (i * 10 + 1) (.int .i64 x.mode)).set (i * 10 + 2) (.int .i64 x.uid)).set (i * 10 + 3) (.int .i64 x.gid)).set (i * 10 + 4) (.int .i64 x.links)).set (i * 10 + 5) (.int .i64 x.size)).set (i * 10 + 6) (.int .i64 x.tick)).set (i * 10 + 7) (.slice b0 x.blocks.length e0)).set (i * 10 + 8) (.slice b1 x.acl.length e1)).set (i * 10 + 9) (.slice b2 x.dflt.length e2))).take ((i + 1) * 10) = cells (es ++ [((x, .agg #[.int .i64 x.kind, .int .i64 x.mode, .int .i64 x.uid, .int .i64 x.gid, .int .i64 x.links, .int .i64 x.size, .int .i64 x.tick, .slice b0 x.blocks.length e0, .slice b1 x.acl.length e1, .slice b2 x.dflt.length e2], Sy) : El)]) from hts.trans (by rw [cells_app]; rfl))
      have HNF := Lib.hid (show ns (es ++ [((x, .agg #[.int .i64 x.kind, .int .i64 x.mode, .int .i64 x.uid, .int .i64 x.gid, .int .i64 x.links, .int .i64 x.size, .int .i64 x.tick, .slice b0 x.blocks.length e0, .slice b1 x.acl.length e1, .slice b2 x.dflt.length e2], Sy) : El)]) = l.take (i + 1) from by rw [HTK.out, ← HNS.out]; simp [ns])
      have HDF := Lib.hid (show (fps (es ++ [((x, .agg #[.int .i64 x.kind, .int .i64 x.mode, .int .i64 x.uid, .int .i64 x.gid, .int .i64 x.links, .int .i64 x.size, .int .i64 x.tick, .slice b0 x.blocks.length e0, .slice b1 x.acl.length e1, .slice b2 x.dflt.length e2], Sy) : El)])).Nodup from by
        rw [fps_app]
        refine nodup_app HND.out (by simpa [fps] using hndy) ?_
        have h1 := fps_lies HES.out
        intro z hz hz2
        have h2 : z ∈ Sy := by simpa [fps] using hz2
        have := h1 z hz
        have := hly z h2
        omega)
      have hsF : w.heap.size + 1 ≤ w2.heap.size := by omega
      clear hst hts hown g0 g1 g2 g3 g4 g5 g6 g7 g8 g9 hb2 hoy2 ho0 ho1 ho2 hly hndy hSy hndS
      generalize lst[i * 10] = y0 at hc0
      generalize lst[i * 10 + 1] = y1 at hc1
      generalize lst[i * 10 + 2] = y2 at hc2
      generalize lst[i * 10 + 3] = y3 at hc3
      generalize lst[i * 10 + 4] = y4 at hc4
      generalize lst[i * 10 + 5] = y5 at hc5
      generalize lst[i * 10 + 6] = y6 at hc6
      generalize lst[i * 10 + 7] = y7 at hc7
      generalize lst[i * 10 + 8] = y8 at hc8
      generalize lst[i * 10 + 9] = y9 at hc9
      go_wp2
      go_roundw
      case rel => exact ⟨i + 1, _, _, by omega, by go_num, by simp [HEL.out], HNF.out, HST.out, HTF.out, HEF.out, HDF.out, by simp; omega, HBF.out⟩
      case measure => simp [intOf]; omega
    · obtain rfl : i = M := by omega
      go_wp2
      go_ret
      have hnl : ns es = l := by rw [HNS.out, List.take_of_length_le (by rw [← HM.out]; exact Nat.le_refl _)]
      have hcl : lst = cells es := by rw [← HT.out, List.take_of_length_le (by rw [HO.out.1]; exact Nat.le_refl _)]
      refine ⟨_, _, rfl, ⟨es, hnl, ?_, rfl, ?_, fun e he => In.own_mono (HES.out e he) (by omega)⟩, HB.out⟩
      · rw [← HM.out, ← hcl]; exact HO.out
      · refine nodup_app (fpR_nodup _) HND.out fun x hx hx2 => ?_
        have h1 := fps_lies HES.out x hx2
        simp [fpR, Value.ownBlock] at hx
        omega


set_option maxRecDepth 100000 in
set_option maxHeartbeats 6400000 in
theorem eq_any (w : World) (va vb : Value) (l : L) (hc : cost l ≤ 1073741824) (h : Holds w va l) (h' : Holds w vb l) :
    Calls Tryz.prog 97 #[va, vb] w fun e w' => e = .returned (.bool true) ∧ Below w.heap.size w w' := by
  obtain ⟨a1, c1, rfl, hle1, hat1⟩ := atL h
  obtain ⟨a2, c2, rfl, hle2, hat2⟩ := atL h'
  have HC1 := Lib.hid hat1
  have HC2 := Lib.hid hat2
  have hlen : l.length ≤ 1073741824 := Nat.le_trans (Nat.le_add_right _ _) hc
  have HCA := Lib.hid (fun i (hi : i < l.length) => Nat.le_trans (cost_at hi) (Nat.le_trans (Nat.le_add_left _ l.length) hc))
  obtain ⟨M, hM⟩ : ∃ M, M = l.length := ⟨_, rfl⟩
  rw [← hM] at hlen hle1 hle2 ⊢
  have HM := Lib.hid hM
  clear hM hat1 hat2 h h' hc
  go_enter Tryz.func97, Tryz.ntmps97
  go_wp2
  go_loopw [5] (fun iv wr => ∃ i : Nat, i ≤ M ∧ iv = .int .i64 i ∧ Below w.heap.size w wr) (fun iv _ => M - (intOf iv).toNat)
  case atStart => exact ⟨0, Nat.zero_le _, rfl, Below.refl _ _⟩
  case round =>
    obtain ⟨i, hi, rfl, hbel⟩ := hrel
    have HB := Lib.hid hbel
    have hsz := hbel.size
    clear hbel
    by_cases hlt : i < M
    · have hlx : i < l.length := by rw [← HM.out]; exact hlt
      have hcx := HCA.out i hlx
      obtain ⟨b1, o1, rfl, hb1, r0, r1, r2, hC, hP⟩ := HC1.out i hlx
      have HP := Lib.hid (parts_holds (parts_below hP HB.out))
      obtain ⟨h0, h1, h2⟩ := hP
      obtain ⟨pa0, pd0, rfl⟩ := NiF.form h0
      obtain ⟨pa1, pd1, rfl⟩ := AeF.form h1
      obtain ⟨pa2, pd2, rfl⟩ := AeF.form h2
      obtain ⟨g0, g1, g2, g3, g4, g5, g6, g7, g8, g9⟩ := hC.below hb1 HB.out
      clear hC h0 h1 h2
      obtain ⟨b2, o2, rfl, hb2, r0, r1, r2, hC, hP⟩ := HC2.out i hlx
      have HQ := Lib.hid (parts_holds (parts_below hP HB.out))
      obtain ⟨h0, h1, h2⟩ := hP
      obtain ⟨qa0, qd0, rfl⟩ := NiF.form h0
      obtain ⟨qa1, qd1, rfl⟩ := AeF.form h1
      obtain ⟨qa2, qd2, rfl⟩ := AeF.form h2
      obtain ⟨k0, k1, k2, k3, k4, k5, k6, k7, k8, k9⟩ := hC.below hb2 HB.out
      clear hC h0 h1 h2
      generalize l.getD i z0 = x at g0 k0 g1 k1 g2 k2 g3 k3 g4 k4 g5 k5 g6 k6 g7 k7 g8 k8 g9 k9 HP HQ hcx
      have HD1 := Lib.hid (show In.Holds wr.drew _ x from HP.out)
      have HD2 := Lib.hid (show In.Holds wr.drew _ x from HQ.out)
      go_wp2
      go_region_held3 (fun w' => w'.cell? ⟨b1, o1 + i * 10, none⟩ = some (.int .i64 x.kind) ∧ w'.cell? ⟨b1, o1 + i * 10 + 1, none⟩ = some (.int .i64 x.mode) ∧ w'.cell? ⟨b1, o1 + i * 10 + 2, none⟩ = some (.int .i64 x.uid) ∧ w'.cell? ⟨b1, o1 + i * 10 + 3, none⟩ = some (.int .i64 x.gid) ∧ w'.cell? ⟨b1, o1 + i * 10 + 4, none⟩ = some (.int .i64 x.links) ∧ w'.cell? ⟨b1, o1 + i * 10 + 5, none⟩ = some (.int .i64 x.size) ∧ w'.cell? ⟨b1, o1 + i * 10 + 6, none⟩ = some (.int .i64 x.tick) ∧ w'.cell? ⟨b1, o1 + i * 10 + 7, none⟩ = some (.slice pa0 x.blocks.length pd0) ∧ w'.cell? ⟨b1, o1 + i * 10 + 8, none⟩ = some (.slice pa1 x.acl.length pd1) ∧ w'.cell? ⟨b1, o1 + i * 10 + 9, none⟩ = some (.slice pa2 x.dflt.length pd2) ∧ w'.cell? ⟨b2, o2 + i * 10, none⟩ = some (.int .i64 x.kind) ∧ w'.cell? ⟨b2, o2 + i * 10 + 1, none⟩ = some (.int .i64 x.mode) ∧ w'.cell? ⟨b2, o2 + i * 10 + 2, none⟩ = some (.int .i64 x.uid) ∧ w'.cell? ⟨b2, o2 + i * 10 + 3, none⟩ = some (.int .i64 x.gid) ∧ w'.cell? ⟨b2, o2 + i * 10 + 4, none⟩ = some (.int .i64 x.links) ∧ w'.cell? ⟨b2, o2 + i * 10 + 5, none⟩ = some (.int .i64 x.size) ∧ w'.cell? ⟨b2, o2 + i * 10 + 6, none⟩ = some (.int .i64 x.tick) ∧ w'.cell? ⟨b2, o2 + i * 10 + 7, none⟩ = some (.slice qa0 x.blocks.length qd0) ∧ w'.cell? ⟨b2, o2 + i * 10 + 8, none⟩ = some (.slice qa1 x.acl.length qd1) ∧ w'.cell? ⟨b2, o2 + i * 10 + 9, none⟩ = some (.slice qa2 x.dflt.length qd2)) (go_keep)
        (first | (go_at_call 166; with_reducible refine (In.eq_any _ _ _ x (by omega) HD1.out HD2.out).mono ?_; rintro e w1 ⟨rfl, hbq⟩; have qp0 := (hbq.cell (p := ⟨b1, o1 + i * 10, none⟩) (by simp; omega)); have qp1 := (hbq.cell (p := ⟨b1, o1 + i * 10 + 1, none⟩) (by simp; omega)); have qp2 := (hbq.cell (p := ⟨b1, o1 + i * 10 + 2, none⟩) (by simp; omega)); have qp3 := (hbq.cell (p := ⟨b1, o1 + i * 10 + 3, none⟩) (by simp; omega)); have qp4 := (hbq.cell (p := ⟨b1, o1 + i * 10 + 4, none⟩) (by simp; omega)); have qp5 := (hbq.cell (p := ⟨b1, o1 + i * 10 + 5, none⟩) (by simp; omega)); have qp6 := (hbq.cell (p := ⟨b1, o1 + i * 10 + 6, none⟩) (by simp; omega)); have qp7 := (hbq.cell (p := ⟨b1, o1 + i * 10 + 7, none⟩) (by simp; omega)); have qp8 := (hbq.cell (p := ⟨b1, o1 + i * 10 + 8, none⟩) (by simp; omega)); have qp9 := (hbq.cell (p := ⟨b1, o1 + i * 10 + 9, none⟩) (by simp; omega)); have qq0 := (hbq.cell (p := ⟨b2, o2 + i * 10, none⟩) (by simp; omega)); have qq1 := (hbq.cell (p := ⟨b2, o2 + i * 10 + 1, none⟩) (by simp; omega)); have qq2 := (hbq.cell (p := ⟨b2, o2 + i * 10 + 2, none⟩) (by simp; omega)); have qq3 := (hbq.cell (p := ⟨b2, o2 + i * 10 + 3, none⟩) (by simp; omega)); have qq4 := (hbq.cell (p := ⟨b2, o2 + i * 10 + 4, none⟩) (by simp; omega)); have qq5 := (hbq.cell (p := ⟨b2, o2 + i * 10 + 5, none⟩) (by simp; omega)); have qq6 := (hbq.cell (p := ⟨b2, o2 + i * 10 + 6, none⟩) (by simp; omega)); have qq7 := (hbq.cell (p := ⟨b2, o2 + i * 10 + 7, none⟩) (by simp; omega)); have qq8 := (hbq.cell (p := ⟨b2, o2 + i * 10 + 8, none⟩) (by simp; omega)); have qq9 := (hbq.cell (p := ⟨b2, o2 + i * 10 + 9, none⟩) (by simp; omega))))
      go_wp2
      go_roundw
      case rel => exact ⟨i + 1, by omega, by go_num, HB.out.trans (below_of_drew hbq hsz)⟩
      case measure => simp [intOf]; omega
    · go_wp2
      go_ret
      exact ⟨rfl, HB.out⟩


def marksE (k : Nat) (n : In.L) : In.L := { n with kind := ((k : Nat) : Int), mode := ((k + 1 : Nat) : Int), uid := ((k + 2 : Nat) : Int), gid := ((k + 3 : Nat) : Int), links := ((k + 4 : Nat) : Int), size := ((k + 5 : Nat) : Int), tick := ((k + 6 : Nat) : Int), blocks := NiF.marks (k + 7) n.blocks, acl := AeF.marks (k + 7 + NiF.wid n.blocks) n.acl, dflt := AeF.marks (k + 7 + NiF.wid n.blocks + AeF.wid n.acl) n.dflt }
def widE (n : In.L) : Nat := 7 + NiF.wid n.blocks + AeF.wid n.acl + AeF.wid n.dflt
def marks : Nat → L → L
  | _, [] => []
  | k, x :: r => marksE k x :: marks (k + widE x) r
def wid (l : L) : Nat := (l.map widE).sum
theorem wid_cons (x : In.L) (r : L) : wid (x :: r) = widE x + wid r := by simp [wid]
theorem wid_app (a b : L) : wid (a ++ b) = wid a + wid b := by simp [wid]
theorem wid_snoc (l : L) (i : Nat) (h : i < l.length) : wid (l.take (i + 1)) = wid (l.take i) + widE (l.getD i z0) := by
  rw [List.take_succ_eq_append_getElem h, wid_app]
  simp [wid, List.getD, List.getElem?_eq_getElem h]
theorem wid_take_le (l : L) (i : Nat) : wid (l.take i) ≤ wid l := by
  have : wid l = wid (l.take i) + wid (l.drop i) := by rw [← wid_app, List.take_append_drop]
  omega
theorem widE_cost (n : In.L) : widE n ≤ 10 * (1 + In.cost n) := by
  unfold widE In.cost
  have h0 : NiF.wid n.blocks ≤ 3 * NiF.cost n.blocks := NiF.wid_cost _
  have h1 : AeF.wid n.acl ≤ 3 * AeF.cost n.acl := AeF.wid_cost _
  have h2 : AeF.wid n.dflt ≤ 3 * AeF.cost n.dflt := AeF.wid_cost _
  omega
theorem wid_cost (l : L) : wid l ≤ 10 * cost l := by
  induction l with
  | nil => simp [wid]
  | cons x r ih =>
    have h1 := widE_cost x
    have h2 : cost (x :: r) = 1 + In.cost x + cost r := by unfold cost csum; simp; omega
    rw [wid_cons, h2]
    omega
theorem wid_le {l : L} (h : cost l ≤ 1048576) : 1 + wid l ≤ 1073741824 := by have := wid_cost l; omega
theorem marks_length : ∀ (k : Nat) (l : L), (marks k l).length = l.length
  | _, [] => rfl
  | k, x :: r => by rw [marks, List.length_cons, List.length_cons, marks_length]
theorem marks_app : ∀ (k : Nat) (a b : L), marks k (a ++ b) = marks k a ++ marks (k + wid a) b
  | k, [], b => by simp [marks, wid]
  | k, x :: r, b => by
    rw [List.cons_append, marks, marks, List.cons_append, marks_app, wid_cons, Nat.add_assoc]
theorem marks_snoc (k : Nat) (l : L) (i : Nat) (h : i < l.length) : marks k (l.take (i + 1)) = marks k (l.take i) ++ [marksE (k + wid (l.take i)) (l.getD i z0)] := by
  rw [List.take_succ_eq_append_getElem h, marks_app]
  simp [marks, List.getD, List.getElem?_eq_getElem h]
theorem marks_getD (k : Nat) (l : L) (i : Nat) (h : i < l.length) : (marks k l).getD i z0 = marksE (k + wid (l.take i)) (l.getD i z0) := by
  have e : l = l.take i ++ (l.getD i z0 :: l.drop (i + 1)) := by
    rw [List.getD_eq_getElem?_getD, List.getElem?_eq_getElem h]
    simp
  have hl : (marks k (l.take i)).length = i := by rw [marks_length, List.length_take]; omega
  conv => lhs; rw [e]
  rw [marks_app, marks, List.getD_eq_getElem?_getD, List.getElem?_append_right (by omega), hl, Nat.sub_self]
  rfl
theorem apart_one {S : List Nat} {g : Nat} (h : g ∉ S) : Apart S [g] := fun z hz hz2 => by
  rw [List.mem_singleton] at hz2
  subst hz2
  exact h hz
/-- One element, in the middle of the list, has turned. -/
theorem own_mid {w w' : World} {base g : Nat} {done rest : List El} {e e' : El} {S : List Nat} (hS : S = fpR (.slice (some ⟨g, 0, none⟩) 0 0) ++ fps (done ++ e :: rest)) (hnd : S.Nodup) (hel : ∀ x ∈ done ++ e :: rest, In.Own w base x.2.1 x.1 x.2.2) (hc : Chg w w' (g :: e.2.2)) (he' : In.Own w' base e'.2.1 e'.1 e'.2.2) : ∀ x ∈ done ++ e' :: rest, In.Own w' base x.2.1 x.1 x.2.2 := by
  subst hS
  have hfp : fpR (.slice (some ⟨g, 0, none⟩) 0 0) = [g] := rfl
  rw [hfp, fps_app, show fps (e :: rest) = e.2.2 ++ fps rest from by simp [fps]] at hnd
  obtain ⟨_, h2, h3⟩ := nodup_parts hnd
  obtain ⟨_, h5, h6⟩ := nodup_parts h2
  obtain ⟨_, _, h9⟩ := nodup_parts h5
  have key : ∀ x : El, x ∈ done ∨ x ∈ rest → Apart x.2.2 (g :: e.2.2) := by
    intro x hx z hz hz2
    rcases List.mem_cons.1 hz2 with rfl | hz2
    · refine h3 z (by simp) ?_
      rcases hx with hx | hx
      · exact List.mem_append.2 (.inl (mem_fps hx hz))
      · exact List.mem_append.2 (.inr (List.mem_append.2 (.inr (mem_fps hx hz))))
    · rcases hx with hx | hx
      · exact h6 z (mem_fps hx hz) (List.mem_append.2 (.inl hz2))
      · exact h9 z hz2 (mem_fps hx hz)
  intro x hx
  rcases List.mem_append.1 hx with hx | hx
  · exact In.own_chg (hel x (List.mem_append.2 (.inl hx))) hc (key x (.inl hx))
  · rcases List.mem_cons.1 hx with rfl | hx
    · exact he'
    · exact In.own_chg (hel x (List.mem_append.2 (.inr (List.mem_cons.2 (.inr hx))))) hc (key x (.inr hx))

set_option maxRecDepth 100000 in
set_option maxHeartbeats 1000000 in
theorem mark_any (w : World) (base : Nat) (v : Value) (l : L) (S : List Nat) (k : Nat) (hk : 1 ≤ k) (hn : k + wid l ≤ 1073741824) (h : Own w base v l S) :
    Calls Tryz.prog 100 #[v, .int .i64 k] w fun e w' => e = .returned (.int .i64 (k + wid l : Nat)) ∧ Own w' base v (marks k l) S ∧ Chg w w' S := by
  obtain ⟨es, hns, hrow, hS, hnd, hel⟩ := h
  unfold Own
  rw [marks_length]
  have hesl : es.length = l.length := by rw [← hns, ns_length]
  have HWT := Lib.hid (wid_take_le l)
  have HWS := Lib.hid (wid_snoc l)
  have HMS := Lib.hid (marks_snoc k l)
  obtain ⟨M, hM⟩ : ∃ M, M = l.length := ⟨_, rfl⟩
  rw [← hM] at hrow hesl ⊢
  have hMl : M ≤ 1073741824 := by
    have : l.length ≤ wid l := by
      clear hM hns HWT HWS HMS hn
      induction l with
      | nil => simp
      | cons x r ih => rw [wid_cons, List.length_cons]; unfold widE; omega
    omega
  have HM := Lib.hid hM
  have HESL := Lib.hid hesl
  have HNS := Lib.hid hns
  clear hM hns hesl
  obtain ⟨N, hN⟩ : ∃ N, N = wid l := ⟨_, rfl⟩
  rw [← hN] at hn HWT ⊢
  have HN := Lib.hid hN
  clear hN
  by_cases h0 : M = 0
  · subst h0
    obtain rfl : es = [] := List.eq_nil_of_length_eq_zero HESL.out
    obtain rfl : l = [] := List.eq_nil_of_length_eq_zero HM.out.symm
    have hN0 : N = 0 := HN.out
    subst hN0
    have HO := Lib.hid hrow
    have HS := Lib.hid hS
    have HND := Lib.hid hnd
    obtain ⟨a, cap, rfl⟩ := Dk.slice_of hrow
    clear hrow hS hnd hel
    go_enter Tryz.func100, Tryz.ntmps100
    go_wp2
    refine wp_loop_rounds 1 ?_
    rw [rounds_succ]
    go_wp2
    go_ret
    exact ⟨by simp, ⟨[], rfl, HO.out, HS.out, HND.out, fun e he => by cases he⟩, Chg.refl _ _⟩
  · obtain ⟨g, cap, rfl, hbg⟩ : ∃ g cap, v = .slice (some ⟨g, 0, none⟩) M cap ∧ g < w.heap.size := by
      rcases hrow.2 with ⟨_, hz⟩ | ⟨g, cap, cur, rfl, _, hg, _⟩
      · exact absurd hz h0
      · exact ⟨g, cap, rfl, (Array.getElem?_eq_some_iff.1 hg).1⟩
    have HS := Lib.hid (show S = fpR (.slice (some ⟨g, 0, none⟩) 0 0) ++ fps es from hS)
    have HND := Lib.hid hnd
    have HO := Lib.hid hrow
    have HEL := Lib.hid hel
    clear hS hnd hrow hel h0
    go_enter Tryz.func100, Tryz.ntmps100
    go_wp2
    go_loopw [1, 5] (fun kv iv wr => ∃ (i : Nat) (done rest : List El), i ≤ M ∧ iv = .int .i64 i ∧ kv = .int .i64 ((k + wid (l.take i) : Nat)) ∧ done.length = i ∧ rest = es.drop i ∧ ns done = marks k (l.take i) ∧ fps done = fps (es.take i) ∧ wr.ownsRow base 34 10 (.slice (some ⟨g, 0, none⟩) M cap) M (cells (done ++ rest)) ∧ (∀ e ∈ done ++ rest, In.Own wr base e.2.1 e.1 e.2.2) ∧ Chg w wr S) (fun _ iv _ => M - (intOf iv).toNat)
    case atStart => exact ⟨0, [], es, Nat.zero_le _, rfl, by simp [wid], rfl, rfl, rfl, rfl, HO.out, HEL.out, Chg.refl _ _⟩
    case round =>
      obtain ⟨i, done, rest, hi, rfl, rfl, hdl, hrest, hnsd, hfpd, hrow, hel, hchg⟩ := hrel
      have HDL := Lib.hid hdl
      have HREST := Lib.hid hrest
      have HNSD := Lib.hid hnsd
      have HFPD := Lib.hid hfpd
      have HROW := Lib.hid hrow
      have HE := Lib.hid hel
      have HCH := Lib.hid hchg
      clear hdl hrest hnsd hfpd hrow hel hchg HO HEL
      by_cases hlt : i < M
      · have hlx : i < l.length := by rw [← HM.out]; exact hlt
        have hle : i < es.length := by rw [HESL.out]; exact hlt
        obtain ⟨e0, hr2⟩ : ∃ e0, rest = e0 :: es.drop (i + 1) ∧ e0 = es[i] := ⟨es[i], by rw [HREST.out, List.drop_eq_getElem_cons hle], rfl⟩
        obtain ⟨rfl, he0⟩ := hr2
        have hxe : l.getD i z0 = e0.1 := by
          rw [he0, ← HNS.out, List.getD_eq_getElem?_getD, ns, List.getElem?_map, List.getElem?_eq_getElem hle]; rfl
        have HTK := Lib.hid (show es.take (i + 1) = es.take i ++ [e0] from by rw [List.take_succ_eq_append_getElem hle, he0])
        have hws := HWS.out i hlx
        have hms := HMS.out i hlx
        have hwt := HWT.out (i + 1)
        rw [hxe] at hws hms
        obtain ⟨n0, y0, S00⟩ := e0
        have hme := HE.out (n0, y0, S00) (by simp)
        obtain ⟨r0, r1, r2, S0, S1, S2, hy, hSS, hndS, ho0, ho1, ho2⟩ := hme
        dsimp only at hy hSS hndS ho0 ho1 ho2 hws hms
        obtain ⟨a0, d0, rfl⟩ := NiF.own_form ho0
        obtain ⟨a1, d1, rfl⟩ := AeF.own_form ho1
        obtain ⟨a2, d2, rfl⟩ := AeF.own_form ho2
        subst hy
        obtain ⟨K, hK⟩ : ∃ K, K = k + wid (l.take i) := ⟨_, rfl⟩
        rw [← hK] at hms ⊢
        have HK := Lib.hid (show k + wid (l.take (i + 1)) = K + widE n0 by omega)
        have HKE := Lib.hid hK
        have hKl : K + widE n0 ≤ 1073741824 := by omega
        unfold widE at hKl
        have hK1 : 1 ≤ K := by omega
        have HMS2 := Lib.hid hms
        have HXE := Lib.hid hxe
        have HHE := Lib.hid he0
        have HSS := Lib.hid hSS
        have HNDS := Lib.hid hndS
        rw [hSS] at hndS
        have HND3 := Lib.hid hndS
        clear hws hms hwt hK hxe he0 hSS hndS
        have hcd : (cells done).length = i * 10 := by rw [cells_len (w := wr) (base := base) (fun e he => HE.out e (List.mem_append.2 (.inl he))), HDL.out]
        have hsp : cells (done ++ (n0, .agg #[.int .i64 n0.kind, .int .i64 n0.mode, .int .i64 n0.uid, .int .i64 n0.gid, .int .i64 n0.links, .int .i64 n0.size, .int .i64 n0.tick, .slice a0 n0.blocks.length d0, .slice a1 n0.acl.length d1, .slice a2 n0.dflt.length d2], S00) :: es.drop (i + 1)) = cells done ++ ([.int .i64 n0.kind, .int .i64 n0.mode, .int .i64 n0.uid, .int .i64 n0.gid, .int .i64 n0.links, .int .i64 n0.size, .int .i64 n0.tick, .slice a0 n0.blocks.length d0, .slice a1 n0.acl.length d1, .slice a2 n0.dflt.length d2] : List Value) ++ cells (es.drop (i + 1)) := by
          rw [cells_app, List.append_assoc]; rfl
        have hrow := HROW.out
        rw [hsp] at hrow
        have hlenr := hrow.1
        have hlr : i * 10 + 10 ≤ M * 10 := by have := Nat.mul_le_mul_right 10 (show i + 1 ≤ M by omega); rw [Nat.succ_mul] at this; omega
        have HSP := Lib.hid (show ((((((((cells done ++ ([.int .i64 n0.kind, .int .i64 n0.mode, .int .i64 n0.uid, .int .i64 n0.gid, .int .i64 n0.links, .int .i64 n0.size, .int .i64 n0.tick, .slice a0 n0.blocks.length d0, .slice a1 n0.acl.length d1, .slice a2 n0.dflt.length d2] : List Value) ++ cells (es.drop (i + 1))).set (i * 10) (.int .i64 (K : Int))).set (i * 10 + 1) (.int .i64 ((K : Int) + 1))).set (i * 10 + 2) (.int .i64 ((K : Int) + 2))).set (i * 10 + 3) (.int .i64 ((K : Int) + 3))).set (i * 10 + 4) (.int .i64 ((K : Int) + 4))).set (i * 10 + 5) (.int .i64 ((K : Int) + 5))).set (i * 10 + 6) (.int .i64 ((K : Int) + 6))) = cells (done ++ (marksE K n0, .agg #[.int .i64 (K : Int), .int .i64 ((K : Int) + 1), .int .i64 ((K : Int) + 2), .int .i64 ((K : Int) + 3), .int .i64 ((K : Int) + 4), .int .i64 ((K : Int) + 5), .int .i64 ((K : Int) + 6), .slice a0 n0.blocks.length d0, .slice a1 n0.acl.length d1, .slice a2 n0.dflt.length d2], S00) :: es.drop (i + 1)) from by
          have h1 := set_mid (cells done) [.int .i64 n0.kind, .int .i64 n0.mode, .int .i64 n0.uid, .int .i64 n0.gid, .int .i64 n0.links, .int .i64 n0.size, .int .i64 n0.tick] (([.slice a0 n0.blocks.length d0, .slice a1 n0.acl.length d1, .slice a2 n0.dflt.length d2] : List Value) ++ cells (es.drop (i + 1))) [.int .i64 (K : Int), .int .i64 ((K : Int) + 1), .int .i64 ((K : Int) + 2), .int .i64 ((K : Int) + 3), .int .i64 ((K : Int) + 4), .int .i64 ((K : Int) + 5), .int .i64 ((K : Int) + 6)] rfl
          rw [hcd] at h1
          rw [cells_app, show cells done ++ ([.int .i64 n0.kind, .int .i64 n0.mode, .int .i64 n0.uid, .int .i64 n0.gid, .int .i64 n0.links, .int .i64 n0.size, .int .i64 n0.tick, .slice a0 n0.blocks.length d0, .slice a1 n0.acl.length d1, .slice a2 n0.dflt.length d2] : List Value) ++ cells (es.drop (i + 1)) = cells done ++ ([.int .i64 n0.kind, .int .i64 n0.mode, .int .i64 n0.uid, .int .i64 n0.gid, .int .i64 n0.links, .int .i64 n0.size, .int .i64 n0.tick] : List Value) ++ (([.slice a0 n0.blocks.length d0, .slice a1 n0.acl.length d1, .slice a2 n0.dflt.length d2] : List Value) ++ cells (es.drop (i + 1))) from by simp only [List.append_assoc, List.cons_append, List.nil_append]]
          refine h1.trans ?_
          rw [List.append_assoc]; rfl)
        generalize hLS : (cells done ++ ([.int .i64 n0.kind, .int .i64 n0.mode, .int .i64 n0.uid, .int .i64 n0.gid, .int .i64 n0.links, .int .i64 n0.size, .int .i64 n0.tick, .slice a0 n0.blocks.length d0, .slice a1 n0.acl.length d1, .slice a2 n0.dflt.length d2] : List Value) ++ cells (es.drop (i + 1))) = ls at hrow hlenr HSP
        have HROW2 := Lib.hid hrow
        have HGR := Lib.hid (World.grownBy.refl wr (some g))
        have HLEN := Lib.hid hlenr
        have HCD := Lib.hid hcd
        clear hrow hlenr hcd
        have HSD := Lib.hid (show fps es = fps (done ++ (n0, .agg #[.int .i64 n0.kind, .int .i64 n0.mode, .int .i64 n0.uid, .int .i64 n0.gid, .int .i64 n0.links, .int .i64 n0.size, .int .i64 n0.tick, .slice a0 n0.blocks.length d0, .slice a1 n0.acl.length d1, .slice a2 n0.dflt.length d2], S00) :: es.drop (i + 1)) from by rw [fps_app, HFPD.out, ← fps_app, HHE.out, ← List.drop_eq_getElem_cons hle, List.take_append_drop])
        have hfull := HND.out
        rw [HS.out, HSD.out] at hfull
        have HFULL := Lib.hid hfull
        have hgS : g ∉ S00 := by
          intro hh
          rw [fps_app] at hfull
          exact (nodup_parts hfull).2.2 g (by simp [fpR, Value.ownBlock]) (List.mem_append.2 (.inr (by simp [fps, hh])))
        have hSsub : ∀ z ∈ g :: S00, z ∈ S := by
          intro z hz
          rw [HS.out]
          rcases List.mem_cons.1 hz with rfl | hz
          · simp [fpR, Value.ownBlock]
          · exact List.mem_append.2 (.inr (mem_fps (e := (n0, .agg #[.int .i64 n0.kind, .int .i64 n0.mode, .int .i64 n0.uid, .int .i64 n0.gid, .int .i64 n0.links, .int .i64 n0.size, .int .i64 n0.tick, .slice a0 n0.blocks.length d0, .slice a1 n0.acl.length d1, .slice a2 n0.dflt.length d2], S00)) (by rw [HHE.out]; exact List.getElem_mem hle) hz))
        have HSUB := Lib.hid hSsub
        rw [HSS.out] at hgS
        simp only [List.mem_append, not_or] at hgS
        have HGS := Lib.hid hgS
        clear hfull hSsub hgS hLS hsp
        have hc0 := HROW2.out.cellAt (i * 10) (by omega)
        obtain ⟨y0, hy0⟩ : ∃ y, ls[i * 10]? = some y := ⟨_, List.getElem?_eq_getElem (by have := HLEN.out; omega)⟩
        rw [hy0] at hc0
        have hf0 := HROW2.out.frozenAt (i * 10)
        clear hy0
        have hc1 := HROW2.out.cellAt (i * 10 + 1) (by omega)
        obtain ⟨y1, hy1⟩ : ∃ y, ls[i * 10 + 1]? = some y := ⟨_, List.getElem?_eq_getElem (by have := HLEN.out; omega)⟩
        rw [hy1] at hc1
        have hf1 := HROW2.out.frozenAt (i * 10 + 1)
        clear hy1
        have hc2 := HROW2.out.cellAt (i * 10 + 2) (by omega)
        obtain ⟨y2, hy2⟩ : ∃ y, ls[i * 10 + 2]? = some y := ⟨_, List.getElem?_eq_getElem (by have := HLEN.out; omega)⟩
        rw [hy2] at hc2
        have hf2 := HROW2.out.frozenAt (i * 10 + 2)
        clear hy2
        have hc3 := HROW2.out.cellAt (i * 10 + 3) (by omega)
        obtain ⟨y3, hy3⟩ : ∃ y, ls[i * 10 + 3]? = some y := ⟨_, List.getElem?_eq_getElem (by have := HLEN.out; omega)⟩
        rw [hy3] at hc3
        have hf3 := HROW2.out.frozenAt (i * 10 + 3)
        clear hy3
        have hc4 := HROW2.out.cellAt (i * 10 + 4) (by omega)
        obtain ⟨y4, hy4⟩ : ∃ y, ls[i * 10 + 4]? = some y := ⟨_, List.getElem?_eq_getElem (by have := HLEN.out; omega)⟩
        rw [hy4] at hc4
        have hf4 := HROW2.out.frozenAt (i * 10 + 4)
        clear hy4
        have hc5 := HROW2.out.cellAt (i * 10 + 5) (by omega)
        obtain ⟨y5, hy5⟩ : ∃ y, ls[i * 10 + 5]? = some y := ⟨_, List.getElem?_eq_getElem (by have := HLEN.out; omega)⟩
        rw [hy5] at hc5
        have hf5 := HROW2.out.frozenAt (i * 10 + 5)
        clear hy5
        have hc6 := HROW2.out.cellAt (i * 10 + 6) (by omega)
        obtain ⟨y6, hy6⟩ : ∃ y, ls[i * 10 + 6]? = some y := ⟨_, List.getElem?_eq_getElem (by have := HLEN.out; omega)⟩
        rw [hy6] at hc6
        have hf6 := HROW2.out.frozenAt (i * 10 + 6)
        clear hy6
        have hr0 := HROW.out.cellAt (i * 10 + 7) (by omega)
        rw [cells_app, List.getElem?_append_right (by have := HCD.out; omega), HCD.out, show i * 10 + 7 - i * 10 = 7 from by omega] at hr0
        replace hr0 : wr.cell? ⟨g, i * 10 + 7, none⟩ = some (.slice a0 n0.blocks.length d0) := hr0
        have hst0 := HROW2.out.stored (i * 10) (.int .i64 (K : Int))
        have hst1 := hst0.1.stored (i * 10 + 1) (.int .i64 ((K : Int) + 1))
        have hst2 := hst1.1.stored (i * 10 + 2) (.int .i64 ((K : Int) + 2))
        have hst3 := hst2.1.stored (i * 10 + 3) (.int .i64 ((K : Int) + 3))
        have hst4 := hst3.1.stored (i * 10 + 4) (.int .i64 ((K : Int) + 4))
        have hst5 := hst4.1.stored (i * 10 + 5) (.int .i64 ((K : Int) + 5))
        have hst6 := hst5.1.stored (i * 10 + 6) (.int .i64 ((K : Int) + 6))
        replace HGR := Lib.hid (grow_trans (grow_trans (grow_trans (grow_trans (grow_trans (grow_trans hst0.2 hst1.2) hst2.2) hst3.2) hst4.2) hst5.2) hst6.2)
        have hlast := hst6.1
        rw [HSP.out] at hlast
        have HL7 := Lib.hid hlast
        have hr1 := HL7.out.cellAt (i * 10 + 8) (by omega)
        rw [cells_app, List.getElem?_append_right (by have := HCD.out; omega), HCD.out, show i * 10 + 8 - i * 10 = 8 from by omega] at hr1
        replace hr1 : (((((((wr.setCell ⟨g, i * 10, none⟩ (.int .i64 (K : Int))).setCell ⟨g, i * 10 + 1, none⟩ (.int .i64 ((K : Int) + 1))).setCell ⟨g, i * 10 + 2, none⟩ (.int .i64 ((K : Int) + 2))).setCell ⟨g, i * 10 + 3, none⟩ (.int .i64 ((K : Int) + 3))).setCell ⟨g, i * 10 + 4, none⟩ (.int .i64 ((K : Int) + 4))).setCell ⟨g, i * 10 + 5, none⟩ (.int .i64 ((K : Int) + 5))).setCell ⟨g, i * 10 + 6, none⟩ (.int .i64 ((K : Int) + 6))).cell? ⟨g, i * 10 + 8, none⟩ = some (.slice a1 n0.acl.length d1) := hr1
        have HR1 := Lib.hid hr1
        clear hr1
        have hr2 := HL7.out.cellAt (i * 10 + 9) (by omega)
        rw [cells_app, List.getElem?_append_right (by have := HCD.out; omega), HCD.out, show i * 10 + 9 - i * 10 = 9 from by omega] at hr2
        replace hr2 : (((((((wr.setCell ⟨g, i * 10, none⟩ (.int .i64 (K : Int))).setCell ⟨g, i * 10 + 1, none⟩ (.int .i64 ((K : Int) + 1))).setCell ⟨g, i * 10 + 2, none⟩ (.int .i64 ((K : Int) + 2))).setCell ⟨g, i * 10 + 3, none⟩ (.int .i64 ((K : Int) + 3))).setCell ⟨g, i * 10 + 4, none⟩ (.int .i64 ((K : Int) + 4))).setCell ⟨g, i * 10 + 5, none⟩ (.int .i64 ((K : Int) + 5))).setCell ⟨g, i * 10 + 6, none⟩ (.int .i64 ((K : Int) + 6))).cell? ⟨g, i * 10 + 9, none⟩ = some (.slice a2 n0.dflt.length d2) := hr2
        have HR2 := Lib.hid hr2
        clear hr2
        clear HROW2 hlast hst0 hst1 hst2 hst3 hst4 hst5 hst6
        go_wp2_with fail
        rw [show ((K : Int) + 1 + 1) = (K : Int) + 2 from by omega]
        rw [show ((K : Int) + 2 + 1) = (K : Int) + 3 from by omega]
        rw [show ((K : Int) + 3 + 1) = (K : Int) + 4 from by omega]
        rw [show ((K : Int) + 4 + 1) = (K : Int) + 5 from by omega]
        rw [show ((K : Int) + 5 + 1) = (K : Int) + 6 from by omega]
        rw [show ((K : Int) + 6 + 1) = (K : Int) + 7 from by omega]
        clear hc0 hf0 hc1 hf1 hc2 hf2 hc3 hf3 hc4 hf4 hc5 hf5 hc6 hf6 hr0
        generalize (((((((wr.setCell ⟨g, i * 10, none⟩ (.int .i64 (K : Int))).setCell ⟨g, i * 10 + 1, none⟩ (.int .i64 ((K : Int) + 1))).setCell ⟨g, i * 10 + 2, none⟩ (.int .i64 ((K : Int) + 2))).setCell ⟨g, i * 10 + 3, none⟩ (.int .i64 ((K : Int) + 3))).setCell ⟨g, i * 10 + 4, none⟩ (.int .i64 ((K : Int) + 4))).setCell ⟨g, i * 10 + 5, none⟩ (.int .i64 ((K : Int) + 5))).setCell ⟨g, i * 10 + 6, none⟩ (.int .i64 ((K : Int) + 6))) = w0 at HL7 HGR HR1 HR2 ⊢
        have hr1 := HR1.out
        clear HR1
        have hr2 := HR2.out
        clear HR2
        have hch7 := Chg.of_grown HGR.out
        have HO0 := Lib.hid (NiF.own_chg ho0 hch7 (apart_one HGS.out.1.1))
        have HO1 := Lib.hid (AeF.own_chg ho1 hch7 (apart_one HGS.out.1.2))
        have HO2 := Lib.hid (AeF.own_chg ho2 hch7 (apart_one HGS.out.2))
        clear ho0 ho1 ho2
        have HCT := Lib.hid (show Chg wr w0 (g :: S00) from hch7.more (fun z hz => by simpa using Or.inl (by simpa using hz)))
        clear hch7 HGR
        first | rw [show ((K : Int) + 7) = ((K + 7 : Nat) : Int) from by omega] | skip
        refine (NiF.mark_any _ base _ n0.blocks S0 (K + 7) (by omega) (by omega) HO0.out).mono ?_
        rintro e w1 ⟨rfl, hown, hc⟩
        replace HO1 := Lib.hid (AeF.own_chg HO1.out hc ((nodup_parts (nodup_parts HND3.out).1).2.2).symm)
        replace HO2 := Lib.hid (AeF.own_chg HO2.out hc ((apart_app.1 (nodup_parts HND3.out).2.2).1).symm)
        replace HO0 := Lib.hid hown
        have hrw := row_chg HL7.out hc (Apart.symm (apart_one HGS.out.1.1))
        replace HL7 := Lib.hid hrw
        clear hrw
        replace HCT := Lib.hid (HCT.out.trans (hc.more (fun z hz => List.mem_cons.2 (.inr (by rw [HSS.out]; simp [hz])))))
        replace hr1 : w1.cell? ⟨g, i * 10 + 8, none⟩ = some (.slice a1 n0.acl.length d1) := by
          rw [hc.cell (p := ⟨g, i * 10 + 8, none⟩) (Dk.cell_block hr1) HGS.out.1.1]; exact hr1
        replace hr2 : w1.cell? ⟨g, i * 10 + 9, none⟩ = some (.slice a2 n0.dflt.length d2) := by
          rw [hc.cell (p := ⟨g, i * 10 + 9, none⟩) (Dk.cell_block hr2) HGS.out.1.1]; exact hr2
        clear hown hc
        go_wp2_with fail
        skip
        refine (AeF.mark_any _ base _ n0.acl S1 (K + 7 + NiF.wid n0.blocks) (by omega) (by omega) HO1.out).mono ?_
        rintro e w2 ⟨rfl, hown, hc⟩
        replace HO0 := Lib.hid (NiF.own_chg HO0.out hc (nodup_parts (nodup_parts HND3.out).1).2.2)
        replace HO2 := Lib.hid (AeF.own_chg HO2.out hc ((apart_app.1 (nodup_parts HND3.out).2.2).2).symm)
        replace HO1 := Lib.hid hown
        have hrw := row_chg HL7.out hc (Apart.symm (apart_one HGS.out.1.2))
        replace HL7 := Lib.hid hrw
        clear hrw
        replace HCT := Lib.hid (HCT.out.trans (hc.more (fun z hz => List.mem_cons.2 (.inr (by rw [HSS.out]; simp [hz])))))
        replace hr2 : w2.cell? ⟨g, i * 10 + 9, none⟩ = some (.slice a2 n0.dflt.length d2) := by
          rw [hc.cell (p := ⟨g, i * 10 + 9, none⟩) (Dk.cell_block hr2) HGS.out.1.2]; exact hr2
        clear hown hc
        go_wp2_with fail
        skip
        refine (AeF.mark_any _ base _ n0.dflt S2 (K + 7 + NiF.wid n0.blocks + AeF.wid n0.acl) (by omega) (by omega) HO2.out).mono ?_
        rintro e w3 ⟨rfl, hown, hc⟩
        replace HO0 := Lib.hid (NiF.own_chg HO0.out hc (apart_app.1 (nodup_parts HND3.out).2.2).1)
        replace HO1 := Lib.hid (AeF.own_chg HO1.out hc (apart_app.1 (nodup_parts HND3.out).2.2).2)
        replace HO2 := Lib.hid hown
        have hrw := row_chg HL7.out hc (Apart.symm (apart_one HGS.out.2))
        replace HL7 := Lib.hid hrw
        clear hrw
        replace HCT := Lib.hid (HCT.out.trans (hc.more (fun z hz => List.mem_cons.2 (.inr (by rw [HSS.out]; simp [hz])))))
        clear hown hc
        have HEN := Lib.hid (own_mid (S := S) (e := (n0, .agg #[.int .i64 n0.kind, .int .i64 n0.mode, .int .i64 n0.uid, .int .i64 n0.gid, .int .i64 n0.links, .int .i64 n0.size, .int .i64 n0.tick, .slice a0 n0.blocks.length d0, .slice a1 n0.acl.length d1, .slice a2 n0.dflt.length d2], S00)) (e' := (marksE K n0, .agg #[.int .i64 (K : Int), .int .i64 ((K : Int) + 1), .int .i64 ((K : Int) + 2), .int .i64 ((K : Int) + 3), .int .i64 ((K : Int) + 4), .int .i64 ((K : Int) + 5), .int .i64 ((K : Int) + 6), .slice a0 n0.blocks.length d0, .slice a1 n0.acl.length d1, .slice a2 n0.dflt.length d2], S00)) (by rw [HS.out, HSD.out]) HND.out HE.out HCT.out ⟨_, _, _, S0, S1, S2, rfl, HSS.out, HNDS.out, HO0.out, HO1.out, HO2.out⟩)
        go_wp2
        go_roundw
        case rel => exact ⟨i + 1, done ++ [(marksE K n0, .agg #[.int .i64 (K : Int), .int .i64 ((K : Int) + 1), .int .i64 ((K : Int) + 2), .int .i64 ((K : Int) + 3), .int .i64 ((K : Int) + 4), .int .i64 ((K : Int) + 5), .int .i64 ((K : Int) + 6), .slice a0 n0.blocks.length d0, .slice a1 n0.acl.length d1, .slice a2 n0.dflt.length d2], S00)], es.drop (i + 1), by omega, by go_num, by rw [HK.out]; unfold widE; go_num, by simp [HDL.out], rfl, by rw [HMS2.out, ← HNSD.out]; simp [ns], by rw [HTK.out, fps_app, fps_app, HFPD.out]; rfl, by rw [List.append_assoc]; exact HL7.out, by rw [List.append_assoc]; exact HEN.out, HCH.out.trans (HCT.out.more HSUB.out)⟩
        case measure => simp [intOf]; omega
      · obtain rfl : i = M := by omega
        have hr0 : rest = [] := by rw [HREST.out, List.drop_of_length_le (by rw [HESL.out]; exact Nat.le_refl _)]
        subst hr0
        have htk : l.take i = l := List.take_of_length_le (by rw [← HM.out]; exact Nat.le_refl _)
        have hte : es.take i = es := List.take_of_length_le (by rw [HESL.out]; exact Nat.le_refl _)
        have HA := Lib.hid (show wid (l.take i) = N by rw [htk, HN.out])
        have HF := Lib.hid (show ns done = marks k l by rw [HNSD.out, htk])
        have HG := Lib.hid (show fps done = fps es by rw [HFPD.out, hte])
        clear htk hte
        go_wp2
        go_ret
        have h1 := HROW.out
        have h2 := HE.out
        rw [List.append_nil] at h1 h2
        exact ⟨ret_int (by rw [HA.out]), ⟨done, HF.out, h1, by rw [HS.out, HG.out]; rfl, HND.out, h2⟩, HCH.out⟩


set_option maxRecDepth 100000 in
set_option maxHeartbeats 6400000 in
/-- The marks are found. -/
theorem held_any (w : World) (v : Value) (l : L) (k : Nat) (hk : 1 ≤ k) (hn : k + wid l ≤ 1073741824) (h : Holds w v (marks k l)) :
    Calls Tryz.prog 103 #[v, .int .i64 k] w fun e w' => e = .returned (.int .i64 (k + wid l : Nat)) ∧ Below w.heap.size w w' := by
  obtain ⟨a, cap, rfl, hle, hat⟩ := atL h
  rw [marks_length] at hle ⊢
  have hat2 : ∀ i, i < l.length → ∃ b o, a = some ⟨b, o, none⟩ ∧ b < w.heap.size ∧ ∃ r0 r1 r2 : Value, Cell w b (o + i * 10) (marksE (k + wid (l.take i)) (l.getD i z0)) r0 r1 r2 ∧ Parts w (marksE (k + wid (l.take i)) (l.getD i z0)) r0 r1 r2 := fun i hi => by
    have := hat i (by rw [marks_length]; exact hi)
    rw [marks_getD k l i hi] at this
    exact this
  have HC := Lib.hid hat2
  have HWT := Lib.hid (wid_take_le l)
  have HWS := Lib.hid (wid_snoc l)
  have hMl : l.length ≤ 1073741824 := by
    have : l.length ≤ wid l := by
      clear hn hat hat2 HC HWT HWS h hle
      induction l with
      | nil => simp
      | cons x r ih => rw [wid_cons, List.length_cons]; unfold widE; omega
    omega
  obtain ⟨M, hM⟩ : ∃ M, M = l.length := ⟨_, rfl⟩
  rw [← hM] at hle hMl ⊢
  have HM := Lib.hid hM
  obtain ⟨N, hN⟩ : ∃ N, N = wid l := ⟨_, rfl⟩
  rw [← hN] at hn HWT ⊢
  have HN := Lib.hid hN
  clear hN hM hat hat2 h
  go_enter Tryz.func103, Tryz.ntmps103
  go_wp2
  go_loopw [1, 5] (fun kv iv wr => ∃ i : Nat, i ≤ M ∧ iv = .int .i64 i ∧ kv = .int .i64 ((k + wid (l.take i) : Nat)) ∧ Below w.heap.size w wr) (fun _ iv _ => M - (intOf iv).toNat)
  case atStart => exact ⟨0, Nat.zero_le _, rfl, by simp [wid], Below.refl _ _⟩
  case round =>
    obtain ⟨i, hi, rfl, rfl, hbel⟩ := hrel
    have HB := Lib.hid hbel
    clear hbel
    by_cases hlt : i < M
    · have hlx : i < l.length := by rw [← HM.out]; exact hlt
      obtain ⟨b, o, rfl, hb, r0, r1, r2, hC, hP⟩ := HC.out i hlx
      obtain ⟨h0, h1, h2⟩ := parts_below hP HB.out
      obtain ⟨g0, g1, g2, g3, g4, g5, g6, g7, g8, g9⟩ := hC.below hb HB.out
      clear hC hP
      have hws := HWS.out i hlx
      have hwt := HWT.out (i + 1)
      generalize l.getD i z0 = n0 at g0 g1 g2 g3 g4 g5 g6 g7 g8 g9 h0 h1 h2 hws
      obtain ⟨K, hK⟩ : ∃ K, K = k + wid (l.take i) := ⟨_, rfl⟩
      rw [← hK] at g0 g1 g2 g3 g4 g5 g6 h0 h1 h2 ⊢
      have HK := Lib.hid (show k + wid (l.take (i + 1)) = K + widE n0 by omega)
      have hKl : K + widE n0 ≤ 1073741824 := by omega
      unfold widE at hKl
      have hK1 : 1 ≤ K := by omega
      clear hws hwt hK
      dsimp only [marksE] at g0 g1 g2 g3 g4 g5 g6 g7 g8 g9 h0 h1 h2
      rw [show ((K + 1 : Nat) : Int) = (K : Int) + 1 from by omega] at g1
      rw [show ((K + 2 : Nat) : Int) = (K : Int) + 2 from by omega] at g2
      rw [show ((K + 3 : Nat) : Int) = (K : Int) + 3 from by omega] at g3
      rw [show ((K + 4 : Nat) : Int) = (K : Int) + 4 from by omega] at g4
      rw [show ((K + 5 : Nat) : Int) = (K : Int) + 5 from by omega] at g5
      rw [show ((K + 6 : Nat) : Int) = (K : Int) + 6 from by omega] at g6
      obtain ⟨a0, d0, rfl⟩ := NiF.form h0
      have H0 := Lib.hid h0
      obtain ⟨a1, d1, rfl⟩ := AeF.form h1
      have H1 := Lib.hid h1
      obtain ⟨a2, d2, rfl⟩ := AeF.form h2
      have H2 := Lib.hid h2
      clear h0 h1 h2
      go_wp2_with fail
      first | rw [show ((K : Int) + 7) = ((K + 7 : Nat) : Int) from by omega] | skip
      refine (NiF.held_any _ _ n0.blocks (K + 7) (by omega) (by omega) H0.out).mono ?_
      rintro e w1 ⟨rfl, hbq⟩
      have HT := Lib.hid hbq
      replace HB := Lib.hid (HB.out.trans (hbq.mono HB.out.size))
      have p08 := hbq.cell (p := ⟨b, o + i * 10 + 8, none⟩) (Dk.cell_block g8)
      rw [g8] at p08
      have p09 := hbq.cell (p := ⟨b, o + i * 10 + 9, none⟩) (Dk.cell_block g9)
      rw [g9] at p09
      clear hbq
      go_wp2_with fail
      refine (AeF.held_any _ _ n0.acl (K + 7 + NiF.wid n0.blocks) (by omega) (by omega) (AeF.holds_below H1.out HT.out)).mono ?_
      rintro e w2 ⟨rfl, hbq⟩
      replace HT := Lib.hid (HT.out.trans (hbq.mono HT.out.size))
      replace HB := Lib.hid (HB.out.trans (hbq.mono HB.out.size))
      have p19 := hbq.cell (p := ⟨b, o + i * 10 + 9, none⟩) (Dk.cell_block p09)
      rw [p09] at p19
      clear hbq
      go_wp2_with fail
      refine (AeF.held_any _ _ n0.dflt (K + 7 + NiF.wid n0.blocks + AeF.wid n0.acl) (by omega) (by omega) (AeF.holds_below H2.out HT.out)).mono ?_
      rintro e w3 ⟨rfl, hbq⟩
      replace HT := Lib.hid (HT.out.trans (hbq.mono HT.out.size))
      replace HB := Lib.hid (HB.out.trans (hbq.mono HB.out.size))
      clear hbq
      go_wp2
      go_roundw
      case rel => exact ⟨i + 1, by omega, by go_num, by rw [HK.out]; unfold widE; go_num, HB.out⟩
      case measure => simp [intOf]; omega
    · obtain rfl : i = M := by omega
      have HA := Lib.hid (show wid (l.take i) = N by rw [List.take_of_length_le (by rw [← HM.out]; exact Nat.le_refl _), HN.out])
      go_wp2
      go_ret
      exact ⟨ret_int (by rw [HA.out]), HB.out⟩

set_option maxRecDepth 100000 in
/-- What cells that read as a list of the type hold. -/
theorem in_cell {H : Type} {enc : TypeId × Value → H} {W : World} {fuel : Nat} {v : Value} {x : DataW H × List MemPlace} (hf : DataW.trod enc Tryz.prog W 0 (fun _ => true) true fuel 57 [v] = some x) :
    ∃ l : L, Lim l ∧ Holds W v l := by
  rcases open_slice Tryz.underlying57 hf with ⟨hcs, _⟩ | ⟨a, l, c, mm, n, D, Pl, hcs, _, hl, hm, hmm, _, hi⟩
  · simp at hcs
    subst hcs
    exact ⟨[], ⟨Nat.zero_le _, fun x hx => by cases hx⟩, none, 0, rfl, Nat.le_refl _, fun i hi => by simp at hi⟩
  · simp at hcs
    subst hcs
    have hmc : mm = c := by simpa using hmm
    subst hmc
    have hel : ∀ i, i < l → ∃ (y : In.L) (r0 r1 r2 : Value), (W.cell? (a.add (i * 10)) = some (.int .i64 y.kind) ∧ W.cell? (a.add (i * 10 + 1)) = some (.int .i64 y.mode) ∧ W.cell? (a.add (i * 10 + 2)) = some (.int .i64 y.uid) ∧ W.cell? (a.add (i * 10 + 3)) = some (.int .i64 y.gid) ∧ W.cell? (a.add (i * 10 + 4)) = some (.int .i64 y.links) ∧ W.cell? (a.add (i * 10 + 5)) = some (.int .i64 y.size) ∧ W.cell? (a.add (i * 10 + 6)) = some (.int .i64 y.tick) ∧ W.cell? (a.add (i * 10 + 7)) = some (r0) ∧ W.cell? (a.add (i * 10 + 8)) = some (r1) ∧ W.cell? (a.add (i * 10 + 9)) = some (r2)) ∧ In.Lim y ∧ Parts W y r0 r1 r2 := by
      intro i hil
      obtain ⟨cs', hc, ht⟩ := hi i (by omega)
      rw [show Tryz.prog.cellsOf 170 = 10 from by kernel_rfl] at hc
      obtain ⟨_, hcl, hat⟩ := World.cells?_some hc
      obtain ⟨y, r0, r1, r2, rfl, hlim, hps⟩ := In.in_cells ht
      refine ⟨y, r0, r1, r2, ⟨?_, ?_, ?_, ?_, ?_, ?_, ?_, ?_, ?_, ?_⟩, hlim, hps⟩
      · have := hat 0 (by omega)
        rw [Addr.add_add] at this
        exact this
      · have := hat 1 (by omega)
        rw [Addr.add_add] at this
        exact this
      · have := hat 2 (by omega)
        rw [Addr.add_add] at this
        exact this
      · have := hat 3 (by omega)
        rw [Addr.add_add] at this
        exact this
      · have := hat 4 (by omega)
        rw [Addr.add_add] at this
        exact this
      · have := hat 5 (by omega)
        rw [Addr.add_add] at this
        exact this
      · have := hat 6 (by omega)
        rw [Addr.add_add] at this
        exact this
      · have := hat 7 (by omega)
        rw [Addr.add_add] at this
        exact this
      · have := hat 8 (by omega)
        rw [Addr.add_add] at this
        exact this
      · have := hat 9 (by omega)
        rw [Addr.add_add] at this
        exact this
    by_cases hl0 : l = 0
    · subst hl0
      exact ⟨[], ⟨Nat.zero_le _, fun x hx => by cases hx⟩, some a, mm, rfl, Nat.zero_le _, fun i hi => by simp at hi⟩
    obtain ⟨y, _, _, _, ⟨he0, _⟩, _⟩ := hel 0 (by omega)
    have hspot : a.spot = none := by simpa [Addr.add] using World.cell?_spot he0
    have hblk : a.block < W.heap.size := by simpa [Addr.add] using Dk.cell_block he0
    obtain ⟨bk, off, spot⟩ := a
    simp only at hspot hblk
    subst hspot
    obtain ⟨f, hfs⟩ := Classical.skolem.1 (show ∀ i, ∃ y : In.L, i < l → ∃ (r0 r1 r2 : Value), (W.cell? (Addr.add ⟨bk, off, none⟩ (i * 10)) = some (.int .i64 y.kind) ∧ W.cell? (Addr.add ⟨bk, off, none⟩ (i * 10 + 1)) = some (.int .i64 y.mode) ∧ W.cell? (Addr.add ⟨bk, off, none⟩ (i * 10 + 2)) = some (.int .i64 y.uid) ∧ W.cell? (Addr.add ⟨bk, off, none⟩ (i * 10 + 3)) = some (.int .i64 y.gid) ∧ W.cell? (Addr.add ⟨bk, off, none⟩ (i * 10 + 4)) = some (.int .i64 y.links) ∧ W.cell? (Addr.add ⟨bk, off, none⟩ (i * 10 + 5)) = some (.int .i64 y.size) ∧ W.cell? (Addr.add ⟨bk, off, none⟩ (i * 10 + 6)) = some (.int .i64 y.tick) ∧ W.cell? (Addr.add ⟨bk, off, none⟩ (i * 10 + 7)) = some (r0) ∧ W.cell? (Addr.add ⟨bk, off, none⟩ (i * 10 + 8)) = some (r1) ∧ W.cell? (Addr.add ⟨bk, off, none⟩ (i * 10 + 9)) = some (r2)) ∧ In.Lim y ∧ Parts W y r0 r1 r2 from fun i => by
      by_cases hil : i < l
      · obtain ⟨y, hy⟩ := hel i hil
        exact ⟨y, fun _ => hy⟩
      · exact ⟨z0, fun h => absurd h hil⟩)
    have hlen : ((List.range l).map f).length = l := by simp
    refine ⟨(List.range l).map f, ⟨show _ ≤ maxLen by rw [hlen]; omega, fun x hx => by
      obtain ⟨i, hi1, rfl⟩ := List.mem_map.1 hx
      obtain ⟨_, _, _, _, hlim, _⟩ := hfs i (List.mem_range.1 hi1)
      exact hlim⟩, some ⟨bk, off, none⟩, mm, by rw [hlen], by rw [hlen]; exact hl, fun j hj => ⟨bk, off, rfl, hblk, ?_⟩⟩
    rw [hlen] at hj
    obtain ⟨r0, r1, r2, hq, _, hp⟩ := hfs j hj
    simp only [Addr.add_lit] at hq
    have e : ((List.range l).map f).getD j z0 = f j := by
      rw [List.getD_eq_getElem?_getD, List.getElem?_map, List.getElem?_range hj]; rfl
    rw [e]
    exact ⟨r0, r1, r2, hq, hp⟩
set_option maxRecDepth 100000 in
theorem in_any {H : Type} {enc : TypeId × Value → H} {W : World} {b0 : Nat} {v : Value} {x : DataW H} {p : List MemPlace} (hv : Value.okWide Tryz.prog W .any b0 57 v) (h : DataW.Trod enc Tryz.prog W 0 (fun _ => true) true 57 v x p) :
    ∃ l : L, Lim l ∧ Holds W v l := by
  obtain ⟨a1, l0, c0, rfl⟩ := okWide_slice Tryz.underlying57 hv
  obtain ⟨fuel, hf⟩ := h
  exact in_cell hf
end Go.Proofs.YtafmpllkehbmeaaGreatDoor.IF
