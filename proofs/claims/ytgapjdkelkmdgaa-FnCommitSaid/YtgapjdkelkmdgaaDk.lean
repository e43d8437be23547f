/- Contracts of the law's own helpers over disks: their size, a copy of one, comparing two that read alike, marking one that the call owns, asking for the marks. Conditions: as each theorem types them. -/
import Derived.Test.YtgapjdkelkmdgaaWrTwo
import Derived.Test.YtgapjdkelkmdgaaSplitAnyLaw
import Derived.Lib.SmallJoins
import Derived.RangeFuncRecord
namespace Go.Proofs.Ytgapjdkelkmdgaa.Dk
open Go.ChangeShapes Go.WideShapes Go.ChangeAt Go.RowKit
open Strs (ret_int budgetOf total own_below)
open Wr (Wt wcells wcells_length datas datas_length)
set_option linter.unusedVariables false

/-- The blocks of lo up to hi may have turned; every other one is as it was. -/
structure Turned (w w' : World) (lo hi : Nat) : Prop where
  os : w'.os = w.os
  tape : w'.tape = w.tape
  output : w'.output = w.output
  size : w.heap.size ≤ w'.heap.size
  block : ∀ k, k < w.heap.size → (k < lo ∨ hi ≤ k) → w'.heap[k]? = w.heap[k]?
theorem Turned.of_below {w w' : World} {B : Nat} (h : Below B w w') (hB : w.heap.size ≤ B) (lo hi : Nat) : Turned w w' lo hi :=
  ⟨h.os, h.tape, h.output, h.size, fun k hk _ => h.block k (Nat.lt_of_lt_of_le hk hB)⟩
theorem Turned.below {w w' : World} {lo hi B : Nat} (h : Turned w w' lo hi) (hB : B ≤ lo) (hs : B ≤ w.heap.size) : Below B w w' :=
  ⟨h.os, h.tape, h.output, h.size, fun k hk => h.block k (Nat.lt_of_lt_of_le hk hs) (.inl (Nat.lt_of_lt_of_le hk hB))⟩
theorem Turned.refl (w : World) (lo hi : Nat) : Turned w w lo hi := ⟨rfl, rfl, rfl, Nat.le_refl _, fun _ _ _ => rfl⟩
theorem Turned.trans {a b c : World} {lo hi : Nat} (h1 : Turned a b lo hi) (h2 : Turned b c lo hi) : Turned a c lo hi :=
  ⟨h2.os.trans h1.os, h2.tape.trans h1.tape, h2.output.trans h1.output, Nat.le_trans h1.size h2.size, fun k hk hc => (h2.block k (Nat.lt_of_lt_of_le hk h1.size) hc).trans (h1.block k hk hc)⟩
theorem Turned.of_grown {w w' : World} {row : Option Nat} {lo hi : Nat} (h : w.grownBy w' row) (hr : ∀ k, row = some k → lo ≤ k ∧ k < hi) : Turned w w' lo hi :=
  ⟨h.os, h.tape, h.output, h.size, fun k hk hc => h.block k hk (fun e => by have := hr k e.symm; omega)⟩
/-- A row within the blocks of lo up to hi. -/
def RowIn (w : World) (lo hi : Nat) (e : TypeId) (size : Nat) (v : Value) (n : Nat) (xs : List Value) : Prop :=
  w.ownsRow lo e size v n xs ∧ ∀ k, v.ownBlock = some k → k < hi
theorem RowIn.turned {w w' : World} {lo hi lo' hi' : Nat} {e : TypeId} {size : Nat} {v : Value} {n : Nat} {xs : List Value} (h : RowIn w lo hi e size v n xs) (ht : Turned w w' lo' hi') (ha : hi ≤ lo' ∨ hi' ≤ lo) : RowIn w' lo hi e size v n xs := by
  refine ⟨⟨h.1.1, ?_⟩, h.2⟩
  rcases h.1.2 with hn | ⟨g, cap, cur, rfl, hb, hg, rest⟩
  · exact .inl hn
  · have := h.2 g rfl
    exact .inr ⟨g, cap, cur, rfl, hb, (ht.block g (Array.getElem?_eq_some_iff.1 hg).1 (by omega)).trans hg, rest⟩
theorem RowIn.below {w w' : World} {lo hi : Nat} {e : TypeId} {size : Nat} {v : Value} {n : Nat} {xs : List Value} (h : RowIn w lo hi e size v n xs) (hb : Below w.heap.size w w') : RowIn w' lo hi e size v n xs := ⟨own_below h.1 hb, h.2⟩
theorem RowIn.fresh {w : World} {lo : Nat} {e : TypeId} {size : Nat} {v : Value} {n : Nat} {xs : List Value} (h : w.ownsRow lo e size v n xs) : RowIn w lo w.heap.size e size v n xs := ⟨h, fun k hk => (h.lt k hk).2⟩
theorem RowIn.wide {w : World} {lo hi lo' hi' : Nat} {e : TypeId} {size : Nat} {v : Value} {n : Nat} {xs : List Value} (h : RowIn w lo hi e size v n xs) (h1 : lo' ≤ lo) (h2 : hi ≤ hi') : RowIn w lo' hi' e size v n xs :=
  ⟨⟨h.1.1, h.1.2.elim .inl (fun ⟨g, cap, cur, hv, hg, r⟩ => .inr ⟨g, cap, cur, hv, Nat.le_trans h1 hg, r⟩)⟩, fun k hk => Nat.lt_of_lt_of_le (h.2 k hk) h2⟩

/-- A disk: its sectors, its pending writes. -/
abbrev D := List ByteArray × List Wt
/-- The two slices hold the disk d. -/
def Holds (w : World) (vs vp : Value) (d : D) : Prop := Strs.Holds w vs d.1 ∧ Wr.Holds w vp d.2
theorem Holds.below {w w' : World} {vs vp : Value} {d : D} (h : Holds w vs vp d) (hb : Below w.heap.size w w') : Holds w' vs vp d := ⟨Strs.holds_below (B := 0) h.1 hb, Wr.holds_below (B := 0) h.2 hb⟩
/-- The two slices are rows within the blocks of lo up to hi, which hold the disk d. -/
def Own (w : World) (lo hi : Nat) (vs vp : Value) (d : D) : Prop :=
  RowIn w lo hi 9 1 vs d.1.length (d.1.map Value.string) ∧ RowIn w lo hi 39 2 vp d.2.length (wcells d.2)
theorem Own.holds {w : World} {lo hi : Nat} {vs vp : Value} {d : D} (h : Own w lo hi vs vp d) : Holds w vs vp d := ⟨Strs.holds_of_own h.1.1, Wr.holds_of_own h.2.1⟩
theorem Own.turned {w w' : World} {lo hi lo' hi' : Nat} {vs vp : Value} {d : D} (h : Own w lo hi vs vp d) (ht : Turned w w' lo' hi') (ha : hi ≤ lo' ∨ hi' ≤ lo) : Own w' lo hi vs vp d := ⟨h.1.turned ht ha, h.2.turned ht ha⟩
theorem Own.below {w w' : World} {lo hi : Nat} {vs vp : Value} {d : D} (h : Own w lo hi vs vp d) (hb : Below w.heap.size w w') : Own w' lo hi vs vp d := ⟨h.1.below hb, h.2.below hb⟩
/-- Rows of two element types lie in two blocks. -/
theorem own_two {w : World} {lo lo' : Nat} {e e' : TypeId} {size size' : Nat} {v v' : Value} {n n' : Nat} {xs xs' : List Value} (h : w.ownsRow lo e size v n xs) (h' : w.ownsRow lo' e' size' v' n' xs') (hne : e ≠ e') : v.ownBlock = none ∨ v.ownBlock ≠ v'.ownBlock := by
  rcases h.2 with ⟨rfl, _⟩ | ⟨g, cap, cur, rfl, _, hg, _⟩
  · exact .inl rfl
  · refine .inr fun hh => ?_
    rcases h'.2 with ⟨rfl, _⟩ | ⟨g', cap', cur', rfl, _, hg', _⟩
    · cases hh
    · have : g = g' := by simpa [Value.ownBlock] using hh
      subst this
      rw [hg] at hg'
      simp at hg'
      exact hne hg'.2

/-- A variable of a struct's type, boxed: its block, whole. -/
theorem blk_new (w : World) (o : Obj) : (w.alloc o).heap[w.heap.size]? = some o := World.alloc_heap_new w o
theorem blk_of {w w' : World} {B b : Nat} {o : Obj} (h : w.heap[b]? = some o) (hb : Below B w w') (hB : b < B) : w'.heap[b]? = some o := (hb.block b hB).trans h
theorem blk_alloc {w : World} {b : Nat} {o : Obj} (h : w.heap[b]? = some o) (o' : Obj) : (w.alloc o').heap[b]? = some o := (Below.heap_alloc w o' b (Array.getElem?_eq_some_iff.1 h).1).trans h
theorem blk_grown {w w' : World} {row : Option Nat} {b : Nat} {o : Obj} (h : w.heap[b]? = some o) (hg : w.grownBy w' row) (hne : some b ≠ row) : w'.heap[b]? = some o := (hg.block b (Array.getElem?_eq_some_iff.1 h).1 hne).trans h
theorem blk_set {w : World} {b : Nat} {o : Obj} (h : w.heap[b]? = some o) {p : Addr} (hp : b ≠ p.block) (u : Value) : (w.setCell p u).heap[b]? = some o := (Below.heap_setCell w p u b hp).trans h
theorem blk_two {w : World} {b : Nat} {x y : Value} {t : TypeId} (h : w.heap[b]? = some (.cells #[x, y] t (0, 0))) :
    w.cell? ⟨b, 0, none⟩ = some x ∧ w.cell? ⟨b, 1, none⟩ = some y ∧ w.frozen? ⟨b, 0, none⟩ = false ∧ w.frozen? ⟨b, 1, none⟩ = false :=
  ⟨by rw [Joins.cell_of_block h]; rfl, by rw [Joins.cell_of_block h]; rfl, Joins.unfrozen_of_block h 0, Joins.unfrozen_of_block h 1⟩
theorem blk_set0 {w : World} {b : Nat} {x y : Value} {t : TypeId} (h : w.heap[b]? = some (.cells #[x, y] t (0, 0))) (u : Value) : (w.setCell ⟨b, 0, none⟩ u).heap[b]? = some (.cells #[u, y] t (0, 0)) := Joins.block_setCell h u
theorem blk_set1 {w : World} {b : Nat} {x y : Value} {t : TypeId} (h : w.heap[b]? = some (.cells #[x, y] t (0, 0))) (u : Value) : (w.setCell ⟨b, 1, none⟩ u).heap[b]? = some (.cells #[x, u] t (0, 0)) := Joins.block_setCell h u

theorem slice_of {w : World} {lo : Nat} {e : TypeId} {size : Nat} {v : Value} {n : Nat} {xs : List Value} (h : w.ownsRow lo e size v n xs) : ∃ a c, v = .slice a n c := by
  rcases h.2 with ⟨rfl, h0⟩ | ⟨g, cap, cur, rfl, _⟩
  · exact ⟨none, 0, by rw [h0]⟩
  · exact ⟨_, _, rfl⟩

theorem Own.forms {w : World} {lo hi : Nat} {vs vp : Value} {d : D} (h : Own w lo hi vs vp d) : (∃ a n c, vs = .slice a n c) ∧ ∃ a n c, vp = .slice a n c := by
  obtain ⟨a, c, h1⟩ := slice_of h.1.1
  obtain ⟨a', c', h2⟩ := slice_of h.2.1
  exact ⟨⟨a, _, c, h1⟩, ⟨a', _, c', h2⟩⟩

/-- A boxed variable of two cells. -/
def Box (w : World) (b : Nat) (x y : Value) (t : TypeId) : Prop := w.heap[b]? = some (.cells #[x, y] t (0, 0))
theorem Box.below {w w' : World} {b : Nat} {x y : Value} {t : TypeId} (h : Box w b x y t) (hb : Below w.heap.size w w') : Box w' b x y t := (hb.block b (Array.getElem?_eq_some_iff.1 h).1).trans h
theorem Box.turned {w w' : World} {b lo hi : Nat} {x y : Value} {t : TypeId} (h : Box w b x y t) (ht : Turned w w' lo hi) (ha : b < lo ∨ hi ≤ b) : Box w' b x y t := (ht.block b (Array.getElem?_eq_some_iff.1 h).1 ha).trans h
theorem Box.cells {w : World} {b : Nat} {x y : Value} {t : TypeId} (h : Box w b x y t) : w.cell? ⟨b, 0, none⟩ = some x ∧ w.cell? ⟨b, 1, none⟩ = some y := ⟨(blk_two h).1, (blk_two h).2.1⟩
theorem Box.lt {w : World} {b : Nat} {x y : Value} {t : TypeId} (h : Box w b x y t) : b < w.heap.size := (Array.getElem?_eq_some_iff.1 h).1

def cost (d : D) : Nat := d.1.length + total d.1 + (d.2.length + total (datas d.2))
def costOf (d : D) (left : Nat) : Int := if cost d ≤ left then ((left - cost d : Nat) : Int) else -1

set_option maxRecDepth 100000 in
set_option maxHeartbeats 400000 in
theorem sz_any (w : World) (vs vp : Value) (d : D) (left : Nat) (hleft : left ≤ 1073741824) (h1 : d.1.length ≤ maxLen) (h2 : ∀ x ∈ d.1, x.size ≤ maxLen) (h3 : d.2.length ≤ maxLen) (h4 : ∀ x ∈ d.2, x.2.size ≤ maxLen) (h : Holds w vs vp d) :
    Calls Try.prog 27 #[.agg #[vs, vp], .int .i64 left] w fun e w' => e = .returned (.int .i64 (costOf d left)) ∧ Below w.heap.size w w' := by
  have H := Lib.hid h
  have H1 := Lib.hid h1
  have H2 := Lib.hid h2
  have H3 := Lib.hid h3
  have H4 := Lib.hid h4
  have hb0 := (Below.refl w.heap.size w).alloc (Nat.le_refl _) (.cells #[vs, vp] 50)
  have HB := Lib.hid hb0
  clear h h1 h2 h3 h4 hb0
  by_cases hc : d.1.length + total d.1 ≤ left
  · have hz := Lib.hid (show budgetOf d.1 left = ((left - d.1.length - total d.1 : Nat) : Int) by rw [budgetOf, if_pos hc])
    obtain ⟨r, hr⟩ : ∃ r, r = left - d.1.length - total d.1 := ⟨_, rfl⟩
    have hr1 : r ≤ 1073741824 := by omega
    by_cases hc2 : d.2.length + total (datas d.2) ≤ r
    · have hz2 := Lib.hid (show budgetOf (datas d.2) r = ((r - d.2.length - total (datas d.2) : Nat) : Int) by rw [budgetOf, if_pos (by rw [datas_length]; exact hc2), datas_length])
      have hfin := Lib.hid (show costOf d left = ((r - d.2.length - total (datas d.2) : Nat) : Int) by rw [costOf, cost, if_pos (by omega)]; congr 1; omega)
      generalize r - d.2.length - total (datas d.2) = q at hz2 hfin
      have HR := Lib.hid hr
      clear hr hc hc2
      go_enter Try.func27, Try.ntmps27
      go_wp2_with fail
      refine (Strs.sz_any _ vs d.1 left hleft H1.out H2.out (H.out.below HB.out).1).mono ?_
      rintro e w1 ⟨rfl, rfl⟩
      rw [hz.out, ← HR.out]
      go_wp2_with fail
      refine (Wr.sz_any _ vp d.2 r hr1 H3.out H4.out (H.out.below HB.out).2).mono ?_
      rintro e w1 ⟨rfl, hb1⟩
      rw [hz2.out]
      go_wp2
      go_ret
      exact ⟨ret_int hfin.out.symm, HB.out.trans (hb1.mono HB.out.size)⟩
    · have hz2 := Lib.hid (show budgetOf (datas d.2) r = -1 by rw [budgetOf, if_neg (by rw [datas_length]; exact hc2)])
      have hfin := Lib.hid (show costOf d left = -1 by rw [costOf, cost, if_neg (by omega)])
      have HR := Lib.hid hr
      clear hr hc hc2
      go_enter Try.func27, Try.ntmps27
      go_wp2_with fail
      refine (Strs.sz_any _ vs d.1 left hleft H1.out H2.out (H.out.below HB.out).1).mono ?_
      rintro e w1 ⟨rfl, rfl⟩
      rw [hz.out, ← HR.out]
      go_wp2_with fail
      refine (Wr.sz_any _ vp d.2 r hr1 H3.out H4.out (H.out.below HB.out).2).mono ?_
      rintro e w1 ⟨rfl, hb1⟩
      rw [hz2.out]
      go_wp2
      go_ret
      exact ⟨ret_int hfin.out.symm, HB.out.trans (hb1.mono HB.out.size)⟩
  · have hz := Lib.hid (show budgetOf d.1 left = -1 by rw [budgetOf, if_neg hc])
    have hfin := Lib.hid (show costOf d left = -1 by rw [costOf, cost, if_neg (by omega)])
    clear hc
    go_enter Try.func27, Try.ntmps27
    go_wp2_with fail
    refine (Strs.sz_any _ vs d.1 left hleft H1.out H2.out (H.out.below HB.out).1).mono ?_
    rintro e w1 ⟨rfl, rfl⟩
    rw [hz.out]
    go_wp2
    go_ret
    exact ⟨ret_int hfin.out.symm, HB.out⟩

set_option maxRecDepth 100000 in
set_option maxHeartbeats 400000 in
/-- A copy, in rows of the call's own. -/
theorem to_any (w : World) (vs vp : Value) (d : D) (h1 : d.1.length ≤ 1073741824) (h2 : d.2.length ≤ 1073741824) (h : Holds w vs vp d) :
    Calls Try.prog 30 #[.agg #[vs, vp]] w fun e w' => ∃ us up, e = .returned (.agg #[us, up]) ∧ Own w' w.heap.size w'.heap.size us up d ∧ Below w.heap.size w w' := by
  have H := Lib.hid h
  clear h
  go_enter Try.func30, Try.ntmps30
  go_wp2_with fail
  have hb0 := (((Below.refl w.heap.size w).alloc (Nat.le_refl _) (.cells #[vs, vp] 50)).alloc (by simp) (.cells #[.slice none 0 0, .slice none 0 0] 26)).alloc (by simp; omega) (.cells #[.slice none 0 0, .slice none 0 0] 26)
  have hA := blk_alloc (blk_alloc (blk_new w (.cells #[vs, vp] 50)) (.cells #[.slice none 0 0, .slice none 0 0] 26)) (.cells #[.slice none 0 0, .slice none 0 0] 26)
  have hR := blk_alloc (blk_new (w.alloc (.cells #[vs, vp] 50)) (.cells #[.slice none 0 0, .slice none 0 0] 26)) (.cells #[.slice none 0 0, .slice none 0 0] 26)
  have hO := blk_new ((w.alloc (.cells #[vs, vp] 50)).alloc (.cells #[.slice none 0 0, .slice none 0 0] 26)) (.cells #[.slice none 0 0, .slice none 0 0] 26)
  simp only [World.size_alloc] at hA hR hO
  generalize hW0 : ((w.alloc (.cells #[vs, vp] 50)).alloc (.cells #[.slice none 0 0, .slice none 0 0] 26)).alloc (.cells #[.slice none 0 0, .slice none 0 0] 26) = w0 at hb0 hA hR hO ⊢
  have hsz : w0.heap.size = w.heap.size + 1 + 1 + 1 := by rw [← hW0]; simp
  clear hW0
  have HB := Lib.hid hb0
  refine (Strs.to_any _ vs d.1 h1 (H.out.below HB.out).1).mono ?_
  rintro e w1 ⟨us, rfl, hown1, hb1⟩
  obtain ⟨ua, uc, rfl⟩ := slice_of hown1
  have hA1 := blk_of hA hb1 (by omega)
  have hR1 := blk_of hR hb1 (by omega)
  have hO1 := blk_of hO hb1 (by omega)
  have HB1 := Lib.hid (HB.out.trans (hb1.mono HB.out.size))
  have HOWN1 := Lib.hid hown1
  have hsz1 := hb1.size
  clear hb0 hA hR hO hown1 hb1
  obtain ⟨o0, o1, o2, o3⟩ := blk_two hO1
  generalize hU : Value.slice ua d.1.length uc = us at HOWN1 ⊢
  have hA2 := blk_set hA1 (p := ⟨w.heap.size + 1 + 1, 0, none⟩) (by simp; omega) us
  have hR2 := blk_set hR1 (p := ⟨w.heap.size + 1 + 1, 0, none⟩) (by simp) us
  have hO2 := blk_set0 hO1 us
  have HB2 := Lib.hid (HB1.out.setCell (p := ⟨w.heap.size + 1 + 1, 0, none⟩) (by simp; omega) us)
  have HOWN2 := Lib.hid (ownsRow_setCell_below HOWN1.out (a := ⟨w.heap.size + 1 + 1, 0, none⟩) (by simp; omega) us)
  have hsz2 : (w1.setCell ⟨w.heap.size + 1 + 1, 0, none⟩ us).heap.size = w1.heap.size := World.size_setCell ..
  obtain ⟨a0, a1, _, _⟩ := blk_two hA2
  have HBLK := Lib.hid (And.intro hA2 (And.intro hR2 hO2))
  subst hU
  clear hA1 hR1 hO1 hA2 hR2 hO2
  go_wp2_with fail
  refine (Wr.to_any _ vp d.2 h2 (H.out.below HB2.out).2).mono ?_
  rintro e w2 ⟨up, rfl, hown2, hb2⟩
  obtain ⟨va, vc, rfl⟩ := slice_of hown2
  rw [hsz2] at hb2 hown2
  have hR3 := blk_of HBLK.out.2.1 hb2 (by omega)
  have hO3 := blk_of HBLK.out.2.2 hb2 (by omega)
  have HB3 := Lib.hid (HB2.out.trans (hb2.mono (by have := HB1.out.size; omega)))
  have HOWN3 := Lib.hid (own_below HOWN2.out (by rw [hsz2]; exact hb2))
  have hszz := hb2.size
  rw [hsz2] at hszz
  have HP3 := Lib.hid hown2
  clear hown2 hb2 HBLK a0 a1 o0 o1 o2 o3
  obtain ⟨q0, q1, q2, q3⟩ := blk_two hO3
  obtain ⟨r0, r1, r2, r3⟩ := blk_two hR3
  have HQ := Lib.hid (And.intro hR3 hO3)
  clear hR3 hO3
  go_wp2
  have hF := blk_set1 (blk_set0 (blk_set HQ.out.1 (p := ⟨w.heap.size + 1 + 1, 1, none⟩) (by simp) (.slice va d.2.length vc)) (.slice ua d.1.length uc)) (.slice va d.2.length vc)
  have HB4 := ((HB3.out.setCell (p := ⟨w.heap.size + 1 + 1, 1, none⟩) (by simp; omega) (.slice va d.2.length vc)).setCell (p := ⟨w.heap.size + 1, 0, none⟩) (by simp) (.slice ua d.1.length uc)).setCell (p := ⟨w.heap.size + 1, 1, none⟩) (by simp) (.slice va d.2.length vc)
  have hU4 := ownsRow_setCell_below (ownsRow_setCell_below (ownsRow_setCell_below HOWN3.out (a := ⟨w.heap.size + 1 + 1, 1, none⟩) (by simp; omega) (.slice va d.2.length vc)) (a := ⟨w.heap.size + 1, 0, none⟩) (by simp; omega) (.slice ua d.1.length uc)) (a := ⟨w.heap.size + 1, 1, none⟩) (by simp; omega) (.slice va d.2.length vc)
  have hV4 := ownsRow_setCell_below (ownsRow_setCell_below (ownsRow_setCell_below HP3.out (a := ⟨w.heap.size + 1 + 1, 1, none⟩) (by simp; omega) (.slice va d.2.length vc)) (a := ⟨w.heap.size + 1, 0, none⟩) (by simp; omega) (.slice ua d.1.length uc)) (a := ⟨w.heap.size + 1, 1, none⟩) (by simp; omega) (.slice va d.2.length vc)
  generalize ((w2.setCell ⟨w.heap.size + 1 + 1, 1, none⟩ (.slice va d.2.length vc)).setCell ⟨w.heap.size + 1, 0, none⟩ (.slice ua d.1.length uc)).setCell ⟨w.heap.size + 1, 1, none⟩ (.slice va d.2.length vc) = w4 at hF HB4 hU4 hV4 ⊢
  obtain ⟨c0, c1, _, _⟩ := blk_two hF
  refine bodyPost_ret (v := .agg #[.slice ua d.1.length uc, .slice va d.2.length vc]) (by simp [results, Try.results30, go_sem, c0, c1]) rfl ⟨_, _, rfl, ⟨?_, ?_⟩, HB4⟩
  · exact (RowIn.fresh hU4).wide (by omega) (Nat.le_refl _)
  · exact (RowIn.fresh hV4).wide (by omega) (Nat.le_refl _)

set_option maxRecDepth 100000 in
set_option maxHeartbeats 400000 in
theorem eq_any (w : World) (va vb vc vd : Value) (d : D) (h1 : d.1.length ≤ 1073741824) (h2 : d.2.length ≤ 1073741824) (h : Holds w va vb d) (h' : Holds w vc vd d) :
    Calls Try.prog 32 #[.agg #[va, vb], .agg #[vc, vd]] w fun e w' => e = .returned (.bool true) ∧ Below w.heap.size w w' := by
  have H := Lib.hid h
  have H' := Lib.hid h'
  clear h h'
  go_enter Try.func32, Try.ntmps32
  go_wp2_with fail
  have hb0 := ((Below.refl w.heap.size w).alloc (Nat.le_refl _) (.cells #[va, vb] 26)).alloc (by simp) (.cells #[vc, vd] 26)
  have HB := Lib.hid hb0
  clear hb0
  refine (Strs.eq_any _ va vc d.1 h1 (H.out.below HB.out).1 (H'.out.below HB.out).1).mono ?_
  rintro e w1 ⟨rfl, m, hw1⟩
  have HB1 := Lib.hid (show Below w.heap.size w w1 by rw [hw1]; exact SplitAny.below_drewN HB.out _)
  have hA := (blk_two (w := w1) (by rw [hw1]; exact blk_alloc (blk_new w (.cells #[va, vb] 26)) (.cells #[vc, vd] 26))).2.1
  have hB := (blk_two (w := w1) (by rw [hw1]; exact blk_new (w.alloc (.cells #[va, vb] 26)) (.cells #[vc, vd] 26))).2.1
  simp only [World.size_alloc] at hA hB
  clear hw1
  go_wp2_with fail
  refine (Wr.eq_any _ vb vd d.2 h2 (H.out.below HB1.out).2 (H'.out.below HB1.out).2).mono ?_
  rintro e w2 ⟨rfl, hb2⟩
  go_wp2
  go_ret
  exact ⟨rfl, HB1.out.trans (hb2.mono HB1.out.size)⟩

/-- The disk's marks, from number k on. -/
def marks (k : Nat) (d : D) : D := (Strs.marks k d.1.length, Wr.marks (k + d.1.length) d.2.length)
theorem marks_len (k : Nat) (d : D) : (marks k d).1.length = d.1.length ∧ (marks k d).2.length = d.2.length := ⟨Strs.marks_length _ _, Wr.marks_length _ _⟩
/-- The number behind the last mark. -/
def behind (k : Nat) (d : D) : Nat := k + d.1.length + 2 * d.2.length

set_option maxRecDepth 100000 in
set_option maxHeartbeats 400000 in
theorem mark_all (w : World) (lo hi : Nat) (vs vp : Value) (d : D) (k : Nat) (hk : 1 ≤ k) (hn : behind k d ≤ 1073741824) (hhi : hi ≤ w.heap.size) (h : Own w lo hi vs vp d) :
    Calls Try.prog 39 #[.agg #[vs, vp], .int .i64 k] w fun e w' => e = .returned (.int .i64 (behind k d : Nat)) ∧ Own w' lo hi vs vp (marks k d) ∧ Turned w w' lo hi := by
  have H := Lib.hid h
  have hap := own_two h.1.1 h.2.1 (by decide)
  have HAP := Lib.hid hap
  unfold behind at hn
  clear h hap
  go_enter Try.func39, Try.ntmps39
  go_wp2_with fail
  have HB := Lib.hid ((Below.refl w.heap.size w).alloc (Nat.le_refl _) (.cells #[vs, vp] 26))
  refine (Strs.mark_all _ lo vs d.1.length k d.1 hk (by omega) (own_below H.out.1.1 HB.out)).mono ?_
  rintro e w1 ⟨rfl, hown1, hg1⟩
  have HO1 := Lib.hid hown1
  have HT1 := Lib.hid (show Turned w w1 lo hi from (Turned.of_below HB.out (Nat.le_refl _) lo hi).trans (Turned.of_grown hg1 (fun q hq => ⟨((own_below H.out.1.1 HB.out).lt q hq).1, H.out.1.2 q hq⟩)))
  have HP1 := Lib.hid ((own_below H.out.2.1 HB.out).kept hg1 (HAP.out.elim (fun e => by rw [e]; cases vp.ownBlock <;> simp) (fun hne => .inr (Ne.symm hne))))
  clear hown1
  have hcell := (blk_two (blk_grown (blk_new w (.cells #[vs, vp] 26)) hg1 (fun e => by have := (H.out.1.1.lt w.heap.size e.symm).2; omega))).2.1
  clear hg1
  go_wp2_with fail
  rw [show ((k : Int) + (d.1.length : Int)) = ((k + d.1.length : Nat) : Int) from by omega]
  refine (Wr.mark_all _ lo vp d.2.length (k + d.1.length) d.2 (by omega) (by omega) HP1.out).mono ?_
  rintro e w2 ⟨rfl, hown2, hg2⟩
  have HO2 := Lib.hid hown2
  have HT2 := Lib.hid (HT1.out.trans (Turned.of_grown (lo := lo) (hi := hi) hg2 (fun q hq => ⟨(HP1.out.lt q hq).1, H.out.2.2 q hq⟩)))
  have HO12 := Lib.hid (World.ownsRow.kept HO1.out hg2 HAP.out)
  clear hown2 hg2
  go_wp2
  go_ret
  refine ⟨by unfold behind; go_num, ⟨⟨?_, H.out.1.2⟩, ⟨?_, H.out.2.2⟩⟩, HT2.out⟩
  · rw [(marks_len k d).1]; exact HO12.out
  · rw [(marks_len k d).2]; exact HO2.out

set_option maxRecDepth 100000 in
set_option maxHeartbeats 400000 in
theorem held_all (w : World) (vs vp : Value) (d : D) (k : Nat) (hk : 1 ≤ k) (hn : behind k d ≤ 1073741824) (h : Holds w vs vp (marks k d)) :
    Calls Try.prog 47 #[.agg #[vs, vp], .int .i64 k] w fun e w' => e = .returned (.int .i64 (behind k d : Nat)) ∧ Below w.heap.size w w' := by
  have H := Lib.hid h
  unfold behind at hn
  clear h
  go_enter Try.func47, Try.ntmps47
  go_wp2_with fail
  have HB := Lib.hid ((Below.refl w.heap.size w).alloc (Nat.le_refl _) (.cells #[vs, vp] 26))
  refine (Strs.held_all _ vs d.1.length k hk (by omega) (H.out.below HB.out).1).mono ?_
  rintro e w1 ⟨rfl, hb1⟩
  have HB1 := Lib.hid (HB.out.trans (hb1.mono HB.out.size))
  have hcell := (blk_two (blk_of (blk_new w (.cells #[vs, vp] 26)) hb1 (by simp))).2.1
  clear hb1
  go_wp2_with fail
  rw [show ((k : Int) + (d.1.length : Int)) = ((k + d.1.length : Nat) : Int) from by omega]
  refine (Wr.held_all _ vp d.2.length (k + d.1.length) (by omega) (by omega) (H.out.below HB1.out).2).mono ?_
  rintro e w2 ⟨rfl, hb2⟩
  go_wp2
  go_ret
  exact ⟨by unfold behind; go_num, HB1.out.trans (hb2.mono HB1.out.size)⟩
end Go.Proofs.Ytgapjdkelkmdgaa.Dk
