/- Contracts of the law's own helpers over credentials: their size, a copy of one, comparing two that read alike; what an argument of that type holds. Conditions: as each theorem types them. -/
import Derived.Test.YtjdehgadfjopiaaNi
import Derived.Test.YtjdehgadfjopiaaBx
import Derived.Test.YtjdehgadfjopiaaCredV
namespace Go.Proofs.Ytjdehgadfjopiaa.Cr
open Go.ChangeShapes Go.WideShapes Go.ChangeAt Go.RowKit Go.Deep
open Bx
open CredV (Cr)
open Strs (ret_int own_below)
open Ni (HoldsN)
set_option linter.unusedVariables false

def costOf (n left : Nat) : Int := if n ≤ left then ((left - n : Nat) : Int) else -1
theorem cost_pos {n left : Nat} (h : n ≤ left) : costOf n left = ((left - n : Nat) : Int) := if_pos h
theorem cost_neg {n left : Nat} (h : ¬ n ≤ left) : costOf n left = -1 := if_neg h

set_option maxRecDepth 100000 in
theorem sz_any (w : World) (u g : Int) (gv : Value) (l : List Int) (left : Nat) (hleft : left ≤ 1073741824) (hlen : l.length ≤ maxLen) (h : HoldsN w gv l) :
    Calls Try.prog 25 #[.agg #[.int .i64 u, .int .i64 g, gv], .int .i64 left] w fun e w' => e = .returned (.int .i64 (costOf l.length left)) ∧ Below w.heap.size w w' := by
  have H := Lib.hid h
  have HB := Lib.hid ((Below.refl w.heap.size w).alloc (Nat.le_refl _) (.cells #[.int .i64 u, .int .i64 g, gv] 41))
  clear h
  by_cases hc : l.length ≤ left
  · have HV := Lib.hid (cost_pos hc)
    have HZ := Lib.hid (show (if l.length ≤ left then ((left - l.length : Nat) : Int) else -1) = ((left - l.length : Nat) : Int) from if_pos hc)
    clear hc
    go_enter Try.func25, Try.ntmps25
    go_wp2_with fail
    refine (Ni.sz_any _ gv l left hleft hlen (Ni.holds_below H.out HB.out)).mono ?_
    rintro e w1 ⟨rfl, hb⟩
    rw [HZ.out]
    generalize left - l.length = q at HV ⊢
    replace HB := Lib.hid (HB.out.trans (hb.mono HB.out.size))
    clear hb
    go_wp2
    go_ret
    exact ⟨ret_int HV.out.symm, HB.out⟩
  · have HV := Lib.hid (cost_neg hc)
    have HZ := Lib.hid (show (if l.length ≤ left then ((left - l.length : Nat) : Int) else -1) = -1 from if_neg hc)
    clear hc
    go_enter Try.func25, Try.ntmps25
    go_wp2_with fail
    refine (Ni.sz_any _ gv l left hleft hlen (Ni.holds_below H.out HB.out)).mono ?_
    rintro e w1 ⟨rfl, hb⟩
    rw [HZ.out]
    replace HB := Lib.hid (HB.out.trans (hb.mono HB.out.size))
    clear hb
    go_wp2
    go_ret
    exact ⟨ret_int HV.out.symm, HB.out⟩

set_option maxRecDepth 100000 in
set_option maxHeartbeats 400000 in
/-- A copy, whose groups lie in a row of the call's own. -/
theorem to_any (w : World) (u g : Int) (gv : Value) (l : List Int) (hlen : l.length ≤ 1073741824) (h : HoldsN w gv l) :
    Calls Try.prog 27 #[.agg #[.int .i64 u, .int .i64 g, gv]] w fun e w' => ∃ gv', e = .returned (.agg #[.int .i64 u, .int .i64 g, gv']) ∧ w'.ownsRow w.heap.size 3 1 gv' l.length (l.map (Value.int .i64)) ∧ Below w.heap.size w w' := by
  have H := Lib.hid h
  clear h
  go_enter Try.func27, Try.ntmps27
  go_wp2_with fail
  have hb0 := (((Below.refl w.heap.size w).alloc (Nat.le_refl _) (.cells #[.int .i64 u, .int .i64 g, gv] 41)).alloc (by simp) (.cells #[.int .i64 0, .int .i64 0, .slice none 0 0] 25)).alloc (by simp; omega) (.cells #[.int .i64 u, .int .i64 g, .slice none 0 0] 25)
  have hA := ((new w #[.int .i64 u, .int .i64 g, gv] 41).alloc (.cells #[.int .i64 0, .int .i64 0, .slice none 0 0] 25)).alloc (.cells #[.int .i64 u, .int .i64 g, .slice none 0 0] 25)
  have hR := (new_at (w.alloc (.cells #[.int .i64 u, .int .i64 g, gv] 41)) #[.int .i64 0, .int .i64 0, .slice none 0 0] 25 (w.heap.size + 1) (by simp)).alloc (.cells #[.int .i64 u, .int .i64 g, .slice none 0 0] 25)
  have hO := new_at ((w.alloc (.cells #[.int .i64 u, .int .i64 g, gv] 41)).alloc (.cells #[.int .i64 0, .int .i64 0, .slice none 0 0] 25)) #[.int .i64 u, .int .i64 g, .slice none 0 0] 25 (w.heap.size + 1 + 1) (by simp)
  generalize hW0 : ((w.alloc (.cells #[.int .i64 u, .int .i64 g, gv] 41)).alloc (.cells #[.int .i64 0, .int .i64 0, .slice none 0 0] 25)).alloc (.cells #[.int .i64 u, .int .i64 g, .slice none 0 0] 25) = w0 at hb0 hA hR hO ⊢
  have hsz : w0.heap.size = w.heap.size + 1 + 1 + 1 := by rw [← hW0]; simp
  clear hW0
  have HB := Lib.hid hb0
  refine (Ni.to_any _ gv l hlen (Ni.holds_below H.out HB.out)).mono ?_
  rintro e w1 ⟨gs, rfl, hown, hb⟩
  obtain ⟨ga, gc, rfl⟩ := Dk.slice_of hown
  replace hA := hA.all hb
  replace hR := hR.all hb
  replace hO := hO.all hb
  replace HB := Lib.hid (HB.out.trans (hb.mono HB.out.size))
  have hsz1 := hb.size
  rw [hsz] at hown
  have HO := Lib.hid hown
  have hszb : w.heap.size + 1 + 1 < w1.heap.size := by omega
  have HA := Lib.hid hA
  have HR := Lib.hid hR
  have HQ := Lib.hid hO
  obtain ⟨r0, r1, r2⟩ := hR.three
  obtain ⟨s0, s1, s2⟩ := hR.frees
  obtain ⟨q0, q1, q2⟩ := Bk.three hO
  obtain ⟨p0, p1, p2⟩ := Bk.frees hO
  clear hb hown hb0 hsz hA hR hO hsz1
  go_wp2_with fail
  have hF := (((HR.out.far (p := ⟨w.heap.size + 1 + 1, 2, none⟩) (by simp) (.slice ga l.length gc)).set 0 (.int .i64 u)).set 1 (.int .i64 g)).set 2 (.slice ga l.length gc)
  have hB4 := ((((HB.out.setCell (p := ⟨w.heap.size + 1 + 1, 2, none⟩) (by first | (simp; done) | (simp; omega)) (.slice ga l.length gc)).setCell (p := ⟨w.heap.size + 1, 0, none⟩) (by first | (simp; done) | (simp; omega)) (.int .i64 u)).setCell (p := ⟨w.heap.size + 1, 1, none⟩) (by first | (simp; done) | (simp; omega)) (.int .i64 g)).setCell (p := ⟨w.heap.size + 1, 2, none⟩) (by first | (simp; done) | (simp; omega)) (.slice ga l.length gc))
  have hO4 := (ownsRow_setCell_below (ownsRow_setCell_below (ownsRow_setCell_below (ownsRow_setCell_below HO.out (a := ⟨w.heap.size + 1 + 1, 2, none⟩) (by first | (simp; done) | (simp; omega)) (.slice ga l.length gc)) (a := ⟨w.heap.size + 1, 0, none⟩) (by first | (simp; done) | (simp; omega)) (.int .i64 u)) (a := ⟨w.heap.size + 1, 1, none⟩) (by first | (simp; done) | (simp; omega)) (.int .i64 g)) (a := ⟨w.heap.size + 1, 2, none⟩) (by first | (simp; done) | (simp; omega)) (.slice ga l.length gc))
  generalize ((((w1.setCell ⟨w.heap.size + 1 + 1, 2, none⟩ (.slice ga l.length gc)).setCell ⟨w.heap.size + 1, 0, none⟩ (.int .i64 u)).setCell ⟨w.heap.size + 1, 1, none⟩ (.int .i64 g)).setCell ⟨w.heap.size + 1, 2, none⟩ (.slice ga l.length gc)) = w4 at hF hB4 hO4 ⊢
  obtain ⟨c0, c1, c2⟩ := Bk.three hF
  exact bodyPost_ret (v := .agg #[.int .i64 u, .int .i64 g, (.slice ga l.length gc)]) (by simp [results, Try.results27, go_sem, c0, c1, c2]) rfl ⟨_, rfl, SplitAny.own_mono hO4 (by omega), hB4⟩

set_option maxRecDepth 100000 in
set_option maxHeartbeats 400000 in
/-- Two that read alike are found equal. -/
theorem eq_any (w : World) (u g : Int) (ga gb : Value) (l : List Int) (hlen : l.length ≤ 1073741824) (h : HoldsN w ga l) (h' : HoldsN w gb l) :
    Calls Try.prog 28 #[.agg #[.int .i64 u, .int .i64 g, ga], .agg #[.int .i64 u, .int .i64 g, gb]] w fun e w' => e = .returned (.bool true) ∧ Below w.heap.size w w' := by
  have HB := Lib.hid (((Below.refl w.heap.size w).alloc (Nat.le_refl _) (.cells #[.int .i64 u, .int .i64 g, ga] 25)).alloc (by simp) (.cells #[.int .i64 u, .int .i64 g, gb] 25))
  have H := Lib.hid h
  have H' := Lib.hid h'
  clear h h'
  go_enter Try.func28, Try.ntmps28
  go_wp2_with fail
  refine (Ni.eq_any _ ga gb l hlen (Ni.holds_below H.out HB.out) (Ni.holds_below H'.out HB.out)).mono ?_
  rintro e w1 ⟨rfl, hb⟩
  replace HB := Lib.hid (HB.out.trans (hb.mono HB.out.size))
  clear hb
  go_wp2
  go_ret
  exact ⟨rfl, HB.out⟩

/-- What an argument of that type offers. -/
structure In (w : World) (gv : Value) (l : List Int) : Prop where
  len : l.length ≤ maxLen
  holds : HoldsN w gv l
set_option maxRecDepth 100000 in
theorem ints_in {H : Type} {enc : TypeId × Value → H} {W : World} {fuel : Nat} {v : Value} {x : DataW H × List MemPlace} (hf : DataW.trod enc Try.prog W 0 (fun _ => true) true fuel 23 [v] = some x) :
    ∃ l : List Int, In W v l := by
  rcases open_slice Try.underlying23 hf with ⟨hcs, _⟩ | ⟨a, l, c, m, n, D, Pl, hcs, _, hl, hm, hmm, _, hi⟩
  · simp at hcs
    subst hcs
    exact ⟨[], by simp, none, 0, rfl, fun i hi => by simp at hi⟩
  · simp at hcs
    subst hcs
    have hmc : m = c := by simpa using hmm
    subst hmc
    have hel : ∀ i, i < l → ∃ y : Int, W.cell? (a.add i) = some (.int .i64 y) := by
      intro i hil
      obtain ⟨cs', hc, ht⟩ := hi i (by omega)
      rw [show Try.prog.cellsOf 3 = 1 from by kernel_rfl] at hc
      obtain ⟨_, hcl, hat⟩ := World.cells?_some hc
      obtain ⟨y, hy, _, _⟩ := DataW.trod_int Try.underlying3 ht
      have e0 := hat 0 (by omega)
      rw [Addr.add_add, hy] at e0
      exact ⟨y, by simpa using e0⟩
    by_cases hl0 : l = 0
    · subst hl0
      exact ⟨[], by simp, some a, m, rfl, fun i hi => by simp at hi⟩
    obtain ⟨y, he0⟩ := hel 0 (by omega)
    have hspot : a.spot = none := by simpa [Addr.add] using World.cell?_spot he0
    have hblk : a.block < W.heap.size := by simpa [Addr.add] using Dk.cell_block he0
    obtain ⟨bk, off, spot⟩ := a
    simp only at hspot hblk
    subst hspot
    obtain ⟨f, hfs⟩ := Classical.skolem.1 (show ∀ i, ∃ y : Int, i < l → W.cell? (Addr.add ⟨bk, off, none⟩ i) = some (.int .i64 y) from fun i => by
      by_cases hil : i < l
      · obtain ⟨y, hy⟩ := hel i hil
        exact ⟨y, fun _ => hy⟩
      · exact ⟨0, fun h => absurd h hil⟩)
    have hlen : ((List.range l).map f).length = l := by simp
    refine ⟨(List.range l).map f, by rw [hlen]; omega, some ⟨bk, off, none⟩, m, by rw [hlen], fun j hj => ⟨bk, off, rfl, hblk, ?_⟩⟩
    rw [hlen] at hj
    have q0 := hfs j hj
    rw [Addr.add_lit] at q0
    have e : ((List.range l).map f).getD j 0 = f j := by
      rw [List.getD_eq_getElem?_getD, List.getElem?_map, List.getElem?_range hj]; rfl
    rw [e]
    exact q0
set_option maxRecDepth 100000 in
theorem cred_of {H : Type} {enc : TypeId × Value → H} {W : World} {b0 : Nat} {v : Value} {x : DataW H} {p : List MemPlace} (hv : Value.okWide Try.prog W .any b0 41 v) (h : DataW.Trod enc Try.prog W 0 (fun _ => true) true 41 v x p) :
    ∃ (u g : Int) (gv : Value) (l : List Int), v = .agg #[.int .i64 u, .int .i64 g, gv] ∧ In W gv l := by
  obtain ⟨v0, v1, v2, y0, y1, y2, n, rfl, _, _, h0, h1, h2⟩ := Joins.open_agg3 Try.underlying41 (by kernel_rfl) (by kernel_rfl) hv h
  obtain ⟨u, hu, _, _⟩ := DataW.trod_int Try.underlying3 h0
  obtain ⟨g, hg, _, _⟩ := DataW.trod_int Try.underlying3 h1
  obtain ⟨l, hl⟩ := ints_in h2
  obtain rfl : v0 = .int .i64 u := by simpa using hu
  obtain rfl : v1 = .int .i64 g := by simpa using hg
  exact ⟨u, g, v2, l, rfl, hl⟩
end Go.Proofs.Ytjdehgadfjopiaa.Cr
