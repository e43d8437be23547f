/- Contracts: the library's Clone at both element types, the program's copyDisk and the model's copy of a disk: the same disk, in rows of the call's own. Conditions: the two lengths. -/
import Derived.Test.YtgapjdkelkmdgaaApp
import Derived.Lib.SliceRun
import Derived.Deep.RegionHeld3
namespace Go.Proofs.Ytgapjdkelkmdgaa.Copy
open Go.ChangeShapes Go.WideShapes Go.ChangeAt Go.RowKit
open Wr (Wt wcells wcells_length wcells_at d0 wrInfo)
open Strs (strInfo)
open Dk (D Holds Own RowIn)
open App (SrcRow src_strs src_wrs wpList_append_src)
set_option linter.unusedVariables false

set_option maxRecDepth 100000 in
set_option maxHeartbeats 400000 in
theorem cloneS_any (w : World) (v : Value) (xs : List ByteArray) (hlen : xs.length ≤ 1073741824) (h : Strs.Holds w v xs) :
    Calls Try.prog 109 #[v] w fun e w' => ∃ v', e = .returned v' ∧ w'.ownsRow w.heap.size 9 1 v' xs.length (xs.map Value.string) ∧ Below w.heap.size w w' := by
  obtain ⟨i0, hi, hz0, hz1, hz2⟩ := info_parts strInfo
  have q0 : ∀ (w : World) (a : Option Addr) (n c n' c' : Nat), (binOp .eql 23 (.slice a n c) (.slice none n' c')).run Try.prog w = .ok (.bool a.isNone) w := fun w a n c n' c' => Lib.run_eql_slice_nil w _ _ a n c n' c' Try.underlying23
  have hsrc := src_strs h
  obtain ⟨a, cap, rfl, hc⟩ := h
  clear hc
  cases a with
  | none =>
    have hx : xs = [] := by
      rcases hsrc with ⟨h0, _⟩ | ⟨ad, c, h0, _⟩
      · exact List.eq_nil_of_length_eq_zero h0
      · cases h0
    subst hx
    go_enter Try.func109, Try.ntmps109
    go_wp2
    go_ret
    exact ⟨_, rfl, World.ownsRow_nil _ _ _ _, Below.refl _ _⟩
  | some ad =>
    have HS := Lib.hid hsrc
    clear hsrc
    generalize xs.length = L at hlen HS ⊢
    go_enter Try.func109, Try.ntmps109
    go_wp2_with (at_builtin; refine wpList_append_src rfl _ _ 23 rfl w.heap.size 9 i0 (.string ⟨#[]⟩) 1 16 Try.underlying23 hi hz0 hz1 hz2 rfl (by decide) _ 0 [] rfl (World.ownsRow_made w #[] 0 (Nat.le_refl _) (Nat.zero_le _) rfl) L (xs.map Value.string) ?c1 ?c2 ?c3 ?c4 ?_)
    case c1 => exact HS.out.below (fun p u hp => by rw [World.cell?_alloc_some _ _ _ (by rw [hp]; rfl)]; exact hp)
    case c2 => unfold maxLen; omega
    case c3 => omega
    case c4 => simp
    intro a' c' w1 hown1 hg1
    have HO := Lib.hid hown1
    have HB := Lib.hid (show Below w.heap.size w w1 from ((Below.refl w.heap.size w).alloc (Nat.le_refl _) _).grown hg1 (by simp) (fun k hk => by simp [Value.ownBlock] at hk; omega))
    clear hown1 hg1
    go_wp2
    go_ret
    refine ⟨_, rfl, ?_, HB.out⟩
    have := HO.out
    simpa using this

set_option maxRecDepth 100000 in
set_option maxHeartbeats 400000 in
theorem cloneW_any (w : World) (v : Value) (xs : List Wt) (hlen : xs.length ≤ 1073741824) (h : Wr.Holds w v xs) :
    Calls Try.prog 110 #[v] w fun e w' => ∃ v', e = .returned v' ∧ w'.ownsRow w.heap.size 39 2 v' xs.length (wcells xs) ∧ Below w.heap.size w w' := by
  obtain ⟨i0, hi, hz0, hz1, hz2⟩ := info_parts wrInfo
  have q0 : ∀ (w : World) (a : Option Addr) (n c n' c' : Nat), (binOp .eql 24 (.slice a n c) (.slice none n' c')).run Try.prog w = .ok (.bool a.isNone) w := fun w a n c n' c' => Lib.run_eql_slice_nil w _ _ a n c n' c' Try.underlying24
  have hsrc := src_wrs h
  obtain ⟨a, cap, rfl, hc⟩ := h
  clear hc
  cases a with
  | none =>
    have hx : xs = [] := by
      rcases hsrc with ⟨h0, _⟩ | ⟨ad, c, h0, _⟩
      · exact List.eq_nil_of_length_eq_zero h0
      · cases h0
    subst hx
    go_enter Try.func110, Try.ntmps110
    go_wp2
    go_ret
    exact ⟨_, rfl, World.ownsRow_nil _ _ _ _, Below.refl _ _⟩
  | some ad =>
    have HS := Lib.hid hsrc
    clear hsrc
    generalize xs.length = L at hlen HS ⊢
    go_enter Try.func110, Try.ntmps110
    go_wp2_with (at_builtin; refine wpList_append_src rfl _ _ 24 rfl w.heap.size 39 i0 (.agg #[.int .i64 0, .string ⟨#[]⟩]) 2 24 Try.underlying24 hi hz0 hz1 hz2 rfl (by decide) _ 0 [] rfl (World.ownsRow_made w #[] 0 (Nat.le_refl _) (Nat.zero_le _) rfl) L (wcells xs) ?c1 ?c2 ?c3 ?c4 ?_)
    case c1 => exact HS.out.below (fun p u hp => by rw [World.cell?_alloc_some _ _ _ (by rw [hp]; rfl)]; exact hp)
    case c2 => unfold maxLen; omega
    case c3 => omega
    case c4 => simp
    intro a' c' w1 hown1 hg1
    have HO := Lib.hid hown1
    have HB := Lib.hid (show Below w.heap.size w w1 from ((Below.refl w.heap.size w).alloc (Nat.le_refl _) _).grown hg1 (by simp) (fun k hk => by simp [Value.ownBlock] at hk; omega))
    clear hown1 hg1
    go_wp2
    go_ret
    refine ⟨_, rfl, ?_, HB.out⟩
    have := HO.out
    simpa using this

theorem cells_keep {w w' : World} {b : Nat} {x y : Value} {t : TypeId} (h : Dk.Box w b x y t) (hb : Below w.heap.size w w') : w'.cell? ⟨b, 0, none⟩ = some x ∧ w'.cell? ⟨b, 1, none⟩ = some y ∧ w'.frozen? ⟨b, 0, none⟩ = false ∧ w'.frozen? ⟨b, 1, none⟩ = false := Dk.blk_two (h.below hb)
/-- The result's box is written: the two rows are as they were. -/
theorem put_two {w : World} {lo b : Nat} {x y u v : Value} {t : TypeId} {d : D} (hx : Dk.Box w b x y t) (hb : b < lo) (h : Own w lo w.heap.size u v d) (B : Nat) (w0 : World) (hB : B ≤ b) (hbel : Below B w0 w) :
    Dk.Box ((w.setCell ⟨b, 0, none⟩ u).setCell ⟨b, 1, none⟩ v) b u v t ∧ Own ((w.setCell ⟨b, 0, none⟩ u).setCell ⟨b, 1, none⟩ v) B ((w.setCell ⟨b, 0, none⟩ u).setCell ⟨b, 1, none⟩ v).heap.size u v d ∧ Below B w0 ((w.setCell ⟨b, 0, none⟩ u).setCell ⟨b, 1, none⟩ v) := by
  refine ⟨Dk.blk_set1 (Dk.blk_set0 hx u) v, ⟨?_, ?_⟩, (hbel.setCell (p := ⟨b, 0, none⟩) hB u).setCell (p := ⟨b, 1, none⟩) hB v⟩
  · exact (RowIn.fresh (ownsRow_setCell_below (ownsRow_setCell_below h.1.1 (a := ⟨b, 0, none⟩) hb u) (a := ⟨b, 1, none⟩) hb v)).wide (by omega) (Nat.le_refl _)
  · exact (RowIn.fresh (ownsRow_setCell_below (ownsRow_setCell_below h.2.1 (a := ⟨b, 0, none⟩) hb u) (a := ⟨b, 1, none⟩) hb v)).wide (by omega) (Nat.le_refl _)

set_option maxRecDepth 100000 in
set_option maxHeartbeats 1000000 in
theorem impl_any (w : World) (vs vp : Value) (d : D) (h1 : d.1.length ≤ 1073741824) (h2 : d.2.length ≤ 1073741824) (h : Holds w vs vp d) :
    Calls Try.prog 66 #[.agg #[vs, vp]] w fun e w' => ∃ us up, e = .returned (.agg #[us, up]) ∧ Own w' w.heap.size w'.heap.size us up d ∧ Below w.heap.size w w' := by
  have H := Lib.hid h
  clear h
  have hb0 := Joins.below_alloc2 w (.cells #[vs, vp] 26) (.cells #[.slice none 0 0, .slice none 0 0] 26)
  have hx := Dk.blk_alloc (Dk.blk_new w (.cells #[vs, vp] 26)) (.cells #[.slice none 0 0, .slice none 0 0] 26)
  have hr := Dk.blk_new (w.alloc (.cells #[vs, vp] 26)) (.cells #[.slice none 0 0, .slice none 0 0] 26)
  rw [World.size_alloc] at hr
  have hsz : ((w.alloc (.cells #[vs, vp] 26)).alloc (.cells #[.slice none 0 0, .slice none 0 0] 26)).heap.size = w.heap.size + 1 + 1 := by simp
  go_enter Try.func66, Try.ntmps66
  go_wp2
  generalize (w.alloc (.cells #[vs, vp] 26)).alloc (.cells #[.slice none 0 0, .slice none 0 0] 26) = w0 at hb0 hx hr hsz ⊢
  have HB := Lib.hid hb0.drew
  have BX := Lib.hid (show Dk.Box w0.drew w.heap.size vs vp 26 from hx)
  have BR := Lib.hid (show Dk.Box w0.drew (w.heap.size + 1) (.slice none 0 0) (.slice none 0 0) 26 from hr)
  obtain ⟨x0, x1, _, _⟩ := Dk.blk_two hx
  obtain ⟨r0, r1, r2, r3⟩ := Dk.blk_two hr
  clear hb0 hx hr
  go_region_held3 (fun w' => w'.cell? ⟨w.heap.size, 0, none⟩ = some vs ∧ w'.cell? ⟨w.heap.size, 1, none⟩ = some vp) (go_keep)
    (first | (go_at_call 109; refine (cloneS_any _ vs d.1 h1 (H.out.below HB.out).1).mono ?_; rintro e w1 ⟨us, rfl, hown1, hb1⟩; obtain ⟨ua, uc, rfl⟩ := Dk.slice_of hown1; have s1 := hb1.size; have HO1 := Lib.hid hown1; replace HB := Lib.hid (HB.out.trans (hb1.mono HB.out.size)); replace BX := Lib.hid (Dk.Box.below BX.out hb1); replace BR := Lib.hid (Dk.Box.below BR.out hb1); clear hown1 hb1; obtain ⟨y0, y1, _, _⟩ := Dk.blk_two BX.out; obtain ⟨z0, z1, z2, z3⟩ := Dk.blk_two BR.out)
           | (go_at_call 110; refine (cloneW_any _ vp d.2 h2 (H.out.below HB.out).2).mono ?_; rintro e w2 ⟨up, rfl, hown2, hb2⟩; obtain ⟨va, vc, rfl⟩ := Dk.slice_of hown2; have s2 := hb2.size; replace HO1 := Lib.hid (Strs.own_below HO1.out hb2); have HO2 := Lib.hid hown2; replace HB := Lib.hid (HB.out.trans (hb2.mono HB.out.size)); replace BX := Lib.hid (Dk.Box.below BX.out hb2); replace BR := Lib.hid (Dk.Box.below BR.out hb2); clear hown2 hb2; obtain ⟨p0, p1, _, _⟩ := Dk.blk_two BX.out; obtain ⟨q0, q1, q2, q3⟩ := Dk.blk_two BR.out))
  go_wp2
  obtain ⟨hF, hO, hBB⟩ := put_two (lo := w.heap.size + 1 + 1) (d := d) BR.out (by omega) ⟨(RowIn.fresh HO1.out).wide (Nat.le_of_eq hsz.symm) (Nat.le_refl _), (RowIn.fresh HO2.out).wide (by have : w0.heap.size ≤ w1.heap.size := s1; omega) (Nat.le_refl _)⟩ w.heap.size w (by omega) HB.out
  generalize (w2.setCell ⟨w.heap.size + 1, 0, none⟩ (.slice ua d.1.length uc)).setCell ⟨w.heap.size + 1, 1, none⟩ (.slice va d.2.length vc) = w4 at hF hO hBB ⊢
  obtain ⟨c0, c1⟩ := hF.cells
  exact bodyPost_ret (v := .agg #[.slice ua d.1.length uc, .slice va d.2.length vc]) (by simp [results, Try.results66, go_sem, c0, c1]) rfl ⟨_, _, rfl, hO, hBB⟩

theorem empty_own {w : World} {b base : Nat} {e : TypeId} {size : Nat} (h : w.heap[b]? = some (.cells #[] e (0, 0))) (hb : base ≤ b) : w.ownsRow base e size (.slice (some ⟨b, 0, none⟩) 0 0) 0 [] :=
  ⟨by simp, .inr ⟨b, 0, #[], rfl, hb, h, Nat.le_refl _, Nat.zero_le _, by simp, by simp⟩⟩
theorem step_append_src {P : Program} {ops : Array Oper} {o : Oper} {a : Act} {w : World} {K : Act → World → Prop} {Q : Exit → Act → World → Prop} {E : Prop} (hgd : o.guard = none) (s x : Operand) (t : TypeId)
    (ho : o.op = .call { callee := .builtin .append, args := #[s, x], argTypes := #[t, t] })
    (base : Nat) (e : TypeId) (i : TypeInfo) (z : Value) (size bytes : Nat) (ht : P.underlying t = some (.slice e)) (hi : P.info? e = some i) (hz : i.zero = some z)
    (hsize : i.size = size) (hby : i.bytes = bytes) (hzs : z.cells.size = size) (hsz : 0 < size)
    (v : Value) (n : Nat) (xs : List Value) (hs : a.eval s = v) (hown : w.ownsRow base e size v n xs)
    (m : Nat) (news : List Value) (hsrc : SrcRow w size (a.eval x) m news)
    (h63 : n + m ≤ maxLen) (hbytes : (n + m) * bytes ≤ 140737488355328) (hbase : base ≤ w.heap.size)
    (h : ∀ a' c' w', w'.ownsRow base e size (.slice a' (n + m) c') (n + m) (xs ++ news) → w.grownBy w' v.ownBlock → K (a.put o.dst (.slice a' (n + m) c')) w') :
    if Region.wanted o (yielded ops a.tmps) = true then Oper.wp P o a w K Q else E := by
  have hw : Region.wanted o (yielded ops a.tmps) = true := by simp [Region.wanted, hgd]
  rw [if_pos hw]
  rcases hsrc with ⟨rfl, rfl, c, hx⟩ | ⟨ad, c, hx, hl, hnews, h1⟩
  · have hr := App.run_append_nilsrc (P := P) w base t o.type e i size ht hi hsize v n xs hown c
    obtain ⟨a', c', rfl⟩ := Dk.slice_of hown
    unfold Oper.wp execOp
    simp only [ho, resolve, invoke, builtin, Sem.run_bind, Sem.run_pure, Result.andThen_ok, List.map_toArray, List.map_cons, List.map_nil, hs, hx, hr]
    have hh := h a' c' w (by simpa using hown) (World.grownBy.refl _ _)
    exact (show K (a.put o.dst (.slice a' n c')) w from by simpa using hh)
  · refine wp_append_own w s x t ho base e i z size bytes ht hi hz hsize hby hzs hsz v n xs hs hown ad m c news hx hl hnews h1 h63 hbytes hbase fun v' w' h2 h3 h4 => ?_
    obtain ⟨a', c', rfl⟩ := Dk.slice_of h2
    exact h a' c' w' h2 h3

theorem step_append_fresh {P : Program} {ops : Array Oper} {o : Oper} {a : Act} {w : World} {K : Act → World → Prop} {Q : Exit → Act → World → Prop} {E : Prop} (hgd : o.guard = none) (s x : Operand) (t : TypeId)
    (ho : o.op = .call { callee := .builtin .append, args := #[s, x], argTypes := #[t, t] })
    (base : Nat) (e : TypeId) (i : TypeInfo) (z : Value) (size bytes : Nat) (ht : P.underlying t = some (.slice e)) (hi : P.info? e = some i) (hz : i.zero = some z)
    (hsize : i.size = size) (hby : i.bytes = bytes) (hzs : z.cells.size = size) (hsz : 0 < size)
    (g : Nat) (hs : a.eval s = .slice (some ⟨g, 0, none⟩) 0 0) (hemp : w.heap[g]? = some (.cells #[] e (0, 0))) (hge : base ≤ g)
    (m : Nat) (news : List Value) (xv : Value) (hxv : a.eval x = xv) (hsrc : SrcRow w size xv m news)
    (h63 : m ≤ maxLen) (hbytes : m * bytes ≤ 140737488355328) (hbase : base ≤ w.heap.size)
    (h : ∀ a' c' w', w'.ownsRow base e size (.slice a' m c') m news → w.grownBy w' (some g) → w.heap[g]? = some (.cells #[] e (0, 0)) → K (a.put o.dst (.slice a' m c')) w') :
    if Region.wanted o (yielded ops a.tmps) = true then Oper.wp P o a w K Q else E := by
  subst hxv
  refine step_append_src hgd s x t ho base e i z size bytes ht hi hz hsize hby hzs hsz _ 0 [] hs (empty_own hemp hge) m news hsrc (by omega) (by rw [Nat.zero_add]; exact hbytes) hbase fun a' c' w' h1 h2 => ?_
  have hh := h a' c' w' (by simpa using h1) (by simpa [Value.ownBlock] using h2) hemp
  rw [Nat.zero_add]
  exact hh
theorem heap_drew (w : World) : w.drew.heap = w.heap := rfl
theorem kept2 {W w2 : World} {base g : Nat} {e e' : TypeId} {size : Nat} {v : Value} {n : Nat} {xs : List Value} (hg : W.grownBy w2 (some g)) (hem : W.heap[g]? = some (.cells #[] e' (0, 0))) (hne : e ≠ e') (ho : W.ownsRow base e size v n xs) : w2.ownsRow base e size v n xs :=
  ho.kept hg (Dk.own_two ho (empty_own (size := 1) hem (Nat.zero_le _)) hne)
theorem blk_gd {w w' : World} {row : Option Nat} {b : Nat} {o : Obj} (h : w.heap[b]? = some o) (hg : w.drew.grownBy w' row) (hne : some b ≠ row) : w'.heap[b]? = some o := Dk.blk_grown (w := w.drew) h hg hne
theorem blk_at {w : World} {o : Obj} {b : Nat} (h : b = w.heap.size) : (w.alloc o).heap[b]? = some o := by subst h; exact Dk.blk_new w o
theorem src_below {w w' : World} {size : Nat} {x : Value} {m : Nat} {news : List Value} (h : SrcRow w size x m news) (hb : Below w.heap.size w w') : SrcRow w' size x m news :=
  h.below (fun p u hp => by rw [hb.cell (World.block_lt_of_cell? w p hp)]; exact hp)

set_option maxRecDepth 100000 in
set_option maxHeartbeats 1000000 in
theorem spec_any (w : World) (vs vp : Value) (d : D) (h1 : d.1.length ≤ 1073741824) (h2 : d.2.length ≤ 1073741824) (h : Holds w vs vp d) :
    Calls Try.prog 100 #[.agg #[vs, vp]] w fun e w' => ∃ us up, e = .returned (.agg #[us, up]) ∧ Own w' w.heap.size w'.heap.size us up d ∧ Below w.heap.size w w' := by
  obtain ⟨i0, hi, hz0, hz1, hz2⟩ := info_parts strInfo
  obtain ⟨j0, hj, hy0, hy1, hy2⟩ := info_parts wrInfo
  have HS := Lib.hid (src_strs h.1)
  have HW := Lib.hid (src_wrs h.2)
  have HLT := Lib.hid h
  clear h
  have hb0 := Joins.below_alloc2 w (.cells #[vs, vp] 26) (.cells #[.slice none 0 0, .slice none 0 0] 26)
  have hx := Dk.blk_alloc (Dk.blk_new w (.cells #[vs, vp] 26)) (.cells #[.slice none 0 0, .slice none 0 0] 26)
  have hr := Dk.blk_new (w.alloc (.cells #[vs, vp] 26)) (.cells #[.slice none 0 0, .slice none 0 0] 26)
  rw [World.size_alloc] at hr
  have hsz : ((w.alloc (.cells #[vs, vp] 26)).alloc (.cells #[.slice none 0 0, .slice none 0 0] 26)).heap.size = w.heap.size + 1 + 1 := by simp
  go_enter Try.func100, Try.ntmps100
  go_wp2
  generalize (w.alloc (.cells #[vs, vp] 26)).alloc (.cells #[.slice none 0 0, .slice none 0 0] 26) = w0 at hb0 hx hr hsz ⊢
  have HB0 := Lib.hid hb0
  have HC := Lib.hid (Below.refl w0.heap.size w0)
  have BX := Lib.hid (show Dk.Box w0 w.heap.size vs vp 26 from hx)
  have BR := Lib.hid (show Dk.Box w0 (w.heap.size + 1) (.slice none 0 0) (.slice none 0 0) 26 from hr)
  obtain ⟨x0, x1, _, _⟩ := Dk.blk_two hx
  obtain ⟨r0, r1, r2, r3⟩ := Dk.blk_two hr
  clear hb0 hx hr
  go_region_held3 (fun w' => w'.cell? ⟨w.heap.size, 0, none⟩ = some vs ∧ w'.cell? ⟨w.heap.size, 1, none⟩ = some vp) (go_keep)
    (first | (refine step_append_fresh rfl _ _ 23 rfl w0.heap.size 9 i0 (.string ⟨#[]⟩) 1 16 Try.underlying23 hi hz0 hz1 hz2 rfl (by decide) _ rfl ?c1 ?c0 d.1.length (d.1.map Value.string) _ rfl ?c2 ?c3 ?c4 ?c5 ?_; (case c1 => exact (by (try simp only [heap_drew]); first | exact blk_at (by first | rfl | omega | (simp; done) | (simp; omega)) | exact Dk.blk_alloc (blk_at (by first | rfl | omega | (simp; done) | (simp; omega))) _)); (case c0 => (have := HC.out.size; first | omega | (simp; done) | (simp; omega))); (case c2 => exact src_below HS.out (show Below w.heap.size w _ from (HB0.out.trans (Below.mono (by first | exact HC.out | exact HC.out.drew | exact HC.out.alloc (by have := HC.out.size; omega) _ | exact (HC.out.alloc (by have := HC.out.size; omega) _).drew | exact (HC.out.alloc (by have := HC.out.size; omega) _).alloc (by have := HC.out.size; first | omega | (simp; done) | (simp; omega)) _ | exact ((HC.out.alloc (by have := HC.out.size; omega) _).alloc (by have := HC.out.size; first | omega | (simp; done) | (simp; omega)) _).drew) (by omega))))); (case c3 => (unfold maxLen; omega)); (case c4 => omega); (case c5 => (have := HC.out.size; first | omega | (simp; done) | (simp; omega))); intro ua uc w1 hown1 hg1 hem1; have HO1 := Lib.hid hown1; have HG := Lib.hid hg1; replace HC := Lib.hid (Below.grown (show Below w0.heap.size w0 _ from (by first | exact HC.out | exact HC.out.drew | exact HC.out.alloc (by have := HC.out.size; omega) _ | exact (HC.out.alloc (by have := HC.out.size; omega) _).drew | exact (HC.out.alloc (by have := HC.out.size; omega) _).alloc (by have := HC.out.size; first | omega | (simp; done) | (simp; omega)) _ | exact ((HC.out.alloc (by have := HC.out.size; omega) _).alloc (by have := HC.out.size; first | omega | (simp; done) | (simp; omega)) _).drew)) hg1 (by (have := HC.out.size; first | omega | (simp; done) | (simp; omega))) (fun k hk => by cases hk; (have := HC.out.size; first | omega | (simp; done) | (simp; omega)))); clear hown1 hg1 hem1; obtain ⟨y0, y1⟩ := (Dk.Box.below BX.out HC.out).cells)
           | (refine step_append_fresh rfl _ _ 24 rfl w0.heap.size 39 j0 (.agg #[.int .i64 0, .string ⟨#[]⟩]) 2 24 Try.underlying24 hj hy0 hy1 hy2 rfl (by decide) _ rfl ?c1 ?c0 d.2.length (wcells d.2) _ rfl ?c2 ?c3 ?c4 ?c5 ?_; (case c1 => exact (by (try simp only [heap_drew]); first | exact blk_at (by first | rfl | omega | (simp; done) | (simp; omega)) | exact blk_gd (blk_at (by first | rfl | omega | (simp; done) | (simp; omega))) HG.out (by simp) | exact blk_gd (Dk.blk_alloc (blk_at (by first | rfl | omega | (simp; done) | (simp; omega))) _) HG.out (by simp))); (case c0 => (have := HC.out.size; first | omega | (simp; done) | (simp; omega))); (case c2 => exact src_below HW.out (show Below w.heap.size w _ from (HB0.out.trans (Below.mono (by first | exact HC.out | exact HC.out.drew | exact HC.out.alloc (by have := HC.out.size; omega) _ | exact (HC.out.alloc (by have := HC.out.size; omega) _).drew | exact (HC.out.alloc (by have := HC.out.size; omega) _).alloc (by have := HC.out.size; first | omega | (simp; done) | (simp; omega)) _ | exact ((HC.out.alloc (by have := HC.out.size; omega) _).alloc (by have := HC.out.size; first | omega | (simp; done) | (simp; omega)) _).drew) (by omega))))); (case c3 => (unfold maxLen; omega)); (case c4 => omega); (case c5 => (have := HC.out.size; first | omega | (simp; done) | (simp; omega))); intro va vc w2 hown2 hg2 hem2; have HO2 := Lib.hid hown2; replace HO1 := Lib.hid (kept2 hg2 hem2 (by decide) (show World.ownsRow _ w0.heap.size 9 1 (.slice ua d.1.length uc) d.1.length (d.1.map Value.string) from by first | exact HO1.out | exact World.ownsRow.alloc HO1.out _ | exact World.ownsRow.drew (World.ownsRow.alloc HO1.out _) | exact World.ownsRow.drew HO1.out)); replace HC := Lib.hid (Below.grown (show Below w0.heap.size w0 _ from (by first | exact HC.out | exact HC.out.drew | exact HC.out.alloc (by have := HC.out.size; omega) _ | exact (HC.out.alloc (by have := HC.out.size; omega) _).drew | exact (HC.out.alloc (by have := HC.out.size; omega) _).alloc (by have := HC.out.size; first | omega | (simp; done) | (simp; omega)) _ | exact ((HC.out.alloc (by have := HC.out.size; omega) _).alloc (by have := HC.out.size; first | omega | (simp; done) | (simp; omega)) _).drew)) hg2 (by (have := HC.out.size; first | omega | (simp; done) | (simp; omega))) (fun k hk => by cases hk; (have := HC.out.size; first | omega | (simp; done) | (simp; omega)))); clear hown2 hg2 hem2; obtain ⟨p0, p1⟩ := (Dk.Box.below BX.out HC.out).cells; obtain ⟨q0, q1, q2, q3⟩ := Dk.blk_two (Dk.Box.below BR.out HC.out)))
  all_goals
    go_wp2
    obtain ⟨hF, hO, hBB⟩ := put_two (lo := w.heap.size + 1 + 1) (d := d) (Dk.Box.below BR.out HC.out) (by omega) ⟨(RowIn.fresh HO1.out).wide (Nat.le_of_eq hsz.symm) (Nat.le_refl _), (RowIn.fresh HO2.out).wide (Nat.le_of_eq hsz.symm) (Nat.le_refl _)⟩ w.heap.size w (by omega) (HB0.out.trans (HC.out.mono (by omega)))
    generalize (w2.setCell ⟨w.heap.size + 1, 0, none⟩ (.slice ua d.1.length uc)).setCell ⟨w.heap.size + 1, 1, none⟩ (.slice va d.2.length vc) = w4 at hF hO hBB ⊢
    obtain ⟨c0, c1⟩ := hF.cells
    exact bodyPost_ret (v := .agg #[.slice ua d.1.length uc, .slice va d.2.length vc]) (by simp [results, Try.results100, go_sem, c0, c1]) rfl ⟨_, _, rfl, hO, hBB⟩
end Go.Proofs.Ytgapjdkelkmdgaa.Copy
