/- Facts on making a file system: the row of its inodes, the zero value, what a made one costs; appending within a region; the library's Clone of a slice of Quotas. Conditions: as each theorem types them. -/
import Derived.Test.YtafmpllkehbmeaaGreatDoorFsF
import Derived.Test.YtafmpllkehbmeaaGreatDoorApp
import Derived.Lib.SliceRun
import Derived.Deep.RegionHeld3
namespace Go.Proofs.YtafmpllkehbmeaaGreatDoor.FsM
open Go.ChangeShapes Go.WideShapes Go.ChangeAt Go.RowKit
open Foot Bx
open InoV (I)
open App (SrcRow wpList_append_src)
set_option linter.unusedVariables false

def zcells : List Value := [.int .i64 0, .int .i64 0, .int .i64 0, .int .i64 0, .int .i64 0, .int .i64 0, .int .i64 0, .slice none 0 0, .slice none 0 0, .slice none 0 0]
def rcells : List Value := [.int .i64 2, .int .i64 493, .int .i64 0, .int .i64 0, .int .i64 1, .int .i64 0, .int .i64 0, .slice none 0 0, .slice none 0 0, .slice none 0 0]
/-- The cells of twenty zero inodes, as 'make' lays them. -/
def zrow : List Value := (madeCells zcells.toArray 200).toList
def els : List IF.El := (FsV.rootI, .agg rcells.toArray, []) :: List.replicate 19 (InoV.zero, .agg zcells.toArray, [])
theorem ni_nil (w : World) (base : Nat) : NiF.Own w base (.slice none 0 0) [] [] := NiF.own_of (v := .slice none 0 0) (World.ownsRow_nil _ _ _ _)
theorem ae_nil (w : World) (base : Nat) : AeF.Own w base (.slice none 0 0) [] [] := ⟨World.ownsRow_nil _ _ _ _, rfl⟩
theorem src_qs {w : World} {v : Value} {ws : List Qt.At} (h : Qt.Holds w v ws) : SrcRow w 2 v ws.length (Qt.cells ws) := by
  obtain ⟨a, cap, rfl, hc⟩ := h
  by_cases h0 : ws = []
  · subst h0
    cases a with
    | none => exact .inl ⟨rfl, rfl, cap, rfl⟩
    | some ad => exact .inr ⟨ad, cap, rfl, rfl, fun j u hj => by simp [Qt.cells] at hj, fun u hu => by simp [Qt.cells] at hu⟩
  · obtain ⟨b, o, rfl, _, hcell⟩ := hc h0
    refine .inr ⟨⟨b, o, none⟩, cap, rfl, Qt.cells_length ws, fun j u hj => ?_, fun u hu => ?_⟩
    · have hjl : j < ws.length * 2 := by have := (List.getElem?_eq_some_iff.1 hj).1; rwa [Qt.cells_length] at this
      obtain ⟨q0, q1⟩ := Qt.cells_at ws (j / 2) (by omega)
      obtain ⟨c0, c1⟩ := hcell (j / 2) (by omega)
      rw [Addr.add_lit, ← hj]
      rcases Nat.mod_two_eq_zero_or_one j with hm | hm
      · have e : j / 2 * 2 = j := by omega
        rw [e] at q0 c0
        rw [q0, c0]
      · have e : j / 2 * 2 + 1 = j := by omega
        rw [e] at q1
        rw [show o + j / 2 * 2 + 1 = o + j from by omega] at c1
        rw [q1, c1]
    · obtain ⟨x, _, hx⟩ := List.mem_flatMap.1 hu
      simp [Qt.cell1] at hx
      rcases hx with rfl | rfl <;> rfl

theorem empty_own {w : World} {b base : Nat} {e : TypeId} {size : Nat} (h : w.heap[b]? = some (.cells #[] e (0, 0))) (hb : base ≤ b) : w.ownsRow base e size (.slice (some ⟨b, 0, none⟩) 0 0) 0 [] :=
  ⟨by simp, .inr ⟨b, 0, #[], rfl, hb, h, Nat.le_refl _, Nat.zero_le _, by simp, by simp⟩⟩
theorem step_append_src {P : Program} {ops : Array Oper} {o : Oper} {a : Act} {w : World} {K : Act → World → Prop} {Q : Exit → Act → World → Prop} {E : Prop} (hgd : o.guard = none) (s x : Operand) (t : TypeId)
    (ho : o.op = .call { callee := .builtin .append, args := #[s, x], argTypes := #[t, t] })
    (base : Nat) (e : TypeId) (i : TypeInfo) (z : Value) (size bytes : Nat) (ht : P.underlying t = some (.slice e)) (hi : P.info? e = some i) (hz : i.zero = some z)
    (hsize : i.size = size) (hby : i.bytes = bytes) (hzs : z.cells.size = size) (hsz : 0 < size)
    (v : Value) (n : Nat) (xs : List Value) (hs : a.eval s = v) (hown : w.ownsRow base e size v n xs)
    (m : Nat) (news : List Value) (hsrc : SrcRow w size (a.eval x) m news)
    (h63 : n + m ≤ maxLen) (hbytes : (n + m) * bytes ≤ 140737488355328) (hbase : base ≤ w.heap.size)
    (h : ∀ a' c' w', w'.ownsRow base e size (.slice a' (n + m) c') (n + m) (xs ++ news) → w.grownBy w' v.ownBlock → K (a.put o.dst (.slice a' (n + m) c')) w') :
    if Region.wanted o (yielded ops a.tmps) = true then Oper.wp P o a w K Q else E := by
  have hw : Region.wanted o (yielded ops a.tmps) = true := by simp [Region.wanted, hgd]
  rw [if_pos hw]
  rcases hsrc with ⟨rfl, rfl, c, hx⟩ | ⟨ad, c, hx, hl, hnews, h1⟩
  · have hr := App.run_append_nilsrc (P := P) w base t o.type e i size ht hi hsize v n xs hown c
    obtain ⟨a', c', rfl⟩ := Dk.slice_of hown
    unfold Oper.wp execOp
    simp only [ho, resolve, invoke, builtin, Sem.run_bind, Sem.run_pure, Result.andThen_ok, List.map_toArray, List.map_cons, List.map_nil, hs, hx, hr]
    have hh := h a' c' w (by simpa using hown) (World.grownBy.refl _ _)
    exact (show K (a.put o.dst (.slice a' n c')) w from by simpa using hh)
  · refine wp_append_own w s x t ho base e i z size bytes ht hi hz hsize hby hzs hsz v n xs hs hown ad m c news hx hl hnews h1 h63 hbytes hbase fun v' w' h2 h3 h4 => ?_
    obtain ⟨a', c', rfl⟩ := Dk.slice_of h2
    exact h a' c' w' h2 h3

/-- 'make([]Inode, 20)'. -/
theorem make_run (W : World) : (Instr.makeSlice 24 (.int .i64 20) (.int .i64 20)).run Tryz.prog W = .ok (.slice (some ⟨W.heap.size, 0, none⟩) 20 20) (W.alloc (.cells zrow.toArray 34)) := by
  obtain ⟨i0, hi, hz0, hz1, hz2⟩ := info_parts IF.info
  have := run_make (P := Tryz.prog) W 24 34 i0 _ Tryz.underlying24 hi hz0 .i64 .i64 20 20 (by decide) (by decide) (by rw [hz2]; decide) (by decide)
  rw [hz1] at this
  exact this
theorem row_far {W : World} {base g size n : Nat} {e t : TypeId} {v : Value} {xs : List Value} {cs : Array Value} (h : W.ownsRow base e size v n xs) (hk : Bk W g cs t) (hne : e ≠ t) (i : Nat) (u : Value) : (W.setCell ⟨g, i, none⟩ u).ownsRow base e size v n xs := by
  refine ⟨h.1, ?_⟩
  rcases h.2 with ⟨hv, hx⟩ | ⟨g', cap, cur, hv, hb, hg, h1, h2, h3, h4⟩
  · exact .inl ⟨hv, hx⟩
  · refine .inr ⟨g', cap, cur, hv, hb, ?_, h1, h2, h3, h4⟩
    have hne' : g' ≠ g := by
      rintro rfl
      have := hg.symm.trans hk
      simp only [Option.some.injEq, Obj.cells.injEq] at this
      exact hne this.2.1
    exact (Below.heap_setCell W ⟨g, i, none⟩ u g' hne').trans hg
theorem rows_apart {W : World} {base base' size size' n n' : Nat} {e e' : TypeId} {v v' : Value} {xs xs' : List Value} (h : W.ownsRow base e size v n xs) (h' : W.ownsRow base' e' size' v' n' xs') (hne : e ≠ e') : Apart (fpR v) (fpR v') := by
  rcases h.2 with ⟨rfl, _⟩ | ⟨g, _, _, rfl, _, hg, _⟩
  · intro k hk; cases hk
  rcases h'.2 with ⟨rfl, _⟩ | ⟨g', _, _, rfl, _, hg', _⟩
  · intro k _ hk; cases hk
  intro k hk hk'
  simp [fpR, Value.ownBlock] at hk hk'
  subst hk
  subst hk'
  have := hg.symm.trans hg'
  simp only [Option.some.injEq, Obj.cells.injEq] at this
  exact hne this.2.1
/-- What is laid before the root's inode is stored: d is the data so far. -/
def Pre (w : World) (q : List Qt.At) (d : List ByteArray) (W : World) (g b : Nat) (r0 r2 : Value) : Prop :=
  Below w.heap.size w W ∧ Bk W w.heap.size #[.int .i64 0, .slice none 0 0, .slice none 0 0, .slice none 0 0] 27 ∧ w.heap.size + 1 ≤ g ∧
  Bk W g #[.int .i64 0, r0, .slice (some ⟨b, 0, none⟩) 20 20, r2] 27 ∧
  W.ownsRow (w.heap.size + 1) 93 2 r0 q.length (Qt.cells q) ∧ W.ownsRow (w.heap.size + 1) 34 10 (.slice (some ⟨b, 0, none⟩) 20 20) 20 zrow ∧ W.ownsRow (w.heap.size + 1) 9 1 r2 d.length (d.map Value.string)
/-- And after that. -/
def Fin (w : World) (q : List Qt.At) (d : List ByteArray) (W : World) (g b : Nat) (r0 r2 : Value) : Prop :=
  Below w.heap.size w W ∧ Bk W w.heap.size #[.int .i64 0, .slice none 0 0, .slice none 0 0, .slice none 0 0] 27 ∧ w.heap.size + 1 ≤ g ∧
  Bk W g #[.int .i64 0, r0, .slice (some ⟨b, 0, none⟩) 20 20, r2] 27 ∧
  W.ownsRow (w.heap.size + 1) 93 2 r0 q.length (Qt.cells q) ∧ W.ownsRow (w.heap.size + 1) 34 10 (.slice (some ⟨b, 0, none⟩) 20 20) 20 (IF.cells els) ∧ W.ownsRow (w.heap.size + 1) 9 1 r2 d.length (d.map Value.string)
theorem bk_ne {W : World} {g b : Nat} {cs cs' : Array Value} {t t' : TypeId} (h : Bk W g cs t) (h' : Bk W b cs' t') (hne : t ≠ t') : ¬ g = b := by
  rintro rfl
  have := h.symm.trans h'
  simp only [Option.some.injEq, Obj.cells.injEq] at this
  exact hne this.2.1
set_option maxRecDepth 100000 in
set_option maxHeartbeats 400000 in
theorem clone_any (w : World) (v : Value) (xs : List Qt.At) (hlen : xs.length ≤ 1073741824) (h : Qt.Holds w v xs) :
    Calls Tryz.prog 125 #[v] w fun e w' => ∃ v', e = .returned v' ∧ QF.Own w' w.heap.size v' xs (fpR v') ∧ Below w.heap.size w w' := by
  obtain ⟨i0, hi, hz0, hz1, hz2⟩ := info_parts Qt.info
  have q0 : ∀ (w : World) (a : Option Addr) (n c n' c' : Nat), (binOp .eql 23 (.slice a n c) (.slice none n' c')).run Tryz.prog w = .ok (.bool a.isNone) w := fun w a n c n' c' => Lib.run_eql_slice_nil w _ _ a n c n' c' Tryz.underlying23
  have hsrc := src_qs h
  obtain ⟨a, cap, rfl, hc⟩ := h
  clear hc
  cases a with
  | none =>
    have hx : xs = [] := by
      rcases hsrc with ⟨h0, _⟩ | ⟨ad, c, h0, _⟩
      · exact List.eq_nil_of_length_eq_zero h0
      · cases h0
    subst hx
    go_enter Tryz.func125, Tryz.ntmps125
    go_wp2
    go_ret
    exact ⟨_, rfl, ⟨World.ownsRow_nil _ _ _ _, rfl⟩, Below.refl _ _⟩
  | some ad =>
    have HS := Lib.hid hsrc
    clear hsrc
    obtain ⟨L, hL⟩ : ∃ L, L = xs.length := ⟨_, rfl⟩
    rw [← hL] at HS ⊢
    have HL := Lib.hid hL
    rw [← hL] at hlen
    clear hL
    go_enter Tryz.func125, Tryz.ntmps125
    go_wp2_with (at_builtin; refine wpList_append_src rfl _ _ 23 rfl w.heap.size 93 i0 (.agg #[.int .i64 0, .int .i64 0]) 2 16 Tryz.underlying23 hi hz0 hz1 hz2 rfl (by decide) _ 0 [] rfl (World.ownsRow_made w #[] 0 (Nat.le_refl _) (Nat.zero_le _) rfl) L (Qt.cells xs) ?c1 ?c2 ?c3 ?c4 ?_)
    case c1 => exact HS.out.below (fun p u hp => by rw [World.cell?_alloc_some _ _ _ (by rw [hp]; rfl)]; exact hp)
    case c2 => unfold maxLen; omega
    case c3 => omega
    case c4 => simp
    intro a' c' w1 hown1 hg1
    have HO := Lib.hid hown1
    have HB := Lib.hid (show Below w.heap.size w w1 from ((Below.refl w.heap.size w).alloc (Nat.le_refl _) _).grown hg1 (by simp) (fun k hk => by simp [Value.ownBlock] at hk; omega))
    clear hown1 hg1
    go_wp2
    go_ret
    refine ⟨_, rfl, ⟨?_, rfl⟩, HB.out⟩
    rw [← HL.out]
    have := HO.out
    simpa using this
end Go.Proofs.YtafmpllkehbmeaaGreatDoor.FsM
