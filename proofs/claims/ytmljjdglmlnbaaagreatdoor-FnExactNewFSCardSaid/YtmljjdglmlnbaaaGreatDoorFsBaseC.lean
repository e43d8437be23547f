/- Helper texts joined, one behind another (a claim has at most 60 files): what each proves, its own head says: YtmljjdglmlnbaaaGreatDoorFsM, YtmljjdglmlnbaaaGreatDoorFsN, YtmljjdglmlnbaaaGreatDoorFsI. -/
import Derived.Test.YtmljjdglmlnbaaaGreatDoorFsBaseA
import Derived.Test.YtmljjdglmlnbaaaGreatDoorApp
import Derived.Lib.SliceRun
import Derived.Deep.RegionHeld3
import Derived.Test.YtmljjdglmlnbaaaGreatDoorFsBaseB
import Derived.Test.YtmljjdglmlnbaaaGreatDoorRepF
import Derived.Test.YtmljjdglmlnbaaaGreatDoorPadToImpl
import Derived.Test.YtmljjdglmlnbaaaGreatDoorPadTo

-- YtmljjdglmlnbaaaGreatDoorFsM
/- Facts on making a file system: the row of its inodes, the zero value, what a made one costs; appending within a region; the library's Clone of a slice of Quotas. Conditions: as each theorem types them. -/
namespace Go.Proofs.YtmljjdglmlnbaaaGreatDoor.FsM
open Go.ChangeShapes Go.WideShapes Go.ChangeAt Go.RowKit
open Foot Bx
open InoV (I)
open App (SrcRow wpList_append_src)
set_option linter.unusedVariables false

def zcells : List Value := [.int .i64 0, .int .i64 0, .int .i64 0, .int .i64 0, .int .i64 0, .int .i64 0, .int .i64 0, .slice none 0 0, .slice none 0 0, .slice none 0 0]
def rcells : List Value := [.int .i64 2, .int .i64 493, .int .i64 0, .int .i64 0, .int .i64 1, .int .i64 0, .int .i64 0, .slice none 0 0, .slice none 0 0, .slice none 0 0]
/-- The cells of twenty zero inodes, as 'make' lays them. -/
def zrow : List Value := (madeCells zcells.toArray 200).toList
def els : List IF.El := (FsV.rootI, .agg rcells.toArray, []) :: List.replicate 19 (InoV.zero, .agg zcells.toArray, [])
theorem zrow_root : ((((((((((zrow.set 0 (.int .i64 2)).set 1 (.int .i64 493)).set 2 (.int .i64 0)).set 3 (.int .i64 0)).set 4 (.int .i64 1)).set 5 (.int .i64 0)).set 6 (.int .i64 0)).set 7 (.slice none 0 0)).set 8 (.slice none 0 0)).set 9 (.slice none 0 0)) = IF.cells els := by kernel_rfl
theorem ni_nil (w : World) (base : Nat) : NiF.Own w base (.slice none 0 0) [] [] := ⟨World.ownsRow_nil _ _ _ _, rfl⟩
theorem ae_nil (w : World) (base : Nat) : AeF.Own w base (.slice none 0 0) [] [] := ⟨World.ownsRow_nil _ _ _ _, rfl⟩
theorem el_own (w : World) (base : Nat) : ∀ e ∈ els, In.Own w base e.2.1 e.1 e.2.2 := by
  intro e he
  rcases List.mem_cons.1 he with rfl | he
  · exact ⟨_, _, _, [], [], [], rfl, rfl, List.nodup_nil, ni_nil _ _, ae_nil _ _, ae_nil _ _⟩
  · rw [List.eq_of_mem_replicate he]
    exact ⟨_, _, _, [], [], [], rfl, rfl, List.nodup_nil, ni_nil _ _, ae_nil _ _, ae_nil _ _⟩
theorem inos_own {w : World} {base b : Nat} (h : w.ownsRow base 47 10 (.slice (some ⟨b, 0, none⟩) 20 20) 20 (IF.cells els)) : IF.Own w base (.slice (some ⟨b, 0, none⟩) 20 20) (FsV.made []).inodes [b] :=
  ⟨els, by rfl, h, rfl, by simp, el_own w base⟩
theorem zero_own (w : World) (base : Nat) : FsF.Own w base (.agg #[.int .i64 0, .slice none 0 0, .slice none 0 0, .slice none 0 0]) FsV.zero [] :=
  ⟨_, _, _, [], [], [], rfl, rfl, List.nodup_nil, ⟨World.ownsRow_nil _ _ _ _, rfl⟩, ⟨[], rfl, World.ownsRow_nil _ _ _ _, rfl, List.nodup_nil, fun e he => by cases he⟩, ⟨World.ownsRow_nil _ _ _ _, rfl⟩⟩
theorem cost_made {q : List (Int × Int)} (h : q.length ≤ 1073741824 - 4096) : FsF.cost (FsV.made q) ≤ 1073741824 := by
  have e1 : FsF.cost (FsV.made q) = q.length + IF.cost (FsV.made []).inodes + SF.cost (FsV.made []).data := rfl
  have e2 : IF.cost (FsV.made []).inodes = 20 := by kernel_rfl
  have e3 : SF.cost (FsV.made []).data = 1848 := by kernel_rfl
  omega
theorem lim_made {q : List (Int × Int)} (h : q.length ≤ 1073741824) : FsF.Lim (FsV.made q) := by
  refine ⟨(show Rg 0 from ⟨by decide, by decide⟩), ?_, ⟨by show (20 : Nat) ≤ maxLen; unfold maxLen; omega, fun x hx => ?_⟩, ⟨by show (List.replicate 56 FsV.z32).length ≤ maxLen; unfold maxLen; simp, fun x hx => ?_⟩⟩
  · show q.length ≤ maxLen
    unfold maxLen; omega
  · have hn : NiF.Lim [] := ⟨Nat.zero_le _, fun x hx => by cases hx⟩
    have ha : AeF.Lim [] := Nat.zero_le _
    rcases List.mem_cons.1 hx with rfl | hx
    · exact ⟨⟨by decide, by decide⟩, ⟨by decide, by decide⟩, ⟨by decide, by decide⟩, ⟨by decide, by decide⟩, ⟨by decide, by decide⟩, ⟨by decide, by decide⟩, ⟨by decide, by decide⟩, hn, ha, ha⟩
    · rw [List.eq_of_mem_replicate hx]
      exact ⟨⟨by decide, by decide⟩, ⟨by decide, by decide⟩, ⟨by decide, by decide⟩, ⟨by decide, by decide⟩, ⟨by decide, by decide⟩, ⟨by decide, by decide⟩, ⟨by decide, by decide⟩, hn, ha, ha⟩
  · rw [List.eq_of_mem_replicate hx]
    show (32 : Nat) ≤ maxLen
    unfold maxLen; omega

theorem src_qs {w : World} {v : Value} {ws : List Qt.At} (h : Qt.Holds w v ws) : SrcRow w 2 v ws.length (Qt.cells ws) := by
  obtain ⟨a, cap, rfl, hc⟩ := h
  by_cases h0 : ws = []
  · subst h0
    cases a with
    | none => exact .inl ⟨rfl, rfl, cap, rfl⟩
    | some ad => exact .inr ⟨ad, cap, rfl, rfl, fun j u hj => by simp [Qt.cells] at hj, fun u hu => by simp [Qt.cells] at hu⟩
  · obtain ⟨b, o, rfl, _, hcell⟩ := hc h0
    refine .inr ⟨⟨b, o, none⟩, cap, rfl, Qt.cells_length ws, fun j u hj => ?_, fun u hu => ?_⟩
    · have hjl : j < ws.length * 2 := by have := (List.getElem?_eq_some_iff.1 hj).1; rwa [Qt.cells_length] at this
      obtain ⟨q0, q1⟩ := Qt.cells_at ws (j / 2) (by omega)
      obtain ⟨c0, c1⟩ := hcell (j / 2) (by omega)
      rw [Addr.add_lit, ← hj]
      rcases Nat.mod_two_eq_zero_or_one j with hm | hm
      · have e : j / 2 * 2 = j := by omega
        rw [e] at q0 c0
        rw [q0, c0]
      · have e : j / 2 * 2 + 1 = j := by omega
        rw [e] at q1
        rw [show o + j / 2 * 2 + 1 = o + j from by omega] at c1
        rw [q1, c1]
    · obtain ⟨x, _, hx⟩ := List.mem_flatMap.1 hu
      simp [Qt.cell1] at hx
      rcases hx with rfl | rfl <;> rfl

theorem empty_own {w : World} {b base : Nat} {e : TypeId} {size : Nat} (h : w.heap[b]? = some (.cells #[] e (0, 0))) (hb : base ≤ b) : w.ownsRow base e size (.slice (some ⟨b, 0, none⟩) 0 0) 0 [] :=
  ⟨by simp, .inr ⟨b, 0, #[], rfl, hb, h, Nat.le_refl _, Nat.zero_le _, by simp, by simp⟩⟩
theorem step_append_src {P : Program} {ops : Array Oper} {o : Oper} {a : Act} {w : World} {K : Act → World → Prop} {Q : Exit → Act → World → Prop} {E : Prop} (hgd : o.guard = none) (s x : Operand) (t : TypeId)
    (ho : o.op = .call { callee := .builtin .append, args := #[s, x], argTypes := #[t, t] })
    (base : Nat) (e : TypeId) (i : TypeInfo) (z : Value) (size bytes : Nat) (ht : P.underlying t = some (.slice e)) (hi : P.info? e = some i) (hz : i.zero = some z)
    (hsize : i.size = size) (hby : i.bytes = bytes) (hzs : z.cells.size = size) (hsz : 0 < size)
    (v : Value) (n : Nat) (xs : List Value) (hs : a.eval s = v) (hown : w.ownsRow base e size v n xs)
    (m : Nat) (news : List Value) (hsrc : SrcRow w size (a.eval x) m news)
    (h63 : n + m ≤ maxLen) (hbytes : (n + m) * bytes ≤ 140737488355328) (hbase : base ≤ w.heap.size)
    (h : ∀ a' c' w', w'.ownsRow base e size (.slice a' (n + m) c') (n + m) (xs ++ news) → w.grownBy w' v.ownBlock → K (a.put o.dst (.slice a' (n + m) c')) w') :
    if Region.wanted o (yielded ops a.tmps) = true then Oper.wp P o a w K Q else E := by
  have hw : Region.wanted o (yielded ops a.tmps) = true := by simp [Region.wanted, hgd]
  rw [if_pos hw]
  rcases hsrc with ⟨rfl, rfl, c, hx⟩ | ⟨ad, c, hx, hl, hnews, h1⟩
  · have hr := App.run_append_nilsrc (P := P) w base t o.type e i size ht hi hsize v n xs hown c
    obtain ⟨a', c', rfl⟩ := Dk.slice_of hown
    unfold Oper.wp execOp
    simp only [ho, resolve, invoke, builtin, Sem.run_bind, Sem.run_pure, Result.andThen_ok, List.map_toArray, List.map_cons, List.map_nil, hs, hx, hr]
    have hh := h a' c' w (by simpa using hown) (World.grownBy.refl _ _)
    exact (show K (a.put o.dst (.slice a' n c')) w from by simpa using hh)
  · refine wp_append_own w s x t ho base e i z size bytes ht hi hz hsize hby hzs hsz v n xs hs hown ad m c news hx hl hnews h1 h63 hbytes hbase fun v' w' h2 h3 h4 => ?_
    obtain ⟨a', c', rfl⟩ := Dk.slice_of h2
    exact h a' c' w' h2 h3

/-- 'make([]Inode, 20)'. -/
theorem make_run (W : World) : (Instr.makeSlice 25 (.int .i64 20) (.int .i64 20)).run Tryz.prog W = .ok (.slice (some ⟨W.heap.size, 0, none⟩) 20 20) (W.alloc (.cells zrow.toArray 47)) := by
  obtain ⟨i0, hi, hz0, hz1, hz2⟩ := info_parts IF.info
  have := run_make (P := Tryz.prog) W 25 47 i0 _ Tryz.underlying25 hi hz0 .i64 .i64 20 20 (by decide) (by decide) (by rw [hz2]; decide) (by decide)
  rw [hz1] at this
  exact this
theorem row_far {W : World} {base g size n : Nat} {e t : TypeId} {v : Value} {xs : List Value} {cs : Array Value} (h : W.ownsRow base e size v n xs) (hk : Bk W g cs t) (hne : e ≠ t) (i : Nat) (u : Value) : (W.setCell ⟨g, i, none⟩ u).ownsRow base e size v n xs := by
  refine ⟨h.1, ?_⟩
  rcases h.2 with ⟨hv, hx⟩ | ⟨g', cap, cur, hv, hb, hg, h1, h2, h3, h4⟩
  · exact .inl ⟨hv, hx⟩
  · refine .inr ⟨g', cap, cur, hv, hb, ?_, h1, h2, h3, h4⟩
    have hne' : g' ≠ g := by
      rintro rfl
      have := hg.symm.trans hk
      simp only [Option.some.injEq, Obj.cells.injEq] at this
      exact hne this.2.1
    exact (Below.heap_setCell W ⟨g, i, none⟩ u g' hne').trans hg
theorem rows_apart {W : World} {base base' size size' n n' : Nat} {e e' : TypeId} {v v' : Value} {xs xs' : List Value} (h : W.ownsRow base e size v n xs) (h' : W.ownsRow base' e' size' v' n' xs') (hne : e ≠ e') : Apart (fpR v) (fpR v') := by
  rcases h.2 with ⟨rfl, _⟩ | ⟨g, _, _, rfl, _, hg, _⟩
  · intro k hk; cases hk
  rcases h'.2 with ⟨rfl, _⟩ | ⟨g', _, _, rfl, _, hg', _⟩
  · intro k _ hk; cases hk
  intro k hk hk'
  simp [fpR, Value.ownBlock] at hk hk'
  subst hk
  subst hk'
  have := hg.symm.trans hg'
  simp only [Option.some.injEq, Obj.cells.injEq] at this
  exact hne this.2.1
theorem made_row {W : World} {base b : Nat} (h : Bk W b zrow.toArray 47) (hb : base ≤ b) : W.ownsRow base 47 10 (.slice (some ⟨b, 0, none⟩) 20 20) 20 zrow := by
  have hl : zrow.length = 200 := by kernel_rfl
  exact ⟨by omega, .inr ⟨b, 20, zrow.toArray, rfl, hb, h, Nat.le_refl _, by unfold maxLen; omega, by simp [hl], by simp [List.take_of_length_le (Nat.le_of_eq hl)]⟩⟩

/-- What is laid before the root's inode is stored: d is the data so far. -/
def Pre (w : World) (q : List Qt.At) (d : List ByteArray) (W : World) (g b : Nat) (r0 r2 : Value) : Prop :=
  Below w.heap.size w W ∧ Bk W w.heap.size #[.int .i64 0, .slice none 0 0, .slice none 0 0, .slice none 0 0] 28 ∧ w.heap.size + 1 ≤ g ∧
  Bk W g #[.int .i64 0, r0, .slice (some ⟨b, 0, none⟩) 20 20, r2] 28 ∧
  W.ownsRow (w.heap.size + 1) 51 2 r0 q.length (Qt.cells q) ∧ W.ownsRow (w.heap.size + 1) 47 10 (.slice (some ⟨b, 0, none⟩) 20 20) 20 zrow ∧ W.ownsRow (w.heap.size + 1) 9 1 r2 d.length (d.map Value.string)
/-- And after that. -/
def Fin (w : World) (q : List Qt.At) (d : List ByteArray) (W : World) (g b : Nat) (r0 r2 : Value) : Prop :=
  Below w.heap.size w W ∧ Bk W w.heap.size #[.int .i64 0, .slice none 0 0, .slice none 0 0, .slice none 0 0] 28 ∧ w.heap.size + 1 ≤ g ∧
  Bk W g #[.int .i64 0, r0, .slice (some ⟨b, 0, none⟩) 20 20, r2] 28 ∧
  W.ownsRow (w.heap.size + 1) 51 2 r0 q.length (Qt.cells q) ∧ W.ownsRow (w.heap.size + 1) 47 10 (.slice (some ⟨b, 0, none⟩) 20 20) 20 (IF.cells els) ∧ W.ownsRow (w.heap.size + 1) 9 1 r2 d.length (d.map Value.string)
theorem pre_store {w : World} {q : List Qt.At} {d : List ByteArray} {W : World} {g b : Nat} {r0 r2 : Value} (h1 : Below w.heap.size w W) (h2 : Bk W w.heap.size #[.int .i64 0, .slice none 0 0, .slice none 0 0, .slice none 0 0] 28) (h3 : w.heap.size + 1 ≤ g)
    (h4 : Bk W g #[.int .i64 0, .slice none 0 0, .slice none 0 0, .slice none 0 0] 28) (h5 : W.ownsRow (w.heap.size + 1) 51 2 r0 q.length (Qt.cells q)) (h6 : Bk W b zrow.toArray 47) (hb : w.heap.size + 1 ≤ b) (h7 : W.ownsRow (w.heap.size + 1) 9 1 r2 d.length (d.map Value.string)) :
    Pre w q d ((((W.setCell ⟨g, 0, none⟩ (.int .i64 0)).setCell ⟨g, 1, none⟩ r0).setCell ⟨g, 2, none⟩ (.slice (some ⟨b, 0, none⟩) 20 20)).setCell ⟨g, 3, none⟩ r2) g b r0 r2 := by
  have h6 := made_row h6 hb
  have k1 : Bk _ g [_, _, _, _].toArray _ := h4.put 0 (.int .i64 0)
  have k2 : Bk _ g [_, _, _, _].toArray _ := k1.put 1 r0
  have k3 : Bk _ g [_, _, _, _].toArray _ := k2.put 2 (.slice (some ⟨b, 0, none⟩) 20 20)
  have k4 : Bk _ g [_, _, _, _].toArray _ := k3.put 3 r2
  refine ⟨(((h1.setCell (p := ⟨g, 0, none⟩) (show w.heap.size ≤ g by omega) _).setCell (p := ⟨g, 1, none⟩) (show w.heap.size ≤ g by omega) _).setCell (p := ⟨g, 2, none⟩) (show w.heap.size ≤ g by omega) _).setCell (p := ⟨g, 3, none⟩) (show w.heap.size ≤ g by omega) _, (((h2.far (p := ⟨g, 0, none⟩) (by simp; omega) _).far (p := ⟨g, 1, none⟩) (by simp; omega) _).far (p := ⟨g, 2, none⟩) (by simp; omega) _).far (p := ⟨g, 3, none⟩) (by simp; omega) _, h3, k4, ?_, ?_, ?_⟩
  · exact row_far (row_far (row_far (row_far h5 h4 (by decide) 0 _) k1 (by decide) 1 _) k2 (by decide) 2 _) k3 (by decide) 3 _
  · exact row_far (row_far (row_far (row_far h6 h4 (by decide) 0 _) k1 (by decide) 1 _) k2 (by decide) 2 _) k3 (by decide) 3 _
  · exact row_far (row_far (row_far (row_far h7 h4 (by decide) 0 _) k1 (by decide) 1 _) k2 (by decide) 2 _) k3 (by decide) 3 _
/-- The root's inode, stored. -/
def rooted (W : World) (b : Nat) : World := (((((((((W.setCell ⟨b, 0, none⟩ (.int .i64 2)).setCell ⟨b, 1, none⟩ (.int .i64 493)).setCell ⟨b, 2, none⟩ (.int .i64 0)).setCell ⟨b, 3, none⟩ (.int .i64 0)).setCell ⟨b, 4, none⟩ (.int .i64 1)).setCell ⟨b, 5, none⟩ (.int .i64 0)).setCell ⟨b, 6, none⟩ (.int .i64 0)).setCell ⟨b, 7, none⟩ (.slice none 0 0)).setCell ⟨b, 8, none⟩ (.slice none 0 0)).setCell ⟨b, 9, none⟩ (.slice none 0 0)
/-- The row's object: of what type. -/
theorem row_blk {W : World} {base b size n c : Nat} {e : TypeId} {xs : List Value} (h : W.ownsRow base e size (.slice (some ⟨b, 0, none⟩) n c) n xs) : ∃ cs, Bk W b cs e ∧ base ≤ b := by
  rcases h.2 with ⟨hv, _⟩ | ⟨g, cap, cur, hv, hb, hg, _⟩
  · cases hv
  · cases hv
    exact ⟨cur, hg, hb⟩
theorem row_far1 {W : World} {base base' g size size' n n' : Nat} {e t : TypeId} {v : Value} {xs xs' : List Value} (h : W.ownsRow base e size v n xs) (hk : W.ownsRow base' t size' (.slice (some ⟨g, 0, none⟩) n' n') n' xs') (hne : e ≠ t) (i : Nat) (u : Value) : (W.setCell ⟨g, i, none⟩ u).ownsRow base e size v n xs := by
  obtain ⟨cs, hb, _⟩ := row_blk hk
  exact row_far h hb hne i u
/-- Ten cells stored into the row of inodes: another row is as it was. -/
theorem row_rooted {W : World} {base base' b size n : Nat} {e : TypeId} {v : Value} {xs ys : List Value} (h : W.ownsRow base e size v n xs) (hk : W.ownsRow base' 47 10 (.slice (some ⟨b, 0, none⟩) 20 20) 20 ys) (hne : e ≠ 47) : (rooted W b).ownsRow base e size v n xs := by
  have s0 := (hk.stored 0 (.int .i64 2)).1
  have s1 := (s0.stored 1 (.int .i64 493)).1
  have s2 := (s1.stored 2 (.int .i64 0)).1
  have s3 := (s2.stored 3 (.int .i64 0)).1
  have s4 := (s3.stored 4 (.int .i64 1)).1
  have s5 := (s4.stored 5 (.int .i64 0)).1
  have s6 := (s5.stored 6 (.int .i64 0)).1
  have s7 := (s6.stored 7 (.slice none 0 0)).1
  have s8 := (s7.stored 8 (.slice none 0 0)).1
  exact row_far1 (row_far1 (row_far1 (row_far1 (row_far1 (row_far1 (row_far1 (row_far1 (row_far1 (row_far1 h hk hne 0 _) s0 hne 1 _) s1 hne 2 _) s2 hne 3 _) s3 hne 4 _) s4 hne 5 _) s5 hne 6 _) s6 hne 7 _) s7 hne 8 _) s8 hne 9 _
theorem bk_rooted {W : World} {b c : Nat} {cs : Array Value} {t : TypeId} (h : Bk W c cs t) (hne : c ≠ b) : Bk (rooted W b) c cs t :=
  (((((((((h.far (p := ⟨b, 0, none⟩) hne _).far (p := ⟨b, 1, none⟩) hne _).far (p := ⟨b, 2, none⟩) hne _).far (p := ⟨b, 3, none⟩) hne _).far (p := ⟨b, 4, none⟩) hne _).far (p := ⟨b, 5, none⟩) hne _).far (p := ⟨b, 6, none⟩) hne _).far (p := ⟨b, 7, none⟩) hne _).far (p := ⟨b, 8, none⟩) hne _).far (p := ⟨b, 9, none⟩) hne _
theorem below_rooted {w W : World} {B b : Nat} (h : Below B w W) (hb : B ≤ b) : Below B w (rooted W b) :=
  (((((((((h.setCell (p := ⟨b, 0, none⟩) hb _).setCell (p := ⟨b, 1, none⟩) hb _).setCell (p := ⟨b, 2, none⟩) hb _).setCell (p := ⟨b, 3, none⟩) hb _).setCell (p := ⟨b, 4, none⟩) hb _).setCell (p := ⟨b, 5, none⟩) hb _).setCell (p := ⟨b, 6, none⟩) hb _).setCell (p := ⟨b, 7, none⟩) hb _).setCell (p := ⟨b, 8, none⟩) hb _).setCell (p := ⟨b, 9, none⟩) hb _
theorem fin_rooted {w : World} {q : List Qt.At} {d : List ByteArray} {W : World} {g b : Nat} {r0 r2 : Value} (h : Pre w q d W g b r0 r2) : Fin w q d (rooted W b) g b r0 r2 := by
  obtain ⟨h1, h2, h3, h4, h5, h6, h7⟩ := h
  obtain ⟨cs, hk, hb⟩ := row_blk h6
  have hgb : g ≠ b := by
    rintro rfl
    have := h4.symm.trans hk
    simp only [Option.some.injEq, Obj.cells.injEq] at this
    exact absurd this.2.1 (by decide)
  refine ⟨below_rooted h1 (by omega), bk_rooted h2 (by omega), h3, bk_rooted h4 hgb, row_rooted h5 h6 (by decide), ?_, row_rooted h7 h6 (by decide)⟩
  rw [← zrow_root]
  exact (((((((((((h6.stored 0 (.int .i64 2)).1.stored 1 (.int .i64 493)).1.stored 2 (.int .i64 0)).1.stored 3 (.int .i64 0)).1.stored 4 (.int .i64 1)).1.stored 5 (.int .i64 0)).1.stored 6 (.int .i64 0)).1.stored 7 (.slice none 0 0)).1.stored 8 (.slice none 0 0)).1.stored 9 (.slice none 0 0)).1)
/-- Then the call owns what it has made. -/
theorem fin_own {w : World} {q : List Qt.At} {W : World} {g b : Nat} {r0 r2 : Value} (h : Fin w q (List.replicate 56 FsV.z32) W g b r0 r2) : FsF.Own W (w.heap.size + 1) (.agg #[.int .i64 0, r0, .slice (some ⟨b, 0, none⟩) 20 20, r2]) (FsV.made q) (fpR r0 ++ [b] ++ fpR r2) := by
  obtain ⟨h1, h2, h3, h4, h5, h6, h7⟩ := h
  have a1 : Apart (fpR r0) [b] := rows_apart h5 h6 (by decide)
  have a2 : Apart (fpR r0) (fpR r2) := rows_apart h5 h7 (by decide)
  have a3 : Apart [b] (fpR r2) := rows_apart h6 h7 (by decide)
  exact ⟨_, _, _, _, _, _, rfl, rfl, nodup_app (nodup_app (fpR_nodup _) (by simp) a1) (fpR_nodup _) (apart_app.2 ⟨a2, a3⟩), ⟨h5, rfl⟩, inos_own h6, ⟨h7, rfl⟩⟩

theorem bk_ne {W : World} {g b : Nat} {cs cs' : Array Value} {t t' : TypeId} (h : Bk W g cs t) (h' : Bk W b cs' t') (hne : t ≠ t') : ¬ g = b := by
  rintro rfl
  have := h.symm.trans h'
  simp only [Option.some.injEq, Obj.cells.injEq] at this
  exact hne this.2.1
theorem ret_own {w W : World} {v : Value} {f : FsV.F} {S : List Nat} (h : FsF.Own W (w.heap.size + 1) v f S) (u0 u1 u2 u3 : Value) : FsF.Own ((((W.setCell ⟨w.heap.size, 0, none⟩ u0).setCell ⟨w.heap.size, 1, none⟩ u1).setCell ⟨w.heap.size, 2, none⟩ u2).setCell ⟨w.heap.size, 3, none⟩ u3) w.heap.size v f S :=
  FsF.own_mono (FsF.own_set (FsF.own_set (FsF.own_set (FsF.own_set h (a := ⟨w.heap.size, 0, none⟩) (Nat.lt_succ_self _) u0) (a := ⟨w.heap.size, 1, none⟩) (Nat.lt_succ_self _) u1) (a := ⟨w.heap.size, 2, none⟩) (Nat.lt_succ_self _) u2) (a := ⟨w.heap.size, 3, none⟩) (Nat.lt_succ_self _) u3) (Nat.le_succ _)

set_option maxRecDepth 100000 in
set_option maxHeartbeats 400000 in
theorem clone_any (w : World) (v : Value) (xs : List Qt.At) (hlen : xs.length ≤ 1073741824) (h : Qt.Holds w v xs) :
    Calls Tryz.prog 27 #[v] w fun e w' => ∃ v', e = .returned v' ∧ QF.Own w' w.heap.size v' xs (fpR v') ∧ Below w.heap.size w w' := by
  obtain ⟨i0, hi, hz0, hz1, hz2⟩ := info_parts Qt.info
  have q0 : ∀ (w : World) (a : Option Addr) (n c n' c' : Nat), (binOp .eql 24 (.slice a n c) (.slice none n' c')).run Tryz.prog w = .ok (.bool a.isNone) w := fun w a n c n' c' => Lib.run_eql_slice_nil w _ _ a n c n' c' Tryz.underlying24
  have hsrc := src_qs h
  obtain ⟨a, cap, rfl, hc⟩ := h
  clear hc
  cases a with
  | none =>
    have hx : xs = [] := by
      rcases hsrc with ⟨h0, _⟩ | ⟨ad, c, h0, _⟩
      · exact List.eq_nil_of_length_eq_zero h0
      · cases h0
    subst hx
    go_enter Tryz.func27, Tryz.ntmps27
    go_wp2
    go_ret
    exact ⟨_, rfl, ⟨World.ownsRow_nil _ _ _ _, rfl⟩, Below.refl _ _⟩
  | some ad =>
    have HS := Lib.hid hsrc
    clear hsrc
    obtain ⟨L, hL⟩ : ∃ L, L = xs.length := ⟨_, rfl⟩
    rw [← hL] at HS ⊢
    have HL := Lib.hid hL
    rw [← hL] at hlen
    clear hL
    go_enter Tryz.func27, Tryz.ntmps27
    go_wp2_with (at_builtin; refine wpList_append_src rfl _ _ 24 rfl w.heap.size 51 i0 (.agg #[.int .i64 0, .int .i64 0]) 2 16 Tryz.underlying24 hi hz0 hz1 hz2 rfl (by decide) _ 0 [] rfl (World.ownsRow_made w #[] 0 (Nat.le_refl _) (Nat.zero_le _) rfl) L (Qt.cells xs) ?c1 ?c2 ?c3 ?c4 ?_)
    case c1 => exact HS.out.below (fun p u hp => by rw [World.cell?_alloc_some _ _ _ (by rw [hp]; rfl)]; exact hp)
    case c2 => unfold maxLen; omega
    case c3 => omega
    case c4 => simp
    intro a' c' w1 hown1 hg1
    have HO := Lib.hid hown1
    have HB := Lib.hid (show Below w.heap.size w w1 from ((Below.refl w.heap.size w).alloc (Nat.le_refl _) _).grown hg1 (by simp) (fun k hk => by simp [Value.ownBlock] at hk; omega))
    clear hown1 hg1
    go_wp2
    go_ret
    refine ⟨_, rfl, ⟨?_, rfl⟩, HB.out⟩
    rw [← HL.out]
    have := HO.out
    simpa using this
end Go.Proofs.YtmljjdglmlnbaaaGreatDoor.FsM

-- YtmljjdglmlnbaaaGreatDoorFsN
/- Contract: the program's NewFS. Conditions: as the theorem types them. -/
namespace Go.Proofs.YtmljjdglmlnbaaaGreatDoor.FsN
open Go.ChangeShapes Go.WideShapes Go.ChangeAt Go.RowKit
open Foot Bx
open FsM (rcells zrow Pre)
set_option linter.unusedVariables false

set_option maxRecDepth 100000 in
set_option maxHeartbeats 51200000 in
theorem new_impl (w : World) (v : Value) (q : List Qt.At) (hq : q.length ≤ 1048576) (hv : InOk.Vars w) (h : Qt.Holds w v q) :
    Calls Tryz.prog 10 #[v] w fun e w' => ∃ y S, e = .returned y ∧ FsF.Own w' w.heap.size y (FsV.newV q) S ∧ Below w.heap.size w w' := by
  have HQ := Lib.hid h
  have HV := Lib.hid hv
  have HL := Lib.hid hq
  have hb1 := (Below.refl w.heap.size w).alloc (Nat.le_refl _) (.cells #[.int .i64 0, .slice none 0 0, .slice none 0 0, .slice none 0 0] 28)
  have bR := new w #[.int .i64 0, .slice none 0 0, .slice none 0 0, .slice none 0 0] 28
  have hsz : (w.alloc (.cells #[.int .i64 0, .slice none 0 0, .slice none 0 0, .slice none 0 0] 28)).heap.size = w.heap.size + 1 := by simp
  obtain ⟨va, vn, rfl⟩ := QF.form h
  have HB := Lib.hid hb1
  have BR := Lib.hid bR
  obtain ⟨C, hC⟩ : ∃ C, C = zrow.toArray := ⟨_, rfl⟩
  have HMK : ∀ W : World, (Instr.makeSlice 25 (.int .i64 20) (.int .i64 20)).run Tryz.prog W = .ok (.slice (some ⟨W.heap.size, 0, none⟩) 20 20) (W.alloc (.cells C 47)) := by rw [hC]; exact FsM.make_run
  have HCC := Lib.hid hC
  clear h hv hq hb1 bR hC
  go_enter Tryz.func10, Tryz.ntmps10
  go_wp2
  generalize w.alloc (.cells #[.int .i64 0, .slice none 0 0, .slice none 0 0, .slice none 0 0] 28) = w0 at BR HB hsz ⊢
  refine Code.wp_mono (Q := fun e a W => e = .normal ∧ ∃ (g b bx : Nat) (r0a : Option Addr) (r0c : Nat) (r2a : Option Addr) (r2c : Nat), a = { tmps := #[.slice va q.length vn, undef, .pointer (some ⟨w.heap.size, 0, none⟩), .pointer (some ⟨g, 0, none⟩), .slice va q.length vn, .slice r0a q.length r0c, .slice (some ⟨b, 0, none⟩) 20 20, .string FsV.z32, .slice (some ⟨bx, 0, none⟩) 1 1, .slice r2a 56 r2c, .agg #[.int .i64 0, .slice r0a q.length r0c, .slice (some ⟨b, 0, none⟩) 20 20, .slice r2a 56 r2c], undef, undef, undef, undef, undef, undef, undef, undef, undef], defers := [] } ∧ Pre w q (List.replicate 56 FsV.z32) W g b (.slice r0a q.length r0c) (.slice r2a 56 r2c)) ?mid ?reg
  case mid =>
    rintro e a W ⟨rfl, g, b, bx, r0a, r0c, r2a, r2c, rfl, hpre⟩
    have HP := Lib.hid hpre
    obtain ⟨_, _, _, h4, _, h6, _⟩ := hpre
    obtain ⟨x0, x1, x2, x3⟩ := Bk.c4 h4
    have hzl : zrow.length = 200 := by kernel_rfl
    obtain ⟨cs, hk, _⟩ := FsM.row_blk h6
    have hgb : ¬ g = b := FsM.bk_ne h4 hk (by decide)
    have hbg : ¬ b = g := fun e => hgb e.symm
    have k0 := (h6.cellAt 0 (by decide)).trans (show zrow[0]? = some (.int .i64 0) by kernel_rfl)
    have l0 := h6.frozenAt 0
    have k1 := (h6.cellAt 1 (by decide)).trans (show zrow[1]? = some (.int .i64 0) by kernel_rfl)
    have l1 := h6.frozenAt 1
    have k2 := (h6.cellAt 2 (by decide)).trans (show zrow[2]? = some (.int .i64 0) by kernel_rfl)
    have l2 := h6.frozenAt 2
    have k3 := (h6.cellAt 3 (by decide)).trans (show zrow[3]? = some (.int .i64 0) by kernel_rfl)
    have l3 := h6.frozenAt 3
    have k4 := (h6.cellAt 4 (by decide)).trans (show zrow[4]? = some (.int .i64 0) by kernel_rfl)
    have l4 := h6.frozenAt 4
    have k5 := (h6.cellAt 5 (by decide)).trans (show zrow[5]? = some (.int .i64 0) by kernel_rfl)
    have l5 := h6.frozenAt 5
    have k6 := (h6.cellAt 6 (by decide)).trans (show zrow[6]? = some (.int .i64 0) by kernel_rfl)
    have l6 := h6.frozenAt 6
    have k7 := (h6.cellAt 7 (by decide)).trans (show zrow[7]? = some (.slice none 0 0) by kernel_rfl)
    have l7 := h6.frozenAt 7
    have k8 := (h6.cellAt 8 (by decide)).trans (show zrow[8]? = some (.slice none 0 0) by kernel_rfl)
    have l8 := h6.frozenAt 8
    have k9 := (h6.cellAt 9 (by decide)).trans (show zrow[9]? = some (.slice none 0 0) by kernel_rfl)
    have l9 := h6.frozenAt 9
    clear h4 h6 hk hzl HQ HMK HCC BR HB hsz
    go_wp2_with fail
    have hfin := FsM.fin_rooted HP.out
    unfold FsM.rooted at hfin
    generalize (((((((((W.setCell ⟨b, 0, none⟩ (.int .i64 2)).setCell ⟨b, 1, none⟩ (.int .i64 493)).setCell ⟨b, 2, none⟩ (.int .i64 0)).setCell ⟨b, 3, none⟩ (.int .i64 0)).setCell ⟨b, 4, none⟩ (.int .i64 1)).setCell ⟨b, 5, none⟩ (.int .i64 0)).setCell ⟨b, 6, none⟩ (.int .i64 0)).setCell ⟨b, 7, none⟩ (.slice none 0 0)).setCell ⟨b, 8, none⟩ (.slice none 0 0)).setCell ⟨b, 9, none⟩ (.slice none 0 0) = W2 at hfin ⊢
    have HF := Lib.hid hfin
    clear hfin HP k0 l0 k1 l1 k2 l2 k3 l3 k4 l4 k5 l5 k6 l6 k7 l7 k8 l8 k9 l9 x0 x1 x2 x3 hgb hbg
    refine (FsE.is_impl W2 _ (FsV.made q) (FsM.cost_made (by have := HL.out; omega)) (FsM.lim_made (by have := HL.out; omega)) (HV.out.all HF.out.1) (FsF.own_holds (FsM.fin_own HF.out))).mono ?_
    rintro e w8 ⟨rfl, hb⟩
    obtain ⟨i1, i2, i3, i4, _⟩ := HF.out
    have HR := Lib.hid (Bk.all i2 hb)
    have HG := Lib.hid (Bk.all i4 hb)
    have HBF := Lib.hid (i1.trans (hb.mono i1.size))
    have HO := Lib.hid (FsF.own_below (FsM.fin_own HF.out) hb)
    clear hb i1 i2 i4 HF
    obtain ⟨B, hB⟩ : ∃ B, FsV.okF (FsV.made q) = B := ⟨_, rfl⟩
    rw [hB]
    obtain ⟨y0, y1, y2, y3⟩ := Bk.c4 HR.out
    have f0 := HR.out.free 0
    have f1 := HR.out.free 1
    have f2 := HR.out.free 2
    have f3 := HR.out.free 3
    obtain ⟨x0, x1, x2, x3⟩ := Bk.c4 HG.out
    cases B
    · have HN := Lib.hid (show FsV.newV q = FsV.zero by rw [FsV.newV, hB]; rfl)
      clear hB
      go_wp2
      have hbk : Bk _ _ [_, _, _, _].toArray _ := (((HR.out.put 0 (.int .i64 0)).put 1 (.slice none 0 0)).put 2 (.slice none 0 0)).put 3 (.slice none 0 0)
      have hbf := (((HBF.out.setCell (p := ⟨w.heap.size, 0, none⟩) (Nat.le_refl _) (.int .i64 0)).setCell (p := ⟨w.heap.size, 1, none⟩) (Nat.le_refl _) (.slice none 0 0)).setCell (p := ⟨w.heap.size, 2, none⟩) (Nat.le_refl _) (.slice none 0 0)).setCell (p := ⟨w.heap.size, 3, none⟩) (Nat.le_refl _) (.slice none 0 0)
      generalize (((w8.setCell ⟨w.heap.size, 0, none⟩ (.int .i64 0)).setCell ⟨w.heap.size, 1, none⟩ (.slice none 0 0)).setCell ⟨w.heap.size, 2, none⟩ (.slice none 0 0)).setCell ⟨w.heap.size, 3, none⟩ (.slice none 0 0) = w9 at hbk hbf ⊢
      obtain ⟨z0, z1, z2, z3⟩ := Bk.c4 hbk
      exact bodyPost_ret (v := .agg #[.int .i64 0, .slice none 0 0, .slice none 0 0, .slice none 0 0]) (by simp [results, Tryz.results10, go_sem, z0, z1, z2, z3]) rfl ⟨_, _, rfl, by rw [HN.out]; exact FsM.zero_own _ _, hbf⟩
    · have HN := Lib.hid (show FsV.newV q = FsV.made q by rw [FsV.newV, hB]; rfl)
      clear hB
      go_wp2
      have hbk : Bk _ _ [_, _, _, _].toArray _ := (((HR.out.put 0 (.int .i64 0)).put 1 (.slice r0a q.length r0c)).put 2 (.slice (some ⟨b, 0, none⟩) 20 20)).put 3 (.slice r2a 56 r2c)
      have hbf := (((HBF.out.setCell (p := ⟨w.heap.size, 0, none⟩) (Nat.le_refl _) (.int .i64 0)).setCell (p := ⟨w.heap.size, 1, none⟩) (Nat.le_refl _) (.slice r0a q.length r0c)).setCell (p := ⟨w.heap.size, 2, none⟩) (Nat.le_refl _) (.slice (some ⟨b, 0, none⟩) 20 20)).setCell (p := ⟨w.heap.size, 3, none⟩) (Nat.le_refl _) (.slice r2a 56 r2c)
      have hof := FsM.ret_own HO.out (.int .i64 0) (.slice r0a q.length r0c) (.slice (some ⟨b, 0, none⟩) 20 20) (.slice r2a 56 r2c)
      generalize (((w8.setCell ⟨w.heap.size, 0, none⟩ (.int .i64 0)).setCell ⟨w.heap.size, 1, none⟩ (.slice r0a q.length r0c)).setCell ⟨w.heap.size, 2, none⟩ (.slice (some ⟨b, 0, none⟩) 20 20)).setCell ⟨w.heap.size, 3, none⟩ (.slice r2a 56 r2c) = w9 at hbk hbf hof ⊢
      obtain ⟨z0, z1, z2, z3⟩ := Bk.c4 hbk
      exact bodyPost_ret (v := .agg #[.int .i64 0, .slice r0a q.length r0c, .slice (some ⟨b, 0, none⟩) 20 20, .slice r2a 56 r2c]) (by simp [results, Tryz.results10, go_sem, z0, z1, z2, z3]) rfl ⟨_, _, rfl, by rw [HN.out]; exact hof, hbf⟩
  go_region_held3 (fun w' => True) (trivial)
    (first | (go_at_call 27; refine (FsM.clone_any _ _ q (by have := HL.out; omega) (Qt.holds_below HQ.out (by (repeat (first | with_reducible exact HB.out | with_reducible refine Below.drew ?_ | with_reducible refine Below.alloc ?_ (by first | omega | (simp; done) | (simp; omega)) _ | with_reducible refine Below.trans ?_ (hb3.mono (by first | omega | (simp; done) | (simp; omega))) | with_reducible refine Below.trans ?_ (hb2.mono (by first | omega | (simp; done) | (simp; omega))) | with_reducible refine Below.trans ?_ (hb1.mono (by first | omega | (simp; done) | (simp; omega)))))))).mono ?_; rintro e w1 ⟨y, rfl, hown1, hb1⟩; obtain ⟨r0a, r0c, rfl⟩ := QF.own_form hown1; have hs1 := hb1.size; try simp only [World.size_alloc, World.size_drew] at hs1; skip)
           | (go_at_call 29; refine (PadTo.impl_any ⟨#[]⟩ 32 _ (by decide) (by decide)).mono ?_; rintro e w2 ⟨rfl, hb2⟩; rw [show PadTo.padB ⟨#[]⟩ 32 = FsV.z32 from rfl]; have hs2 := hb2.size; try simp only [World.size_alloc, World.size_drew] at hs2)
           | (go_at_call 28; refine (Rep.rep_any _ _ _ FsV.z32 56 (by decide) ((Bk.cell (cs := #[.string FsV.z32]) (t := 9) (by (repeat (first | with_reducible exact BR.out | with_reducible exact new_at _ _ _ _ (by first | omega | (simp; done) | (simp; omega)) | with_reducible refine Bk.drew ?_ | with_reducible refine Bk.alloc ?_ _ | with_reducible refine Bk.all ?_ hb3 | with_reducible refine Bk.all ?_ hb2 | with_reducible refine Bk.all ?_ hb1))) 0).trans rfl)).mono ?_; rintro e w3 ⟨v3, rfl, hown3, hb3⟩; obtain ⟨r2a, r2c, rfl⟩ := Dk.slice_of hown3; have hs3 := hb3.size; try simp only [World.size_alloc, World.size_drew] at hs3; (first | (obtain HG9 : Bk w3 (w2.heap.size + 1) #[.int .i64 0, .slice none 0 0, .slice none 0 0, .slice none 0 0] 28; (focus ((repeat (first | with_reducible exact BR.out | with_reducible exact new_at _ _ _ _ (by first | omega | (simp; done) | (simp; omega)) | with_reducible refine Bk.drew ?_ | with_reducible refine Bk.alloc ?_ _ | with_reducible refine Bk.all ?_ hb3 | with_reducible refine Bk.all ?_ hb2 | with_reducible refine Bk.all ?_ hb1)); done)); rename_i HG9; obtain ⟨c0, c1, c2, c3⟩ := Bk.c4 HG9; have f0 := HG9.free 0; have f1 := HG9.free 1; have f2 := HG9.free 2; have f3 := HG9.free 3; have d0 := fun o => (Bk.c4 (Bk.alloc HG9 o)).1; have d1 := fun o => (Bk.c4 (Bk.alloc HG9 o)).2.1; have d2 := fun o => (Bk.c4 (Bk.alloc HG9 o)).2.2.1; have d3 := fun o => (Bk.c4 (Bk.alloc HG9 o)).2.2.2; have e0 := fun o => (Bk.alloc HG9 o).free 0; have e1 := fun o => (Bk.alloc HG9 o).free 1; have e2 := fun o => (Bk.alloc HG9 o).free 2; have e3 := fun o => (Bk.alloc HG9 o).free 3) | (obtain HG9 : Bk w3 (w2.heap.size + 1 + 1) #[.int .i64 0, .slice none 0 0, .slice none 0 0, .slice none 0 0] 28; (focus ((repeat (first | with_reducible exact BR.out | with_reducible exact new_at _ _ _ _ (by first | omega | (simp; done) | (simp; omega)) | with_reducible refine Bk.drew ?_ | with_reducible refine Bk.alloc ?_ _ | with_reducible refine Bk.all ?_ hb3 | with_reducible refine Bk.all ?_ hb2 | with_reducible refine Bk.all ?_ hb1)); done)); rename_i HG9; obtain ⟨c0, c1, c2, c3⟩ := Bk.c4 HG9; have f0 := HG9.free 0; have f1 := HG9.free 1; have f2 := HG9.free 2; have f3 := HG9.free 3; have d0 := fun o => (Bk.c4 (Bk.alloc HG9 o)).1; have d1 := fun o => (Bk.c4 (Bk.alloc HG9 o)).2.1; have d2 := fun o => (Bk.c4 (Bk.alloc HG9 o)).2.2.1; have d3 := fun o => (Bk.c4 (Bk.alloc HG9 o)).2.2.2; have e0 := fun o => (Bk.alloc HG9 o).free 0; have e1 := fun o => (Bk.alloc HG9 o).free 1; have e2 := fun o => (Bk.alloc HG9 o).free 2; have e3 := fun o => (Bk.alloc HG9 o).free 3) | (obtain HG9 : Bk w3 (w2.heap.size) #[.int .i64 0, .slice none 0 0, .slice none 0 0, .slice none 0 0] 28; (focus ((repeat (first | with_reducible exact BR.out | with_reducible exact new_at _ _ _ _ (by first | omega | (simp; done) | (simp; omega)) | with_reducible refine Bk.drew ?_ | with_reducible refine Bk.alloc ?_ _ | with_reducible refine Bk.all ?_ hb3 | with_reducible refine Bk.all ?_ hb2 | with_reducible refine Bk.all ?_ hb1)); done)); rename_i HG9; obtain ⟨c0, c1, c2, c3⟩ := Bk.c4 HG9; have f0 := HG9.free 0; have f1 := HG9.free 1; have f2 := HG9.free 2; have f3 := HG9.free 3; have d0 := fun o => (Bk.c4 (Bk.alloc HG9 o)).1; have d1 := fun o => (Bk.c4 (Bk.alloc HG9 o)).2.1; have d2 := fun o => (Bk.c4 (Bk.alloc HG9 o)).2.2.1; have d3 := fun o => (Bk.c4 (Bk.alloc HG9 o)).2.2.2; have e0 := fun o => (Bk.alloc HG9 o).free 0; have e1 := fun o => (Bk.alloc HG9 o).free 1; have e2 := fun o => (Bk.alloc HG9 o).free 2; have e3 := fun o => (Bk.alloc HG9 o).free 3) | (obtain HG9 : Bk w3 (w1.heap.size) #[.int .i64 0, .slice none 0 0, .slice none 0 0, .slice none 0 0] 28; (focus ((repeat (first | with_reducible exact BR.out | with_reducible exact new_at _ _ _ _ (by first | omega | (simp; done) | (simp; omega)) | with_reducible refine Bk.drew ?_ | with_reducible refine Bk.alloc ?_ _ | with_reducible refine Bk.all ?_ hb3 | with_reducible refine Bk.all ?_ hb2 | with_reducible refine Bk.all ?_ hb1)); done)); rename_i HG9; obtain ⟨c0, c1, c2, c3⟩ := Bk.c4 HG9; have f0 := HG9.free 0; have f1 := HG9.free 1; have f2 := HG9.free 2; have f3 := HG9.free 3; have d0 := fun o => (Bk.c4 (Bk.alloc HG9 o)).1; have d1 := fun o => (Bk.c4 (Bk.alloc HG9 o)).2.1; have d2 := fun o => (Bk.c4 (Bk.alloc HG9 o)).2.2.1; have d3 := fun o => (Bk.c4 (Bk.alloc HG9 o)).2.2.2; have e0 := fun o => (Bk.alloc HG9 o).free 0; have e1 := fun o => (Bk.alloc HG9 o).free 1; have e2 := fun o => (Bk.alloc HG9 o).free 2; have e3 := fun o => (Bk.alloc HG9 o).free 3) | (obtain HG9 : Bk w3 (w1.heap.size + 1) #[.int .i64 0, .slice none 0 0, .slice none 0 0, .slice none 0 0] 28; (focus ((repeat (first | with_reducible exact BR.out | with_reducible exact new_at _ _ _ _ (by first | omega | (simp; done) | (simp; omega)) | with_reducible refine Bk.drew ?_ | with_reducible refine Bk.alloc ?_ _ | with_reducible refine Bk.all ?_ hb3 | with_reducible refine Bk.all ?_ hb2 | with_reducible refine Bk.all ?_ hb1)); done)); rename_i HG9; obtain ⟨c0, c1, c2, c3⟩ := Bk.c4 HG9; have f0 := HG9.free 0; have f1 := HG9.free 1; have f2 := HG9.free 2; have f3 := HG9.free 3; have d0 := fun o => (Bk.c4 (Bk.alloc HG9 o)).1; have d1 := fun o => (Bk.c4 (Bk.alloc HG9 o)).2.1; have d2 := fun o => (Bk.c4 (Bk.alloc HG9 o)).2.2.1; have d3 := fun o => (Bk.c4 (Bk.alloc HG9 o)).2.2.2; have e0 := fun o => (Bk.alloc HG9 o).free 0; have e1 := fun o => (Bk.alloc HG9 o).free 1; have e2 := fun o => (Bk.alloc HG9 o).free 2; have e3 := fun o => (Bk.alloc HG9 o).free 3) | (obtain HG9 : Bk w3 (w.heap.size + 1) #[.int .i64 0, .slice none 0 0, .slice none 0 0, .slice none 0 0] 28; (focus ((repeat (first | with_reducible exact BR.out | with_reducible exact new_at _ _ _ _ (by first | omega | (simp; done) | (simp; omega)) | with_reducible refine Bk.drew ?_ | with_reducible refine Bk.alloc ?_ _ | with_reducible refine Bk.all ?_ hb3 | with_reducible refine Bk.all ?_ hb2 | with_reducible refine Bk.all ?_ hb1)); done)); rename_i HG9; obtain ⟨c0, c1, c2, c3⟩ := Bk.c4 HG9; have f0 := HG9.free 0; have f1 := HG9.free 1; have f2 := HG9.free 2; have f3 := HG9.free 3; have d0 := fun o => (Bk.c4 (Bk.alloc HG9 o)).1; have d1 := fun o => (Bk.c4 (Bk.alloc HG9 o)).2.1; have d2 := fun o => (Bk.c4 (Bk.alloc HG9 o)).2.2.1; have d3 := fun o => (Bk.c4 (Bk.alloc HG9 o)).2.2.2; have e0 := fun o => (Bk.alloc HG9 o).free 0; have e1 := fun o => (Bk.alloc HG9 o).free 1; have e2 := fun o => (Bk.alloc HG9 o).free 2; have e3 := fun o => (Bk.alloc HG9 o).free 3) | (obtain HG9 : Bk w3 (w.heap.size + 1 + 1) #[.int .i64 0, .slice none 0 0, .slice none 0 0, .slice none 0 0] 28; (focus ((repeat (first | with_reducible exact BR.out | with_reducible exact new_at _ _ _ _ (by first | omega | (simp; done) | (simp; omega)) | with_reducible refine Bk.drew ?_ | with_reducible refine Bk.alloc ?_ _ | with_reducible refine Bk.all ?_ hb3 | with_reducible refine Bk.all ?_ hb2 | with_reducible refine Bk.all ?_ hb1)); done)); rename_i HG9; obtain ⟨c0, c1, c2, c3⟩ := Bk.c4 HG9; have f0 := HG9.free 0; have f1 := HG9.free 1; have f2 := HG9.free 2; have f3 := HG9.free 3; have d0 := fun o => (Bk.c4 (Bk.alloc HG9 o)).1; have d1 := fun o => (Bk.c4 (Bk.alloc HG9 o)).2.1; have d2 := fun o => (Bk.c4 (Bk.alloc HG9 o)).2.2.1; have d3 := fun o => (Bk.c4 (Bk.alloc HG9 o)).2.2.2; have e0 := fun o => (Bk.alloc HG9 o).free 0; have e1 := fun o => (Bk.alloc HG9 o).free 1; have e2 := fun o => (Bk.alloc HG9 o).free 2; have e3 := fun o => (Bk.alloc HG9 o).free 3) | skip)))
  all_goals
    refine ⟨rfl, _, _, _, _, _, _, _, rfl, ?_⟩
    first
      | refine FsM.pre_store ?h1 ?h2 ?h3 ?h4 ?h5 ?h6 ?h6b ?h7
      | refine ⟨?h1, ?h2, ?h3, ?h4, ?h5, FsM.made_row ?h6 ?h6b, ?h7⟩
    case h1 => (repeat (first | with_reducible exact HB.out | with_reducible refine Below.drew ?_ | with_reducible refine Below.alloc ?_ (by first | omega | (simp; done) | (simp; omega)) _ | with_reducible refine Below.trans ?_ (hb3.mono (by first | omega | (simp; done) | (simp; omega))) | with_reducible refine Below.trans ?_ (hb2.mono (by first | omega | (simp; done) | (simp; omega))) | with_reducible refine Below.trans ?_ (hb1.mono (by first | omega | (simp; done) | (simp; omega)))))
    case h2 => (repeat (first | with_reducible exact BR.out | with_reducible exact new_at _ _ _ _ (by first | omega | (simp; done) | (simp; omega)) | with_reducible refine Bk.drew ?_ | with_reducible refine Bk.alloc ?_ _ | with_reducible refine Bk.all ?_ hb3 | with_reducible refine Bk.all ?_ hb2 | with_reducible refine Bk.all ?_ hb1))
    case h3 => first | omega | (simp; omega)
    case h4 => (repeat (first | with_reducible exact BR.out | with_reducible exact new_at _ _ _ _ (by first | omega | (simp; done) | (simp; omega)) | with_reducible refine Bk.drew ?_ | with_reducible refine Bk.alloc ?_ _ | with_reducible refine Bk.all ?_ hb3 | with_reducible refine Bk.all ?_ hb2 | with_reducible refine Bk.all ?_ hb1))
    case h5 => (repeat (first | exact row_mono hown1.1 (by first | omega | (simp; done) | (simp; omega)) | exact row_mono hown3 (by first | omega | (simp; done) | (simp; omega)) | with_reducible refine World.ownsRow.drew ?_ | with_reducible refine World.ownsRow.alloc ?_ _ | with_reducible refine row_below ?_ hb3 | with_reducible refine row_below ?_ hb2))
    case h6 => rw [← HCC.out]; (repeat (first | with_reducible exact BR.out | with_reducible exact new_at _ _ _ _ (by first | omega | (simp; done) | (simp; omega)) | with_reducible refine Bk.drew ?_ | with_reducible refine Bk.alloc ?_ _ | with_reducible refine Bk.all ?_ hb3 | with_reducible refine Bk.all ?_ hb2 | with_reducible refine Bk.all ?_ hb1))
    case h6b => first | omega | (simp; omega)
    case h7 => (repeat (first | exact row_mono hown1.1 (by first | omega | (simp; done) | (simp; omega)) | exact row_mono hown3 (by first | omega | (simp; done) | (simp; omega)) | with_reducible refine World.ownsRow.drew ?_ | with_reducible refine World.ownsRow.alloc ?_ _ | with_reducible refine row_below ?_ hb3 | with_reducible refine row_below ?_ hb2))
end Go.Proofs.YtmljjdglmlnbaaaGreatDoor.FsN

-- YtmljjdglmlnbaaaGreatDoorFsI
/- Contract: the model's NewFS. Conditions: as the theorem types them. -/
namespace Go.Proofs.YtmljjdglmlnbaaaGreatDoor.FsI
open Go.ChangeShapes Go.WideShapes Go.ChangeAt Go.RowKit
open Foot Bx
open FsM (rcells zrow Pre Fin)
set_option linter.unusedVariables false

/-- How much data the file system in block b has. -/
def lenAt (w : World) (b : Nat) : Nat := match w.cell? ⟨b, 3, none⟩ with | some (.slice _ l _) => l | _ => 0
theorem fin_below {w : World} {q : List Qt.At} {d : List ByteArray} {W W' : World} {g b : Nat} {r0 r2 : Value} (h : Fin w q d W g b r0 r2) (hb : Below W.heap.size W W') : Fin w q d W' g b r0 r2 := by
  obtain ⟨h1, h2, h3, h4, h5, h6, h7⟩ := h
  exact ⟨h1.trans (hb.mono h1.size), h2.all hb, h3, h4.all hb, row_below h5 hb, row_below h6 hb, row_below h7 hb⟩
theorem blk_row {W : World} {base b size n : Nat} {e t : TypeId} {v : Value} {xs : List Value} {cs : Array Value} (h : W.ownsRow base e size v n xs) (hk : Bk W b cs t) (hne : e ≠ t) : some b ≠ v.ownBlock := by
  rcases h.2 with ⟨rfl, _⟩ | ⟨g, _, _, rfl, _, hg, _⟩
  · simp [Value.ownBlock]
  · intro e
    have e2 : b = g := by simpa [Value.ownBlock] using e
    subst e2
    have := hg.symm.trans hk
    simp only [Option.some.injEq, Obj.cells.injEq] at this
    exact hne this.2.1
theorem own_from {W : World} {base size n : Nat} {e : TypeId} {v : Value} {xs : List Value} (h : W.ownsRow base e size v n xs) : ∀ k, v.ownBlock = some k → base ≤ k := by
  intro k hk
  rcases h.2 with ⟨rfl, _⟩ | ⟨g, _, _, rfl, hb, _⟩
  · cases hk
  · have : g = k := by simpa [Value.ownBlock] using hk
    omega
/-- The data's row grows, and its new value is stored. -/
theorem fin_grown {w : World} {q : List Qt.At} {d d' : List ByteArray} {W W' : World} {g b : Nat} {r0 v v' : Value} (h : Fin w q d W g b r0 v) (hg : W.grownBy W' v.ownBlock) (hown : W'.ownsRow (w.heap.size + 1) 9 1 v' d'.length (d'.map Value.string)) :
    Fin w q d' (W'.setCell ⟨g, 3, none⟩ v') g b r0 v' := by
  obtain ⟨h1, h2, h3, h4, h5, h6, h7⟩ := h
  have k4 := h4.grown hg (blk_row h7 h4 (by decide))
  have k2 := h2.grown hg (blk_row h7 h2 (by decide))
  have k5 := h5.kept hg (Dk.own_two h5 h7 (by decide))
  have k6 := h6.kept hg (Dk.own_two h6 h7 (by decide))
  have k1 := h1.grown hg h1.size (fun k hk => Nat.le_trans (Nat.le_succ _) (own_from h7 k hk))
  have kb : Bk _ g [_, _, _, _].toArray _ := Bk.put (l := [.int .i64 0, r0, .slice (some ⟨b, 0, none⟩) 20 20, v]) k4 3 v'
  exact ⟨k1.setCell (p := ⟨g, 3, none⟩) (show w.heap.size ≤ g by omega) _, k2.far (p := ⟨g, 3, none⟩) (by simp; omega) _, h3, kb, FsM.row_far k5 k4 (by decide) 3 _, FsM.row_far k6 k4 (by decide) 3 _, FsM.row_far hown k4 (by decide) 3 _⟩
theorem len_of {w : World} {q : List Qt.At} {d : List ByteArray} {W : World} {g b k c : Nat} {r0 : Value} {a : Option Addr} (h : Fin w q d W g b r0 (.slice a k c)) : lenAt W g = k := by
  obtain ⟨_, _, _, h4, _⟩ := h
  unfold lenAt
  rw [(Bk.c4 h4).2.2.2]
theorem cost_new {q : List Qt.At} (h : q.length ≤ 1048576) : FsF.cost (FsV.newV q) ≤ 1073741824 ∧ 1 + FsF.wid (FsV.newV q) ≤ 1073741824 := by
  have e1 : FsF.cost (FsV.made q) = q.length + IF.cost (FsV.made []).inodes + SF.cost (FsV.made []).data := rfl
  have e2 : IF.cost (FsV.made []).inodes = 20 := by kernel_rfl
  have e3 : SF.cost (FsV.made []).data = 1848 := by kernel_rfl
  have e4 : FsF.cost FsV.zero = 0 := by kernel_rfl
  have w1 := FsF.wid_cost (FsV.made q)
  have w2 := FsF.wid_cost FsV.zero
  unfold FsV.newV
  split <;> omega
theorem rep_step {w : World} {base k : Nat} {v : Value} (h : w.ownsRow base 9 1 v (k + 1) ((List.replicate k FsV.z32).map Value.string ++ [.string FsV.z32])) : w.ownsRow base 9 1 v (List.replicate (k + 1) FsV.z32).length ((List.replicate (k + 1) FsV.z32).map Value.string) := by
  rw [List.length_replicate, List.replicate_succ', List.map_append]
  exact h

set_option maxRecDepth 100000 in
set_option maxHeartbeats 51200000 in
theorem new_spec (w : World) (v : Value) (q : List Qt.At) (hq : q.length ≤ 1048576) (h : Qt.Holds w v q) :
    Calls Tryz.prog 8 #[v] w fun e w' => ∃ y S, e = .returned y ∧ FsF.Own w' w.heap.size y (FsV.newV q) S ∧ Below w.heap.size w w' := by
  obtain ⟨s0, hsi, hsz0, hsz1, hsz2⟩ := info_parts Strs.strInfo
  obtain ⟨i0, hi, hz0, hz1, hz2⟩ := info_parts Qt.info
  have HQ := Lib.hid h
  have HL := Lib.hid hq
  have hb1 := (Below.refl w.heap.size w).alloc (Nat.le_refl _) (.cells #[.int .i64 0, .slice none 0 0, .slice none 0 0, .slice none 0 0] 28)
  have bR := new w #[.int .i64 0, .slice none 0 0, .slice none 0 0, .slice none 0 0] 28
  have hsz : (w.alloc (.cells #[.int .i64 0, .slice none 0 0, .slice none 0 0, .slice none 0 0] 28)).heap.size = w.heap.size + 1 := by simp
  obtain ⟨va, vn, rfl⟩ := QF.form h
  have HB := Lib.hid hb1
  have BR := Lib.hid bR
  obtain ⟨C, hC⟩ : ∃ C, C = zrow.toArray := ⟨_, rfl⟩
  have HMK : ∀ W : World, (Instr.makeSlice 25 (.int .i64 20) (.int .i64 20)).run Tryz.prog W = .ok (.slice (some ⟨W.heap.size, 0, none⟩) 20 20) (W.alloc (.cells C 47)) := by rw [hC]; exact FsM.make_run
  have HCC := Lib.hid hC
  clear h hq hb1 bR hC
  go_enter Tryz.func8, Tryz.ntmps8
  go_wp2
  generalize w.alloc (.cells #[.int .i64 0, .slice none 0 0, .slice none 0 0, .slice none 0 0] 28) = w0 at BR HB hsz ⊢
  refine Code.wp_mono (Q := fun e a W => e = .normal ∧ ∃ (g b g4 : Nat) (r0a : Option Addr) (r0c : Nat), a = { tmps := #[.slice va q.length vn, undef, .pointer (some ⟨w.heap.size, 0, none⟩), .pointer (some ⟨g, 0, none⟩), .slice (some ⟨g4, 0, none⟩) 0 0, .slice va q.length vn, .slice r0a q.length r0c, .slice (some ⟨b, 0, none⟩) 20 20, .agg #[.int .i64 0, .slice r0a q.length r0c, .slice (some ⟨b, 0, none⟩) 20 20, .slice none 0 0], undef, undef, undef, undef, undef, undef, undef, undef, undef, undef, undef, undef, undef, undef, undef, undef, undef, undef, undef], defers := [] } ∧ Pre w q [] W g b (.slice r0a q.length r0c) (.slice none 0 0)) ?mid ?reg
  case mid =>
    rintro e a W ⟨rfl, g, b, g4, r0a, r0c, rfl, hpre⟩
    have HP := Lib.hid hpre
    obtain ⟨_, _, _, h4, _, h6, _⟩ := hpre
    obtain ⟨x0, x1, x2, x3⟩ := Bk.c4 h4
    have hzl : zrow.length = 200 := by kernel_rfl
    obtain ⟨cs, hk, _⟩ := FsM.row_blk h6
    have hgb : ¬ g = b := FsM.bk_ne h4 hk (by decide)
    have hbg : ¬ b = g := fun e => hgb e.symm
    have k0 := (h6.cellAt 0 (by decide)).trans (show zrow[0]? = some (.int .i64 0) by kernel_rfl)
    have l0 := h6.frozenAt 0
    have k1 := (h6.cellAt 1 (by decide)).trans (show zrow[1]? = some (.int .i64 0) by kernel_rfl)
    have l1 := h6.frozenAt 1
    have k2 := (h6.cellAt 2 (by decide)).trans (show zrow[2]? = some (.int .i64 0) by kernel_rfl)
    have l2 := h6.frozenAt 2
    have k3 := (h6.cellAt 3 (by decide)).trans (show zrow[3]? = some (.int .i64 0) by kernel_rfl)
    have l3 := h6.frozenAt 3
    have k4 := (h6.cellAt 4 (by decide)).trans (show zrow[4]? = some (.int .i64 0) by kernel_rfl)
    have l4 := h6.frozenAt 4
    have k5 := (h6.cellAt 5 (by decide)).trans (show zrow[5]? = some (.int .i64 0) by kernel_rfl)
    have l5 := h6.frozenAt 5
    have k6 := (h6.cellAt 6 (by decide)).trans (show zrow[6]? = some (.int .i64 0) by kernel_rfl)
    have l6 := h6.frozenAt 6
    have k7 := (h6.cellAt 7 (by decide)).trans (show zrow[7]? = some (.slice none 0 0) by kernel_rfl)
    have l7 := h6.frozenAt 7
    have k8 := (h6.cellAt 8 (by decide)).trans (show zrow[8]? = some (.slice none 0 0) by kernel_rfl)
    have l8 := h6.frozenAt 8
    have k9 := (h6.cellAt 9 (by decide)).trans (show zrow[9]? = some (.slice none 0 0) by kernel_rfl)
    have l9 := h6.frozenAt 9
    clear h4 h6 hk hzl HQ HMK HCC BR HB hsz
    go_wp2
    have hfin := FsM.fin_rooted HP.out
    unfold FsM.rooted at hfin
    generalize (((((((((W.setCell ⟨b, 0, none⟩ (.int .i64 2)).setCell ⟨b, 1, none⟩ (.int .i64 493)).setCell ⟨b, 2, none⟩ (.int .i64 0)).setCell ⟨b, 3, none⟩ (.int .i64 0)).setCell ⟨b, 4, none⟩ (.int .i64 1)).setCell ⟨b, 5, none⟩ (.int .i64 0)).setCell ⟨b, 6, none⟩ (.int .i64 0)).setCell ⟨b, 7, none⟩ (.slice none 0 0)).setCell ⟨b, 8, none⟩ (.slice none 0 0)).setCell ⟨b, 9, none⟩ (.slice none 0 0) = W2 at hfin ⊢
    have HF := Lib.hid hfin
    clear hfin HP k0 l0 k1 l1 k2 l2 k3 l3 k4 l4 k5 l5 k6 l6 k7 l7 k8 l8 k9 l9 x0 x1 x2 x3 hgb hbg
    go_loopw [] (fun wr => ∃ (k : Nat) (r2a : Option Addr) (r2c : Nat), k ≤ 56 ∧ Fin w q (List.replicate k FsV.z32) wr g b (.slice r0a q.length r0c) (.slice r2a k r2c)) (fun wr => 56 - lenAt wr g)
    case atStart => exact ⟨0, none, 0, Nat.zero_le _, HF.out⟩
    case round =>
      clear HF
      obtain ⟨k, r2a, r2c, hk, hfin⟩ := hrel
      have HF := Lib.hid hfin
      have HLEN := Lib.hid (len_of hfin)
      obtain ⟨x0, x1, x2, x3⟩ := Bk.c4 hfin.2.2.2.1
      have f3 := hfin.2.2.2.1.free 3
      clear hfin
      by_cases hlt : k < 56
      · go_wp2
        go_region_law
          (first | (go_simp; go_at_call 24; refine (PadTo.spec_any ⟨#[]⟩ 32 _ (by decide)).mono ?_; rintro e w2 ⟨rfl, hb2⟩; rw [show PadTo.padB ⟨#[]⟩ 32 = FsV.z32 from rfl]; have HF2 := Lib.hid (fin_below HF.out (((Below.refl wr.heap.size wr).drew).trans (hb2.mono (by simp)))); have HF3 := Lib.hid (fin_below HF2.out ((Below.refl w2.heap.size w2).alloc (Nat.le_refl _) (.cells #[.string FsV.z32] 9))); have z3 := (Bk.c4 HF2.out.2.2.2.1).2.2.2; have z4 := (Bk.c4 HF3.out.2.2.2.1).2.2.2; clear hb2)
                 | (refine FsM.step_append_src rfl _ _ 26 rfl (w.heap.size + 1) 9 s0 (.string ⟨#[]⟩) 1 16 Tryz.underlying26 hsi hsz0 hsz1 hsz2 rfl (by decide) (.slice r2a k r2c) k ((List.replicate k FsV.z32).map Value.string) rfl ?d1 1 [.string FsV.z32] (.inr ⟨⟨w2.heap.size, 0, none⟩, 1, rfl, rfl, cell_one_new _ _ _, by simp [Value.oneCell']⟩) ?d3 ?d4 ?d5 ?_; (case d1 => (have := HF3.out.2.2.2.2.2.2; rw [List.length_replicate] at this; exact this)); (case d3 => (unfold maxLen; omega)); (case d4 => omega); (case d5 => (have := HF3.out.1.size; have := HF3.out.2.2.2.1.lt; have := HF3.out.2.2.1; omega)); intro a' c' w5 hown5 hg5; have HO5 := Lib.hid (fin_grown HF3.out hg5 (rep_step hown5)); have q3 := (HF3.out.2.2.2.1.grown hg5 (blk_row HF3.out.2.2.2.2.2.2 HF3.out.2.2.2.1 (by decide))); have y3 := (Bk.c4 q3).2.2.2; have g3 := q3.free 3; clear q3 hown5 hg5))
        all_goals
          have hfin := HO5.out
          generalize w5.setCell ⟨g, 3, none⟩ (.slice a' (k + 1) c') = w9 at hfin ⊢
          have HF9 := Lib.hid hfin
          have HL9 := Lib.hid (len_of hfin)
          clear hfin HO5
          go_wp2
          go_roundw
          case rel => exact ⟨k + 1, a', c', by omega, HF9.out⟩
          case measure => rw [HLEN.out, HL9.out]; omega
      · obtain rfl : k = 56 := by omega
        go_wp2_with fail
        refine (FsS.is_spec wr _ (FsV.made q) (FsM.cost_made (by have := HL.out; omega)) (FsM.lim_made (by have := HL.out; omega)) (FsF.own_holds (FsM.fin_own HF.out))).mono ?_
        rintro e w8 ⟨rfl, hb⟩
        obtain ⟨i1, i2, i3, i4, _⟩ := HF.out
        have HR := Lib.hid (Bk.all i2 hb)
        have HG := Lib.hid (Bk.all i4 hb)
        have HBF := Lib.hid (i1.trans (hb.mono i1.size))
        have HO := Lib.hid (FsF.own_below (FsM.fin_own HF.out) hb)
        clear hb i1 i2 i4 HF
        obtain ⟨B, hB⟩ : ∃ B, FsV.okF (FsV.made q) = B := ⟨_, rfl⟩
        rw [hB]
        obtain ⟨y0, y1, y2, y3⟩ := Bk.c4 HR.out
        have f0 := HR.out.free 0
        have f1 := HR.out.free 1
        have f2 := HR.out.free 2
        have f3 := HR.out.free 3
        obtain ⟨x0, x1, x2, x3⟩ := Bk.c4 HG.out
        cases B
        · have HN := Lib.hid (show FsV.newV q = FsV.zero by rw [FsV.newV, hB]; rfl)
          clear hB
          go_wp2
          have hbk : Bk _ _ [_, _, _, _].toArray _ := (((HR.out.put 0 (.int .i64 0)).put 1 (.slice none 0 0)).put 2 (.slice none 0 0)).put 3 (.slice none 0 0)
          have hbf := (((HBF.out.setCell (p := ⟨w.heap.size, 0, none⟩) (Nat.le_refl _) (.int .i64 0)).setCell (p := ⟨w.heap.size, 1, none⟩) (Nat.le_refl _) (.slice none 0 0)).setCell (p := ⟨w.heap.size, 2, none⟩) (Nat.le_refl _) (.slice none 0 0)).setCell (p := ⟨w.heap.size, 3, none⟩) (Nat.le_refl _) (.slice none 0 0)
          generalize (((w8.setCell ⟨w.heap.size, 0, none⟩ (.int .i64 0)).setCell ⟨w.heap.size, 1, none⟩ (.slice none 0 0)).setCell ⟨w.heap.size, 2, none⟩ (.slice none 0 0)).setCell ⟨w.heap.size, 3, none⟩ (.slice none 0 0) = w9 at hbk hbf ⊢
          obtain ⟨z0, z1, z2, z3⟩ := Bk.c4 hbk
          exact bodyPost_ret (v := .agg #[.int .i64 0, .slice none 0 0, .slice none 0 0, .slice none 0 0]) (by simp [results, Tryz.results8, go_sem, z0, z1, z2, z3]) rfl ⟨_, _, rfl, by rw [HN.out]; exact FsM.zero_own _ _, hbf⟩
        · have HN := Lib.hid (show FsV.newV q = FsV.made q by rw [FsV.newV, hB]; rfl)
          clear hB
          go_wp2
          have hbk : Bk _ _ [_, _, _, _].toArray _ := (((HR.out.put 0 (.int .i64 0)).put 1 (.slice r0a q.length r0c)).put 2 (.slice (some ⟨b, 0, none⟩) 20 20)).put 3 (.slice r2a 56 r2c)
          have hbf := (((HBF.out.setCell (p := ⟨w.heap.size, 0, none⟩) (Nat.le_refl _) (.int .i64 0)).setCell (p := ⟨w.heap.size, 1, none⟩) (Nat.le_refl _) (.slice r0a q.length r0c)).setCell (p := ⟨w.heap.size, 2, none⟩) (Nat.le_refl _) (.slice (some ⟨b, 0, none⟩) 20 20)).setCell (p := ⟨w.heap.size, 3, none⟩) (Nat.le_refl _) (.slice r2a 56 r2c)
          have hof := FsM.ret_own HO.out (.int .i64 0) (.slice r0a q.length r0c) (.slice (some ⟨b, 0, none⟩) 20 20) (.slice r2a 56 r2c)
          generalize (((w8.setCell ⟨w.heap.size, 0, none⟩ (.int .i64 0)).setCell ⟨w.heap.size, 1, none⟩ (.slice r0a q.length r0c)).setCell ⟨w.heap.size, 2, none⟩ (.slice (some ⟨b, 0, none⟩) 20 20)).setCell ⟨w.heap.size, 3, none⟩ (.slice r2a 56 r2c) = w9 at hbk hbf hof ⊢
          obtain ⟨z0, z1, z2, z3⟩ := Bk.c4 hbk
          exact bodyPost_ret (v := .agg #[.int .i64 0, .slice r0a q.length r0c, .slice (some ⟨b, 0, none⟩) 20 20, .slice r2a 56 r2c]) (by simp [results, Tryz.results8, go_sem, z0, z1, z2, z3]) rfl ⟨_, _, rfl, by rw [HN.out]; exact hof, hbf⟩
  go_region_held3 (fun w' => True) (trivial)
    (first | (refine FsM.step_append_src rfl _ _ 24 rfl (w.heap.size + 1) 51 i0 (.agg #[.int .i64 0, .int .i64 0]) 2 16 Tryz.underlying24 hi hz0 hz1 hz2 rfl (by decide) _ 0 [] rfl (FsM.empty_own ?c1 ?c0) q.length (Qt.cells q) (FsM.src_qs (Qt.holds_below HQ.out ?c2)) ?c3 ?c4 ?c5 ?_; (case c1 => exact (show Bk _ _ #[] 51 from by (repeat (first | with_reducible exact BR.out | with_reducible exact new_at _ _ _ _ (by first | omega | (simp; done) | (simp; omega)) | with_reducible refine Bk.drew ?_ | with_reducible refine Bk.alloc ?_ _ | with_reducible refine Bk.grown ?_ hg1 (by first | omega | (simp; done) | (simp; omega)))))); (case c0 => first | omega | (simp; done) | (simp; omega)); (case c2 => (repeat (first | with_reducible exact HB.out | with_reducible refine Below.drew ?_ | with_reducible refine Below.alloc ?_ (by first | omega | (simp; done) | (simp; omega)) _ | with_reducible refine Below.grown ?_ hg1 (by first | omega | (simp; done) | (simp; omega)) (fun k hk => by cases hk; first | omega | (simp; done) | (simp; omega))))); (case c3 => (have := HL.out; unfold maxLen; omega)); (case c4 => (have := HL.out; omega)); (case c5 => first | omega | (simp; done) | (simp; omega)); intro r0a r0c w1 hown1 hg1; change World.grownBy _ w1 (some _) at hg1; simp only [Nat.zero_add, List.nil_append] at hown1 ⊢; have hs1 := hg1.size; try simp only [World.size_alloc, World.size_drew] at hs1; (first | (obtain HG9 : Bk w1 (w1.heap.size) #[.int .i64 0, .slice none 0 0, .slice none 0 0, .slice none 0 0] 28; (focus ((repeat (first | with_reducible exact BR.out | with_reducible exact new_at _ _ _ _ (by first | omega | (simp; done) | (simp; omega)) | with_reducible refine Bk.drew ?_ | with_reducible refine Bk.alloc ?_ _ | with_reducible refine Bk.grown ?_ hg1 (by first | omega | (simp; done) | (simp; omega)))); done)); rename_i HG9; obtain ⟨c0, c1, c2, c3⟩ := Bk.c4 HG9; have f0 := HG9.free 0; have f1 := HG9.free 1; have f2 := HG9.free 2; have f3 := HG9.free 3; have d0 := fun o => (Bk.c4 (Bk.alloc HG9 o)).1; have d1 := fun o => (Bk.c4 (Bk.alloc HG9 o)).2.1; have d2 := fun o => (Bk.c4 (Bk.alloc HG9 o)).2.2.1; have d3 := fun o => (Bk.c4 (Bk.alloc HG9 o)).2.2.2; have e0 := fun o => (Bk.alloc HG9 o).free 0; have e1 := fun o => (Bk.alloc HG9 o).free 1; have e2 := fun o => (Bk.alloc HG9 o).free 2; have e3 := fun o => (Bk.alloc HG9 o).free 3) | (obtain HG9 : Bk w1 (w1.heap.size + 1) #[.int .i64 0, .slice none 0 0, .slice none 0 0, .slice none 0 0] 28; (focus ((repeat (first | with_reducible exact BR.out | with_reducible exact new_at _ _ _ _ (by first | omega | (simp; done) | (simp; omega)) | with_reducible refine Bk.drew ?_ | with_reducible refine Bk.alloc ?_ _ | with_reducible refine Bk.grown ?_ hg1 (by first | omega | (simp; done) | (simp; omega)))); done)); rename_i HG9; obtain ⟨c0, c1, c2, c3⟩ := Bk.c4 HG9; have f0 := HG9.free 0; have f1 := HG9.free 1; have f2 := HG9.free 2; have f3 := HG9.free 3; have d0 := fun o => (Bk.c4 (Bk.alloc HG9 o)).1; have d1 := fun o => (Bk.c4 (Bk.alloc HG9 o)).2.1; have d2 := fun o => (Bk.c4 (Bk.alloc HG9 o)).2.2.1; have d3 := fun o => (Bk.c4 (Bk.alloc HG9 o)).2.2.2; have e0 := fun o => (Bk.alloc HG9 o).free 0; have e1 := fun o => (Bk.alloc HG9 o).free 1; have e2 := fun o => (Bk.alloc HG9 o).free 2; have e3 := fun o => (Bk.alloc HG9 o).free 3) | (obtain HG9 : Bk w1 (w.heap.size + 1) #[.int .i64 0, .slice none 0 0, .slice none 0 0, .slice none 0 0] 28; (focus ((repeat (first | with_reducible exact BR.out | with_reducible exact new_at _ _ _ _ (by first | omega | (simp; done) | (simp; omega)) | with_reducible refine Bk.drew ?_ | with_reducible refine Bk.alloc ?_ _ | with_reducible refine Bk.grown ?_ hg1 (by first | omega | (simp; done) | (simp; omega)))); done)); rename_i HG9; obtain ⟨c0, c1, c2, c3⟩ := Bk.c4 HG9; have f0 := HG9.free 0; have f1 := HG9.free 1; have f2 := HG9.free 2; have f3 := HG9.free 3; have d0 := fun o => (Bk.c4 (Bk.alloc HG9 o)).1; have d1 := fun o => (Bk.c4 (Bk.alloc HG9 o)).2.1; have d2 := fun o => (Bk.c4 (Bk.alloc HG9 o)).2.2.1; have d3 := fun o => (Bk.c4 (Bk.alloc HG9 o)).2.2.2; have e0 := fun o => (Bk.alloc HG9 o).free 0; have e1 := fun o => (Bk.alloc HG9 o).free 1; have e2 := fun o => (Bk.alloc HG9 o).free 2; have e3 := fun o => (Bk.alloc HG9 o).free 3) | (obtain HG9 : Bk w1 (w.heap.size + 1 + 1) #[.int .i64 0, .slice none 0 0, .slice none 0 0, .slice none 0 0] 28; (focus ((repeat (first | with_reducible exact BR.out | with_reducible exact new_at _ _ _ _ (by first | omega | (simp; done) | (simp; omega)) | with_reducible refine Bk.drew ?_ | with_reducible refine Bk.alloc ?_ _ | with_reducible refine Bk.grown ?_ hg1 (by first | omega | (simp; done) | (simp; omega)))); done)); rename_i HG9; obtain ⟨c0, c1, c2, c3⟩ := Bk.c4 HG9; have f0 := HG9.free 0; have f1 := HG9.free 1; have f2 := HG9.free 2; have f3 := HG9.free 3; have d0 := fun o => (Bk.c4 (Bk.alloc HG9 o)).1; have d1 := fun o => (Bk.c4 (Bk.alloc HG9 o)).2.1; have d2 := fun o => (Bk.c4 (Bk.alloc HG9 o)).2.2.1; have d3 := fun o => (Bk.c4 (Bk.alloc HG9 o)).2.2.2; have e0 := fun o => (Bk.alloc HG9 o).free 0; have e1 := fun o => (Bk.alloc HG9 o).free 1; have e2 := fun o => (Bk.alloc HG9 o).free 2; have e3 := fun o => (Bk.alloc HG9 o).free 3) | (obtain HG9 : Bk w1 (w.heap.size + 1 + 1 + 1) #[.int .i64 0, .slice none 0 0, .slice none 0 0, .slice none 0 0] 28; (focus ((repeat (first | with_reducible exact BR.out | with_reducible exact new_at _ _ _ _ (by first | omega | (simp; done) | (simp; omega)) | with_reducible refine Bk.drew ?_ | with_reducible refine Bk.alloc ?_ _ | with_reducible refine Bk.grown ?_ hg1 (by first | omega | (simp; done) | (simp; omega)))); done)); rename_i HG9; obtain ⟨c0, c1, c2, c3⟩ := Bk.c4 HG9; have f0 := HG9.free 0; have f1 := HG9.free 1; have f2 := HG9.free 2; have f3 := HG9.free 3; have d0 := fun o => (Bk.c4 (Bk.alloc HG9 o)).1; have d1 := fun o => (Bk.c4 (Bk.alloc HG9 o)).2.1; have d2 := fun o => (Bk.c4 (Bk.alloc HG9 o)).2.2.1; have d3 := fun o => (Bk.c4 (Bk.alloc HG9 o)).2.2.2; have e0 := fun o => (Bk.alloc HG9 o).free 0; have e1 := fun o => (Bk.alloc HG9 o).free 1; have e2 := fun o => (Bk.alloc HG9 o).free 2; have e3 := fun o => (Bk.alloc HG9 o).free 3) | skip)))
  all_goals
    refine ⟨rfl, _, _, _, _, _, rfl, ?_⟩
    first
      | refine FsM.pre_store ?h1 ?h2 ?h3 ?h4 ?h5 ?h6 ?h6b ?h7
      | refine ⟨?h1, ?h2, ?h3, ?h4, ?h5, FsM.made_row ?h6 ?h6b, ?h7⟩
    case h1 => (repeat (first | with_reducible exact HB.out | with_reducible refine Below.drew ?_ | with_reducible refine Below.alloc ?_ (by first | omega | (simp; done) | (simp; omega)) _ | with_reducible refine Below.grown ?_ hg1 (by first | omega | (simp; done) | (simp; omega)) (fun k hk => by cases hk; first | omega | (simp; done) | (simp; omega))))
    case h2 => (repeat (first | with_reducible exact BR.out | with_reducible exact new_at _ _ _ _ (by first | omega | (simp; done) | (simp; omega)) | with_reducible refine Bk.drew ?_ | with_reducible refine Bk.alloc ?_ _ | with_reducible refine Bk.grown ?_ hg1 (by first | omega | (simp; done) | (simp; omega))))
    case h3 => first | omega | (simp; omega)
    case h4 => (repeat (first | with_reducible exact BR.out | with_reducible exact new_at _ _ _ _ (by first | omega | (simp; done) | (simp; omega)) | with_reducible refine Bk.drew ?_ | with_reducible refine Bk.alloc ?_ _ | with_reducible refine Bk.grown ?_ hg1 (by first | omega | (simp; done) | (simp; omega))))
    case h5 => (repeat (first | with_reducible exact hown1 | with_reducible refine World.ownsRow.drew ?_ | with_reducible refine World.ownsRow.alloc ?_ _))
    case h6 => rw [← HCC.out]; (repeat (first | with_reducible exact BR.out | with_reducible exact new_at _ _ _ _ (by first | omega | (simp; done) | (simp; omega)) | with_reducible refine Bk.drew ?_ | with_reducible refine Bk.alloc ?_ _ | with_reducible refine Bk.grown ?_ hg1 (by first | omega | (simp; done) | (simp; omega))))
    case h6b => first | omega | (simp; omega)
    case h7 => exact World.ownsRow_nil _ _ _ _
end Go.Proofs.YtmljjdglmlnbaaaGreatDoor.FsI
