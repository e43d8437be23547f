/- Helper texts joined, one behind another (a claim has at most 60 files): what each proves, its own head says: YtbbnginolidedaaGreatDoorSpMm, YtbbnginolidedaaGreatDoorSpMv, YtbbnginolidedaaGreatDoorSpMe. -/
import Derived.Test.YtbbnginolidedaaGreatDoorFsBaseE
import Derived.Test.YtbbnginolidedaaGreatDoorFsBaseC
import Derived.Test.YtbbnginolidedaaGreatDoorFsBaseD
import Derived.Test.YtbbnginolidedaaGreatDoorFsBaseG
import Derived.Deep.RegionLaw
import Derived.Deep.RegionHeld3
import Derived.Deep.Cut

-- YtbbnginolidedaaGreatDoorSpMm
/- The state of the model's moving of blocks, and its steps. Conditions: as each theorem types them. -/
namespace Go.Proofs.YtbbnginolidedaaGreatDoor.SpMm
open Go.ChangeShapes Go.WideShapes Go.ChangeAt Go.RowKit
open Foot Bx
open InoV (I okI usedV needV hasB)
open FsV (F okF e0 z32 usersB allB Half pick useB)
open FsY FsZ FoB FsWm FsMm
set_option linter.unusedVariables false

/-- The rows that belong to neither file system. -/
def Rw (w : World) (b nb : Nat) (a0 : Option Addr) (M c : Nat) (y1 y2 tv ov : Value) : List Nat := [w.heap.size, w.heap.size + 1, b, nb] ++ fpR (.slice a0 M c) ++ fpR y1 ++ fpR y2 ++ fpR tv ++ fpR ov
/-- The state while blocks move: the copy's box b, the inode's nb, its rows, the texts' row, the old blocks' row. -/
def WM (w : World) (lo b nb B : Nat) (f : F) (N : I) (q : Value) (gi ci gd cd : Nat) (a0 : Option Addr) (M c : Nat) (y1 y2 : Value) (fb : Array Value) (fr : Bool) (ins : List I) (d : List ByteArray) (bl : List Int) (tv : Value) (ts : List ByteArray) (ov : Value) (ol : List Int) (W : World) : Prop :=
  ∃ S, FO W lo b { f with inodes := ins, data := d } q gi ci gd cd S ∧ Bk W nb #[.int .i64 N.kind, .int .i64 N.mode, .int .i64 N.uid, .int .i64 N.gid, .int .i64 N.links, .int .i64 N.size, .int .i64 N.tick, .slice a0 M c, y1, y2] 34 ∧ W.ownsRow B 3 1 (.slice a0 M c) M (NiF.cells bl) ∧ AeF.Own W B y1 N.acl (fpR y1) ∧ AeF.Own W B y2 N.dflt (fpR y2) ∧ W.ownsRow B 9 1 tv ts.length (ts.map Value.string) ∧ W.ownsRow B 3 1 ov ol.length (NiF.cells ol) ∧ Bk W w.heap.size fb 27 ∧ Bk W (w.heap.size + 1) #[.int .i64 0, .slice none 0 0, .slice none 0 0, .slice none 0 0] 27 ∧ Apart S (Rw w b nb a0 M c y1 y2 tv ov) ∧ Apart (fpR ov) (fpR (.slice a0 M c)) ∧ (fr = false → ∀ x ∈ S, x < b) ∧ (w.heap.size ≤ lo ∧ w.heap.size + 1 < b ∧ b < B ∧ b < nb) ∧ Below w.heap.size w W
section
variable {w W W' : World} {lo b nb B : Nat} {f : F} {N : I} {q : Value} {gi ci gd cd : Nat} {a0 : Option Addr} {M c : Nat} {y1 y2 : Value} {fb : Array Value} {fr : Bool} {ins : List I} {d : List ByteArray} {bl : List Int} {tv : Value} {ts : List ByteArray} {ov : Value} {ol : List Int}
theorem wm_below (h : WM w lo b nb B f N q gi ci gd cd a0 M c y1 y2 fb fr ins d bl tv ts ov ol W) (hb : Below W.heap.size W W') : WM w lo b nb B f N q gi ci gd cd a0 M c y1 y2 fb fr ins d bl tv ts ov ol W' := by
  obtain ⟨S, h1, h2, h3, h4, h5, h6, h7, h8, h9, h10, h11, h12, h13, h14⟩ := h
  exact ⟨S, h1.below hb, h2.all hb, row_below h3 hb, AeF.own_below h4 hb, AeF.own_below h5 hb, row_below h6 hb, row_below h7 hb, h8.all hb, h9.all hb, h10, h11, h12, h13, h14.trans (hb.mono h14.size)⟩
theorem in_rw {x : Nat} (h : x ∈ [w.heap.size, w.heap.size + 1, b, nb]) : x ∈ Rw w b nb a0 M c y1 y2 tv ov := by unfold Rw; simp only [List.mem_append]; exact .inl (.inl (.inl (.inl (.inl h))))
/-- All of them are there. -/
theorem rw_lt (h : WM w lo b nb B f N q gi ci gd cd a0 M c y1 y2 fb fr ins d bl tv ts ov ol W) : ∀ x ∈ Rw w b nb a0 M c y1 y2 tv ov, x < W.heap.size := fun x hx => by
  obtain ⟨S, h1, h2, h3, h4, h5, h6, h7, h8, h9, _⟩ := h
  unfold Rw at hx
  simp only [List.mem_append, List.mem_cons, List.mem_nil_iff, or_false] at hx
  rcases hx with ((((hx | hx) | hx) | hx) | hx) | hx
  · rcases hx with rfl | rfl | rfl | rfl
    · exact h8.lt
    · exact h9.lt
    · exact h1.box.lt
    · exact h2.lt
  · exact (row_lies h3 x hx).2
  · exact (AeF.own_lies h4 x hx).2
  · exact (AeF.own_lies h5 x hx).2
  · exact (row_lies h6 x hx).2
  · exact (row_lies h7 x hx).2
/-- A change of blocks that the file system alone has. -/
theorem wm_chg {S' T : List Nat} {fr' : Bool} {ins' : List I} {d' : List ByteArray} (h : WM w lo b nb B f N q gi ci gd cd a0 M c y1 y2 fb fr ins d bl tv ts ov ol W) (hc : Chg W W' T) (hT : ∀ x ∈ T, x ∉ Rw w b nb a0 M c y1 y2 tv ov ∧ w.heap.size ≤ x) (hfo : FO W' lo b { f with inodes := ins', data := d' } q gi ci gd cd S') (hS' : Apart S' (Rw w b nb a0 M c y1 y2 tv ov)) (hfr : fr' = false → ∀ x ∈ S', x < b) : WM w lo b nb B f N q gi ci gd cd a0 M c y1 y2 fb fr' ins' d' bl tv ts ov ol W' := by
  obtain ⟨S0, h1, h2, h3, h4, h5, h6, h7, h8, h9, h10, h11, h12, h13, h14⟩ := h
  have nin : ∀ x, x ∈ Rw w b nb a0 M c y1 y2 tv ov → x ∉ T := fun x hx hh => (hT x hh).1 hx
  have hap : ∀ L : List Nat, (∀ x ∈ L, x ∈ Rw w b nb a0 M c y1 y2 tv ov) → Apart L T := fun L hL x hx => nin x (hL x hx)
  exact ⟨S', hfo, FoB.Bk.chg h2 hc (nin _ (in_rw (by simp))), row_chg h3 hc (hap _ (fun x hx => by unfold Rw; simp [hx])), AeF.own_chg h4 hc (hap _ (fun x hx => by unfold Rw; simp [hx])), AeF.own_chg h5 hc (hap _ (fun x hx => by unfold Rw; simp [hx])), row_chg h6 hc (hap _ (fun x hx => by unfold Rw; simp [hx])), row_chg h7 hc (hap _ (fun x hx => by unfold Rw; simp [hx])), FoB.Bk.chg h8 hc (nin _ (in_rw (by simp))), FoB.Bk.chg h9 hc (nin _ (in_rw (by simp))), hS', h11, hfr, h13, h14.trans (hc.below h14.size (fun x hx => (hT x hx).2))⟩
theorem wm_data (h : WM w lo b nb B f N q gi ci gd cd a0 M c y1 y2 fb fr ins d bl tv ts ov ol W) {t : Nat} (ht : t < 56) (s : ByteArray) : WM w lo b nb B f N q gi ci gd cd a0 M c y1 y2 fb fr ins (d.set t s) bl tv ts ov ol (W.setCell ⟨gd, t, none⟩ (.string s)) := by
  have h' := h
  obtain ⟨S, h1, h2, h3, h4, h5, h6, h7, h8, h9, h10, h11, h12, h13, h14⟩ := h
  refine wm_chg (S' := S) (T := [gd]) h' (chg_set W ⟨gd, t, none⟩ (.string s)) (fun x hx => ?_) (h1.setD ht s) h10 h12
  rw [List.mem_singleton] at hx
  subst hx
  exact ⟨h10 _ h1.gd_mem, by have := h1.gd_lt.1; omega⟩
/-- A cell of the inode's blocks is stored. -/
theorem wm_blk {t : Nat} {x : Int} {g : Nat} (h : WM w lo b nb B f N q gi ci gd cd (some ⟨g, 0, none⟩) M c y1 y2 fb fr ins d bl tv ts ov ol W) : WM w lo b nb B f N q gi ci gd cd (some ⟨g, 0, none⟩) M c y1 y2 fb fr ins d (bl.set t x) tv ts ov ol (W.setCell ⟨g, t, none⟩ (.int .i64 x)) := by
  obtain ⟨S, h1, h2, h3, h4, h5, h6, h7, h8, h9, h10, h11, h12, h13, h14⟩ := h
  have hc := chg_set W ⟨g, t, none⟩ (.int .i64 x)
  have hgR : g ∈ Rw w b nb (some ⟨g, 0, none⟩) M c y1 y2 tv ov := by unfold Rw; simp [fpR, Value.ownBlock]
  have hgf : g ∈ fpR (.slice (some ⟨g, 0, none⟩) M c) := by simp [fpR, Value.ownBlock]
  have one : ∀ T : List Nat, g ∉ T → Apart T [g] := fun T hT y hy hh => by rw [List.mem_singleton] at hh; exact hT (hh ▸ hy)
  have hst := (h3.stored t (.int .i64 x)).1
  rw [show (NiF.cells bl).set t (.int .i64 x) = NiF.cells (bl.set t x) from by simp [NiF.cells, List.map_set]] at hst
  have hbx : ∀ {k : Nat} {cs : Array Value} {ty : TypeId}, Bk W k cs ty → 3 ≠ ty → k ∉ [g] := fun {k cs ty} hk hne hh => by
    rw [List.mem_singleton] at hh
    subst hh
    exact CoL.row_nin h3 hk hne hgf
  have hgl := (row_lies h3 g hgf).1
  exact ⟨S, h1.chg hc (hbx h1.box (by decide)) (one _ fun hh => h10 _ hh hgR), FoB.Bk.chg h2 hc (hbx h2 (by decide)), hst, AeF.own_chg h4 hc (one _ fun hh => FsM.rows_apart h4.1 h3 (by decide) g hh hgf), AeF.own_chg h5 hc (one _ fun hh => FsM.rows_apart h5.1 h3 (by decide) g hh hgf), row_chg h6 hc (one _ fun hh => FsM.rows_apart h6 h3 (by decide) g hh hgf), row_chg h7 hc (one _ fun hh => h11 g hh hgf), FoB.Bk.chg h8 hc (hbx h8 (by decide)), FoB.Bk.chg h9 hc (hbx h9 (by decide)), h10, h11, h12, h13, h14.trans (FoB.Chg.from hc h14.size (by show w.heap.size ≤ g; omega))⟩
/-- A text is appended. -/
theorem wm_txt {W1 w6 : World} {v' : Value} {s : ByteArray} (h : WM w lo b nb B f N q gi ci gd cd a0 M c y1 y2 fb false ins d bl tv ts ov ol W) (hb : Below W.heap.size W W1) (hg : W1.grownBy w6 tv.ownBlock) (hown : w6.ownsRow B 9 1 v' (ts.length + 1) (ts.map Value.string ++ [.string s])) : WM w lo b nb B f N q gi ci gd cd a0 M c y1 y2 fb false ins d bl v' (ts ++ [s]) ov ol w6 := by
  have h' := wm_below h hb
  obtain ⟨S, h1, h2, h3, h4, h5, h6, h7, h8, h9, h10, h11, h12, h13, h14⟩ := h'
  have hc : Chg W1 w6 (fpR tv) := Chg.of_grown hg
  have hbx : ∀ {k : Nat} {cs : Array Value} {ty : TypeId}, Bk W1 k cs ty → 9 ≠ ty → k ∉ fpR tv := fun {k cs ty} hk hne => CoL.row_nin h6 hk hne
  have hSb := h12 rfl
  have hnew := row_lies hown
  have hold := row_lies h6
  have hS6 : Apart S (fpR tv) := fun x hx hh => h10 x hx (by unfold Rw; simp [hh])
  refine ⟨S, h1.chg hc (hbx h1.box (by decide)) hS6, FoB.Bk.chg h2 hc (hbx h2 (by decide)), row_chg h3 hc (FsM.rows_apart h3 h6 (by decide)), AeF.own_chg h4 hc (FsM.rows_apart h4.1 h6 (by decide)), AeF.own_chg h5 hc (FsM.rows_apart h5.1 h6 (by decide)), by rw [List.length_append, List.map_append]; exact hown, row_chg h7 hc (FsM.rows_apart h7 h6 (by decide)), FoB.Bk.chg h8 hc (hbx h8 (by decide)), FoB.Bk.chg h9 hc (hbx h9 (by decide)), fun x hx hh => ?_, h11, h12, h13, h14.trans (hc.below h14.size (fun x hx => by have := (hold x hx).1; omega))⟩
  unfold Rw at hh
  simp only [List.mem_append] at hh
  rcases hh with (((((hh | hh) | hh) | hh) | hh) | hh)
  · exact h10 x hx (in_rw hh)
  · exact h10 x hx (by unfold Rw; simp [hh])
  · exact h10 x hx (by unfold Rw; simp [hh])
  · exact h10 x hx (by unfold Rw; simp [hh])
  · have := (hnew x hh).1; have := hSb x hx; omega
  · exact h10 x hx (by unfold Rw; simp [hh])
/-- The old blocks' row comes into being. -/
theorem wm_old {w6 : World} {v' : Value} {ol' : List Int} (h : WM w lo b nb B f N q gi ci gd cd a0 M c y1 y2 fb false ins d bl tv ts (.slice none 0 0) [] W) (hb : Below W.heap.size W w6) (hfr : ∀ x ∈ fpR v', W.heap.size ≤ x) (hown : w6.ownsRow B 3 1 v' ol'.length (NiF.cells ol')) : WM w lo b nb B f N q gi ci gd cd a0 M c y1 y2 fb false ins d bl tv ts v' ol' w6 := by
  have hrl := rw_lt h
  have h' := wm_below h hb
  have hSl : ∀ {S : List Nat}, Apart S (Rw w b nb a0 M c y1 y2 tv (.slice none 0 0)) → Lies S lo W.heap.size → Apart S (Rw w b nb a0 M c y1 y2 tv v') := fun {S} h10 hl x hx hh => by
    unfold Rw at hh
    simp only [List.mem_append] at hh
    rcases hh with hh | hh
    · exact h10 x hx (by unfold Rw; simp only [List.mem_append]; exact .inl hh)
    · have := hfr x hh; have := (hl x hx).2; omega
  obtain ⟨S0, g1, _, g3, _, _, _, _, _, _, g10, _, g12, _⟩ := h
  obtain ⟨S, h1, h2, h3, h4, h5, h6, h7, h8, h9, h10, h11, h12, h13, h14⟩ := h'
  refine ⟨S0, g1.below hb, h2, h3, h4, h5, h6, hown, h8, h9, hSl g10 g1.lies, fun x hx hh => ?_, g12, h13, h14⟩
  have := hfr x hx
  have := (row_lies g3 x hh).2
  omega
/-- The inode's owner is changed. -/
theorem wm_uid {u : Int} (h : WM w lo b nb B f N q gi ci gd cd a0 M c y1 y2 fb fr ins d bl tv ts ov ol W) : WM w lo b nb B f { N with uid := u } q gi ci gd cd a0 M c y1 y2 fb fr ins d bl tv ts ov ol (W.setCell ⟨nb, 2, none⟩ (.int .i64 u)) := by
  obtain ⟨S, h1, h2, h3, h4, h5, h6, h7, h8, h9, h10, h11, h12, h13, h14⟩ := h
  have hc := chg_set W ⟨nb, 2, none⟩ (.int .i64 u)
  have one : ∀ T : List Nat, nb ∉ T → Apart T [nb] := fun T hT y hy hh => by rw [List.mem_singleton] at hh; exact hT (hh ▸ hy)
  have hk2 := Bk.put (l := [.int .i64 N.kind, .int .i64 N.mode, .int .i64 N.uid, .int .i64 N.gid, .int .i64 N.links, .int .i64 N.size, .int .i64 N.tick, .slice a0 M c, y1, y2]) h2 2 (.int .i64 u)
  exact ⟨S, h1.chg hc (by rw [List.mem_singleton]; exact FsM.bk_ne h1.box h2 (by decide)) (one _ fun hh => h10 _ hh (in_rw (by simp))), hk2, row_chg h3 hc (one _ (CoL.row_nin h3 h2 (by decide))), AeF.own_chg h4 hc (one _ (CoL.row_nin h4.1 h2 (by decide))), AeF.own_chg h5 hc (one _ (CoL.row_nin h5.1 h2 (by decide))), row_chg h6 hc (one _ (CoL.row_nin h6 h2 (by decide))), row_chg h7 hc (one _ (CoL.row_nin h7 h2 (by decide))), FoB.Bk.chg h8 hc (by rw [List.mem_singleton]; exact FsM.bk_ne h8 h2 (by decide)), FoB.Bk.chg h9 hc (by rw [List.mem_singleton]; exact FsM.bk_ne h9 h2 (by decide)), h10, h11, h12, h13, h14.trans (FoB.Chg.from hc h14.size (by show w.heap.size ≤ nb; omega))⟩
/-- A copy of the inode is stored into the file system. -/
theorem wm_ino {W0 : World} {k : Nat} {n' : I} {T : List Nat} {u0 u1 u2 u3 u4 u5 u6 u7 u8 u9 : Value} (h0 : WM w lo b nb B f N q gi ci gd cd a0 M c y1 y2 fb fr ins d bl tv ts ov ol W0) (hbl : Below W0.heap.size W0 W) (hk : k < 20) (hn0 : In.Own W W0.heap.size (.agg #[u0, u1, u2, u3, u4, u5, u6, u7, u8, u9]) n' T) : WM w lo b nb B f N q gi ci gd cd a0 M c y1 y2 fb true (ins.set k n') d bl tv ts ov ol (FoB.row10 W gi k u0 u1 u2 u3 u4 u5 u6 u7 u8 u9) := by
  have hrl := rw_lt h0
  have h' := wm_below h0 hbl
  have hL := In.own_lies hn0
  obtain ⟨S, z1, _, _, _, _, _, _, _, _, z10, _, _, z13, _⟩ := h0
  have h1 := z1.below hbl
  have hT : ∀ x ∈ T, x ∉ Rw w b nb a0 M c y1 y2 tv ov := fun x hx hh => by
    have := (hL x hx).1
    have := hrl x hh
    omega
  have hTS : Apart T S := fun x hx hh => by
    have := (hL x hx).1
    have := (z1.lies x hh).2
    omega
  have hn := In.own_mono hn0 (show lo ≤ W0.heap.size from by have := z1.gd_lt; omega)
  obtain ⟨S', hfo, hsub⟩ := h1.setI hk hn hTS (fun hh => hT _ hh (in_rw (by simp)))
  refine wm_chg (S' := S') (T := [gi]) h' (FoB.row10_chg W gi k u0 u1 u2 u3 u4 u5 u6 u7 u8 u9) (fun x hx => ?_) hfo (fun x hx => ?_) (fun hh => by cases hh)
  · rw [List.mem_singleton] at hx
    subst hx
    exact ⟨z10 _ h1.gi_mem, by have := h1.gi_lt.1; omega⟩
  · rcases hsub x hx with hx | hx
    · exact z10 x hx
    · exact hT x hx
end
end Go.Proofs.YtbbnginolidedaaGreatDoor.SpMm

-- YtbbnginolidedaaGreatDoorSpMv
/- Contract: the model's l09Move moves an inode in use, block by block, to another owner. Conditions: the cost, the inode is in use, the user's number. -/
namespace Go.Proofs.YtbbnginolidedaaGreatDoor.SpMv
open Go.ChangeShapes Go.WideShapes Go.ChangeAt Go.RowKit
open Foot Bx
open InoV (I okI usedV needV hasB)
open FsV (F okF e0 z32 usersB allB Half pick useB)
open FsY FsZ FoB FsWm FsMm SpMm
open FsZr (zeroM txtM movD)
open SpSz (Far)
set_option linter.unusedVariables false

theorem rep_set (bs : List Int) (j : Nat) (hj : j < bs.length) : (List.replicate j (-1) ++ bs.drop j).set j (-1) = List.replicate (j + 1) (-1) ++ bs.drop (j + 1) := by
  rw [List.set_append_right _ _ (by simp), List.length_replicate, Nat.sub_self, List.drop_eq_getElem_cons hj, List.set_cons_zero, List.replicate_succ']
  simp
theorem row_skip {m : Nat} {pre : List Int} (h : pre.length < m) : rowM m (pre ++ [-1]) = rowM m pre := by
  have := CoR.mid_skip (l0 := List.replicate m (-1)) (o := 0) (pre := pre) (by simpa using h)
  rw [Nat.zero_add, FsY.getD_at (by simpa using h), List.getElem_replicate] at this
  exact this.symm
theorem row_put {m : Nat} {pre : List Int} {x : Int} {j : Nat} (hp : pre.length = j) (h : j < m) : (rowM m pre).set j x = rowM m (pre ++ [x]) := by
  have := CoR.mid_set (l0 := List.replicate m (-1)) (o := 0) (pre := pre) x (by simp; omega)
  rw [Nat.zero_add, hp] at this
  exact this

set_option maxRecDepth 100000 in
set_option maxHeartbeats 12800000 in
theorem lmove_spec (w : World) (v : Value) (f : F) (k u : Nat) (hu3 : u ≤ 3) (hc : FsF.cost f ≤ 1073741824) (hob : hasObjB f k = true) (h : FsF.Holds w v f) :
    Calls Tryz.prog 94 #[v, .int .i64 k, .int .i64 u] w fun e w' => ∃ v' S, e = .returned (.tuple #[v', .int .i64 (moveV f k u).2]) ∧ FsF.Own w' w.heap.size v' (moveV f k u).1 S ∧ Below w.heap.size w w' := by
  have HFS := Lib.hid h
  have HCC := Lib.hid hc
  have HOB := Lib.hid hob
  have g := (FsOk.has_kind hob).1
  have HG := Lib.hid g
  have hk20 : k < 20 := g.lt
  obtain ⟨r0, r1, r2, rfl, g0, g1, g2⟩ := h
  have HIL := Lib.hid (show f.inodes.length = 20 from (FsV.parts_of (FsV.ok_parts g.ok).2.1).2.1)
  have HDL := Lib.hid g.dlen
  obtain ⟨qa, qc, rfl⟩ := QF.form g0
  obtain ⟨ia, ic, rfl⟩ := IF.form g1
  obtain ⟨da, dc, rfl⟩ := SF.form g2
  clear g0 g1 g2 hc hob
  have HCA := Lib.hid (fun (W : World) (hw : Below w.heap.size w W) => show Calls Tryz.prog 79 #[.agg #[.int .i64 f.tick, .slice qa f.quotas.length qc, .slice ia f.inodes.length ic, .slice da f.data.length dc]] W fun e w' => ∃ v' S, e = .returned v' ∧ FsF.Own w' W.heap.size v' f S ∧ Below W.heap.size W w' from CoS.copy_spec W _ f HCC.out (FsF.holds_below HFS.out hw))
  have HCX := Lib.hid (show In.cost (ino f k) ≤ 1073741824 from Nat.le_trans (IF.cost_mem g.mem) (Nat.le_trans (Nat.le_trans (Nat.le_add_left _ _) (FsF.le_inodes f)) HCC.out))
  obtain ⟨T, hT⟩ : ∃ T, T = f.tick := ⟨_, rfl⟩
  obtain ⟨Q, hQ⟩ : ∃ Q, Q = f.quotas.length := ⟨_, rfl⟩
  obtain ⟨M0, hM⟩ : ∃ M, M = f.inodes.length := ⟨_, rfl⟩
  obtain ⟨D, hD⟩ : ∃ D, D = f.data.length := ⟨_, rfl⟩
  rw [← hT, ← hQ, ← hM, ← hD] at HFS HCA ⊢
  clear hT hQ hM hD g
  have HB0 := Lib.hid (((Below.refl w.heap.size w).alloc (Nat.le_refl _) (.cells #[.int .i64 T, .slice qa Q qc, .slice ia M0 ic, .slice da D dc] 27)).alloc (by simp) (.cells #[.int .i64 0, .slice none 0 0, .slice none 0 0, .slice none 0 0] 27))
  have HX0 := Lib.hid ((new w #[.int .i64 T, .slice qa Q qc, .slice ia M0 ic, .slice da D dc] 27).alloc (.cells #[.int .i64 0, .slice none 0 0, .slice none 0 0, .slice none 0 0] 27))
  have HR0 := Lib.hid (new_at (w.alloc (.cells #[.int .i64 T, .slice qa Q qc, .slice ia M0 ic, .slice da D dc] 27)) #[.int .i64 0, .slice none 0 0, .slice none 0 0, .slice none 0 0] 27 (w.heap.size + 1) (by simp))
  have HS0 := Lib.hid (show w.heap.size + 1 + 1 ≤ ((w.alloc (.cells #[.int .i64 T, .slice qa Q qc, .slice ia M0 ic, .slice da D dc] 27)).alloc (.cells #[.int .i64 0, .slice none 0 0, .slice none 0 0, .slice none 0 0] 27)).heap.size by simp)
  obtain ⟨x0, x1, x2, x3⟩ := Bk.c4 HX0.out
  obtain ⟨n, hn⟩ : ∃ n, n = ino f k := ⟨_, rfl⟩
  have HVV := Lib.hid (show moveV f k u = if n.uid = u then (f, 0) else if (mvR f n u).2 = 0 then (withV f k { n with uid := u, blocks := (mvR f n u).1 } (content f.data n.blocks), 0) else (f, (mvR f n u).2) from by
    unfold moveV
    rw [HOB.out, show usersB (u : Int) = true from by unfold usersB; simp; omega, hn]; rfl)
  have HN := Lib.hid hn
  clear hn
  go_enter Tryz.func94, Tryz.ntmps94
  go_wp2_with fail
  generalize (w.alloc (.cells #[.int .i64 T, .slice qa Q qc, .slice ia M0 ic, .slice da D dc] 27)).alloc (.cells #[.int .i64 0, .slice none 0 0, .slice none 0 0, .slice none 0 0] 27) = w0 at *
  refine (HCA.out _ HB0.out).mono ?_
  rintro e w1 ⟨y, S, rfl, hown, hb⟩
  obtain ⟨qa', ql', qc', gi, ci, gd, cd, rfl, rfl⟩ := own_open hown HIL.out HDL.out
  have hsl : ∀ x ∈ S, w0.heap.size ≤ x ∧ x < w1.heap.size := FsF.own_lies hown
  have HFO := Lib.hid (show FO (w1.alloc (.cells #[.int .i64 f.tick, .slice qa' f.quotas.length qc', .slice (some ⟨gi, 0, none⟩) 20 ci, .slice (some ⟨gd, 0, none⟩) 56 cd] 27)) w0.heap.size w1.heap.size f (.slice qa' f.quotas.length qc') gi ci gd cd S from ⟨new _ _ _, fun hh => by have := (hsl _ hh).2; omega, FsF.own_below hown ((Below.refl _ _).alloc (Nat.le_refl _) _), HIL.out, HDL.out⟩)
  have HR1 := Lib.hid ((HR0.out.all hb).alloc (.cells #[.int .i64 f.tick, .slice qa' f.quotas.length qc', .slice (some ⟨gi, 0, none⟩) 20 ci, .slice (some ⟨gd, 0, none⟩) 56 cd] 27))
  have HB1 := Lib.hid ((HB0.out.trans (hb.mono HB0.out.size)).alloc (Nat.le_trans HB0.out.size hb.size) (.cells #[.int .i64 f.tick, .slice qa' f.quotas.length qc', .slice (some ⟨gi, 0, none⟩) 20 ci, .slice (some ⟨gd, 0, none⟩) 56 cd] 27))
  have HS1 := Lib.hid hb.size
  have HX1 := Lib.hid ((HX0.out.all hb).alloc (.cells #[.int .i64 f.tick, .slice qa' f.quotas.length qc', .slice (some ⟨gi, 0, none⟩) 20 ci, .slice (some ⟨gd, 0, none⟩) 56 cd] 27))
  have HSL := Lib.hid hsl
  clear hb hown hsl
  go_upto_region 2 with (fail)
  have HBW := Lib.hid ((Below.refl w1.heap.size w1).alloc (Nat.le_refl _) (.cells #[.int .i64 f.tick, .slice qa' f.quotas.length qc', .slice (some ⟨gi, 0, none⟩) 20 ci, .slice (some ⟨gd, 0, none⟩) 56 cd] 27))
  have HBN := Lib.hid (show w1.heap.size < (w1.alloc (.cells #[.int .i64 f.tick, .slice qa' f.quotas.length qc', .slice (some ⟨gi, 0, none⟩) 20 ci, .slice (some ⟨gd, 0, none⟩) 56 cd] 27)).heap.size by simp)
  generalize w1.alloc (.cells #[.int .i64 f.tick, .slice qa' f.quotas.length qc', .slice (some ⟨gi, 0, none⟩) 20 ci, .slice (some ⟨gd, 0, none⟩) 56 cd] 27) = wa at *
  obtain ⟨rr0, rr1, rr2, hCl, hPt⟩ := HFO.out.icell hk20
  rw [← HN.out] at HCX hCl hPt
  obtain ⟨p0, p1, p2⟩ := id hPt
  obtain ⟨a0, d0, rfl⟩ := NiF.form p0
  obtain ⟨a1, d1, rfl⟩ := AeF.form p1
  obtain ⟨a2, d2, rfl⟩ := AeF.form p2
  have HP := Lib.hid (IF.parts_holds hPt)
  obtain ⟨m0, m1, m2, m3, m4, m5, m6, m7, m8, m9⟩ := hCl
  obtain ⟨x0, x1, x2, x3⟩ := HFO.out.cells
  clear x0 x1 x3 p0 p1 p2 hPt
  have hi0 : (0 : Int) ≤ k := by omega
  have hi1 : (k : Int) < 20 := by omega
  go_wp2_with fail
  clear m0 m1 m2 m3 m4 m5 m6 m7 m8 m9 x2
  refine (ClS.inode_row _ _ n HCX.out HP.out).mono ?_
  rintro e w2 ⟨a', c', b1, e1, b2, e2, rfl, hrow, ho1, ho2, hnd, hb⟩
  have HF2 := Lib.hid (HFO.out.below hb)
  have HR2 := Lib.hid (HR1.out.all hb)
  have HX2 := Lib.hid (HX1.out.all hb)
  have HB2 := Lib.hid (HB1.out.trans (hb.mono HB1.out.size))
  have HS2 := Lib.hid hb.size
  have HRW := Lib.hid hrow
  have HA1 := Lib.hid ho1
  have HA2 := Lib.hid ho2
  have HFA := Lib.hid (show Far w w1.heap.size w2.heap.size gd S (fpR (.slice a' n.blocks.length c') ++ fpR (.slice b1 n.acl.length e1) ++ fpR (.slice b2 n.dflt.length e2)) from by
    have hw : w1.heap.size < wa.heap.size := HBN.out
    have hs := hb.size
    refine ⟨fun k hk => ⟨by have := (HSL.out k hk).1; have := HS0.out; omega, (HSL.out k hk).2⟩, by omega, fun k hk => ?_, HFO.out.gd_mem⟩
    rcases List.mem_append.1 hk with hk | hk
    · rcases List.mem_append.1 hk with hk | hk
      · have := row_lies hrow k hk; omega
      · have := AeF.own_lies ho1 k hk; omega
    · have := AeF.own_lies ho2 k hk; omega)
  have HY := Lib.hid (show Apart (fpR (.slice b1 n.acl.length e1)) (fpR (.slice b2 n.dflt.length e2)) from fun k hk hh => (nodup_parts hnd).2.2 k (List.mem_append.2 (.inr hk)) hh)
  clear hb hrow ho1 ho2 hnd
  go_upto_region 3 with (fail)
  have hbw : Below w2.heap.size w2 (w2.alloc (.cells #[.int .i64 n.kind, .int .i64 n.mode, .int .i64 n.uid, .int .i64 n.gid, .int .i64 n.links, .int .i64 n.size, .int .i64 n.tick, .slice a' n.blocks.length c', .slice b1 n.acl.length e1, .slice b2 n.dflt.length e2] 34)) := (Below.refl w2.heap.size w2).alloc (Nat.le_refl _) _
  have HF3 := Lib.hid (HF2.out.below hbw)
  have HK3 := Lib.hid (new w2 #[.int .i64 n.kind, .int .i64 n.mode, .int .i64 n.uid, .int .i64 n.gid, .int .i64 n.links, .int .i64 n.size, .int .i64 n.tick, .slice a' n.blocks.length c', .slice b1 n.acl.length e1, .slice b2 n.dflt.length e2] 34)
  have HW3 := Lib.hid (row_below HRW.out hbw)
  have HA13 := Lib.hid (AeF.own_below HA1.out hbw)
  have HA23 := Lib.hid (AeF.own_below HA2.out hbw)
  have HR3 := Lib.hid (HR2.out.all hbw)
  have HX3 := Lib.hid (HX2.out.all hbw)
  have HB3 := Lib.hid (HB2.out.trans (hbw.mono HB2.out.size))
  clear hbw
  generalize w2.alloc (.cells #[.int .i64 n.kind, .int .i64 n.mode, .int .i64 n.uid, .int .i64 n.gid, .int .i64 n.links, .int .i64 n.size, .int .i64 n.tick, .slice a' n.blocks.length c', .slice b1 n.acl.length e1, .slice b2 n.dflt.length e2] 34) = wb at *
  have y2 := HK3.out.cell 2
  dsimp at y2
  have hBn : wa.heap.size ≤ w2.heap.size := HS2.out
  have hbB : w1.heap.size < wa.heap.size := HBN.out
  have hwB : w.heap.size ≤ wa.heap.size := HB1.out.size
  by_cases hq : n.uid = u
  · have HVE := Lib.hid (show moveV f k u = (f, 0) from by rw [HVV.out, if_pos hq])
    have q1 : (n.uid == (u : Int)) = true := by simpa using hq
    have HNS := Lib.hid (show w.heap.size + 1 ∉ S from fun hh => by have := (HFA.out.1 _ hh).1; omega)
    have HOW := Lib.hid (FsF.own_mono HF3.out.own HB0.out.size)
    clear hq
    obtain ⟨x0, x1, x2, x3⟩ := HF3.out.cells
    obtain ⟨r0, r1, r2, r3⟩ := Bk.c4 HR3.out
    have f0 := HR3.out.free 0
    have f1 := HR3.out.free 1
    have f2 := HR3.out.free 2
    have f3 := HR3.out.free 3
    go_wp2
    have hF := FoB.box4_bk HR3.out (.int .i64 f.tick) (.slice qa' f.quotas.length qc') (.slice (some ⟨gi, 0, none⟩) 20 ci) (.slice (some ⟨gd, 0, none⟩) 56 cd)
    have hC9 := FoB.box4_chg wb (w.heap.size + 1) (.int .i64 f.tick) (.slice qa' f.quotas.length qc') (.slice (some ⟨gi, 0, none⟩) 20 ci) (.slice (some ⟨gd, 0, none⟩) 56 cd)
    unfold FoB.box4 at hF hC9
    generalize ((((wb.setCell ⟨w.heap.size + 1, 0, none⟩ (.int .i64 f.tick)).setCell ⟨w.heap.size + 1, 1, none⟩ (.slice qa' f.quotas.length qc')).setCell ⟨w.heap.size + 1, 2, none⟩ (.slice (some ⟨gi, 0, none⟩) 20 ci)).setCell ⟨w.heap.size + 1, 3, none⟩ (.slice (some ⟨gd, 0, none⟩) 56 cd)) = w9 at hF hC9 ⊢
    obtain ⟨e0, e1, e2, e3⟩ := Bk.c4 hF
    have hres := FsF.own_mono (FsF.own_chg HOW.out hC9 (fun x hx hh => by rw [List.mem_singleton] at hh; subst hh; exact HNS.out hx)) (show w.heap.size ≤ w.heap.size from Nat.le_refl _)
    refine bodyPost_ret (v := .tuple #[.agg #[.int .i64 f.tick, .slice qa' f.quotas.length qc', .slice (some ⟨gi, 0, none⟩) 20 ci, .slice (some ⟨gd, 0, none⟩) 56 cd], .int .i64 0]) (by simp [results, Tryz.results94, go_sem, e0, e1, e2, e3]) rfl ?_
    first
      | exact ⟨_, S, by rw [HVE.out], by rw [HVE.out]; exact hres, HB3.out.trans (FoB.Chg.from hC9 HB3.out.size (Nat.le_succ _))⟩
      | exact ⟨_, by rw [HVE.out], ⟨S, by rw [HVE.out]; exact hres⟩, HB3.out.trans (FoB.Chg.from hC9 HB3.out.size (Nat.le_succ _))⟩
  · have q1 : (n.uid == (u : Int)) = false := by simpa using hq
    have HVE := Lib.hid (show moveV f k u = if (mvR f n u).2 = 0 then (withV f k { n with uid := u, blocks := (mvR f n u).1 } (content f.data n.blocks), 0) else (f, (mvR f n u).2) from by rw [HVV.out, if_neg hq])
    have HQ := Lib.hid hq
    clear hq HVV
    obtain ⟨M, hM⟩ : ∃ M, M = n.blocks.length := ⟨_, rfl⟩
    have hM8 : M ≤ 8 := by have := HG.out.size.2.2.2; rw [← HN.out] at this; omega
    have HM := Lib.hid hM
    rw [← hM] at HK3 HW3 HFA
    clear hM
    go_upto_region 6 with (fail)
    have HW0 := Lib.hid (show WM w w0.heap.size w1.heap.size w2.heap.size wa.heap.size f n (.slice qa' f.quotas.length qc') gi ci gd cd a' M c' (.slice b1 n.acl.length e1) (.slice b2 n.dflt.length e2) #[.int .i64 T, .slice qa Q qc, .slice ia M0 ic, .slice da D dc] false f.inodes f.data n.blocks (.slice (some ⟨wb.heap.size, 0, none⟩) 0 0) [] (.slice none 0 0) [] (wb.alloc (.cells #[] 9)) from by
      have hbl := (Below.refl wb.heap.size wb).alloc (Nat.le_refl _) (.cells #[] 9)
      have hk := HFA.out
      have hwbl : w2.heap.size < wb.heap.size := HK3.out.lt
      refine ⟨S, HF3.out.below hbl, HK3.out.all hbl, row_below HW3.out hbl, AeF.own_below HA13.out hbl, AeF.own_below HA23.out hbl, World.ownsRow_made wb #[] 0 (by omega) (Nat.zero_le _) rfl, World.ownsRow_nil _ _ _ _, HX3.out.all hbl, HR3.out.all hbl, fun x hx hh => ?_, (fun x hx => by cases hx), fun _ x hx => (hk.1 x hx).2, ⟨HB0.out.size, by have := HS0.out; have := HS1.out; omega, hbB, by omega⟩, HB3.out.trans (hbl.mono HB3.out.size)⟩
      have h1 := hk.1 x hx
      unfold Rw at hh
      simp only [List.mem_append, List.mem_cons, List.mem_nil_iff, or_false] at hh
      rcases hh with ((((hh | hh) | hh) | hh) | hh) | hh
      · rcases hh with rfl | rfl | rfl | rfl <;> omega
      · have := (hk.2.2.1 x (by simp [hh])).1; omega
      · have := (hk.2.2.1 x (by simp [hh])).1; omega
      · have := (hk.2.2.1 x (by simp [hh])).1; omega
      · have e : x = wb.heap.size := by simpa [fpR, Value.ownBlock] using hh
        omega
      · cases hh)
    have cn7 : (wb.alloc (.cells #[] 9)).cell? ⟨w2.heap.size, 7, none⟩ = some (.slice a' M c') := (HK3.out.alloc (.cells #[] 9)).cell 7
    have HLW := Lib.hid (CoW.row_wide HW3.out)
    obtain ⟨bs, hbs⟩ : ∃ bs, bs = n.blocks := ⟨_, rfl⟩
    have HBS := Lib.hid hbs
    have HBL := Lib.hid (show bs.length = M from by rw [hbs]; exact HM.out.symm)
    rw [← hbs] at HW0
    clear hbs
    generalize wb.alloc (.cells #[] 9) = wc at *
    have HDS := Lib.hid (show ∀ x ∈ f.data, x.size = 32 from HG.out.dsz)
    have HIR := Lib.hid (show Inr bs from by rw [HBS.out, HN.out]; exact HG.out.inr)
    generalize Value.slice (some ⟨wb.heap.size, 0, none⟩) 0 0 = tv0 at *
    go_wp2
    clear cn7
    obtain ⟨si, hsi, hsz0', hsz1', hsz2'⟩ := info_parts Strs.strInfo
    have HSI0 := Lib.hid hsi
    have HSI1 := Lib.hid hsz0'
    have HSI2 := Lib.hid hsz1'
    have HSI3 := Lib.hid hsz2'
    obtain ⟨i0, hi, hz0', hz1', hz2'⟩ := info_parts Ni.intInfo
    have HII0 := Lib.hid hi
    have HII1 := Lib.hid hz0'
    have HII2 := Lib.hid hz1'
    have HII3 := Lib.hid hz2'
    clear hi hz0' hz1' hz2' hsi hsz0' hsz1' hsz2'
    go_loopw [10, 36] (fun tv iv wr => ∃ j : Nat, j ≤ M ∧ iv = .int .i64 j ∧ WM w w0.heap.size w1.heap.size w2.heap.size wa.heap.size f n (.slice qa' f.quotas.length qc') gi ci gd cd a' M c' (.slice b1 n.acl.length e1) (.slice b2 n.dflt.length e2) #[.int .i64 T, .slice qa Q qc, .slice ia M0 ic, .slice da D dc] false f.inodes (zeroM (bs.take j) f.data) bs tv (txtM (bs.take j) f.data) (.slice none 0 0) [] wr) (fun _ iv _ => M - (intOf iv).toNat)
    case atStart => exact ⟨0, Nat.zero_le _, rfl, HW0.out⟩
    case round =>
      obtain ⟨j, hj, rfl, hwm⟩ := hrel
      have HWM := Lib.hid hwm
      clear hwm HW0
      by_cases hlt : j < M
      · skip
        obtain ⟨S9, q1, q2, q3, q4, q5, q6, q7, q8, q9, q10, q11, q12, q13, q14⟩ := HWM.out
        obtain ⟨g, rfl⟩ : ∃ g, a' = some ⟨g, 0, none⟩ := by
          rcases q3.2 with ⟨hv, h0⟩ | ⟨g, cap, cur, hv, _⟩
          · omega
          · rw [Value.slice.injEq] at hv; exact ⟨g, hv.1⟩
        obtain ⟨bi, hbi⟩ : ∃ b, b = bs.getD j 0 := ⟨_, rfl⟩
        have hjb : j < bs.length := by rw [HBL.out]; exact hlt
        have cgj : wr.cell? ⟨g, j, none⟩ = some (.int .i64 bi) := by
          rw [q3.cellAt j (by simpa using hlt), NiF.cells, List.getElem?_map, List.getElem?_eq_getElem hjb, hbi, getD_at hjb]; rfl
        have hbr := HIR.out bi (by rw [hbi]; exact FsV.mem_getD hjb)
        have hl6 := q6
        have hsnz := zeroM_snoc bi (bs.take j) f.data
        have hsnt := txtM_snoc bi (bs.take j) f.data
        rw [hbi, ← take_next hjb, ← hbi] at hsnz hsnt
        have htl : (txtM (bs.take j) f.data).length = j := by rw [FsZr.txtM_len, List.length_take]; omega
        rw [htl] at hl6
        have HL6 := Lib.hid hl6
        have HTL := Lib.hid htl
        have HSZ := Lib.hid hsnz
        have HST := Lib.hid hsnt
        have HJB := Lib.hid hjb
        have hm9 : j ≤ 8 := by omega
        by_cases hb1 : bi = -1
        · subst hb1
          clear q1 q2 q3 q4 q5 q6 q7 q8 q9 q10 q11 q12 q13 q14 hl6 hsnz hsnt htl hjb hbi hbr
          go_wp2_with (first | (at_builtin; refine wpList_append_own _ rfl _ _ 25 rfl wa.heap.size 9 si (.string ⟨#[]⟩) 1 16 Tryz.underlying25 HSI0.out HSI1.out HSI2.out HSI3.out rfl (by decide) _ _ _ rfl (HL6.out.alloc _) ⟨wr.heap.size, 0, none⟩ 1 1 [.string ⟨#[]⟩] rfl rfl (InEq.cells1_new _ _ _) ?c2 ?c3 ?c4 ?c5 ?_))
          case c2 => first | rfl | simp [Value.oneCell']
          case c3 => unfold maxLen; omega
          case c4 => omega
          case c5 => have := HWM.out; exact Nat.le_trans (show wa.heap.size ≤ wr.heap.size by obtain ⟨S9, q1, q2, q3, q4⟩ := HWM.out; have := q2.lt; omega) (by simp)
          intro v' w6 hown1 hg1 _
          have hnx := wm_txt (s := e0) HWM.out ((Below.refl _ _).alloc (Nat.le_refl _) _) hg1 (by rw [HTL.out]; exact hown1)
          rw [show zeroM (bs.take j) f.data = zeroM (bs.take (j + 1)) f.data from by rw [HSZ.out]; simp, show txtM (bs.take j) f.data ++ [e0] = txtM (bs.take (j + 1)) f.data from by rw [HST.out]; simp] at hnx
          have HNX := Lib.hid hnx
          clear hnx hown1 hg1 cgj
          go_wp2
          go_roundw
          case rel => exact ⟨j + 1, by omega, by go_num, HNX.out⟩
          case measure => simp [intOf]; omega
        · obtain ⟨t, rfl⟩ : ∃ t : Nat, bi = t := ⟨bi.toNat, by omega⟩
          have ht : t < 56 := by omega
          have ht0 : (0 : Int) ≤ t := by omega
          have ht1 : (t : Int) < 56 := by omega
          have hdc := q1.dcell ht
          obtain ⟨x0, x1, x2, x3⟩ := q1.cells
          have cdt := hdc.1
          have fdt := hdc.2
          obtain ⟨blk, hblk⟩ : ∃ b, b = dat (zeroM (bs.take j) f.data) (t : Int) := ⟨_, rfl⟩
          rw [show (({ f with inodes := f.inodes, data := zeroM (bs.take j) f.data } : F).data.getD t e0) = blk from by rw [hblk]; unfold dat; rw [Int.toNat_natCast]] at cdt
          have HBK := Lib.hid hblk
          have z1 : ((t : Int) == -1) = false := by simp
          have z2 : ((t : Int) != -1) = true := by simp
          have HNZ := Lib.hid hb1
          clear q1 q2 q3 q4 q5 q6 q7 q8 q9 q10 q11 q12 q13 q14 hl6 hsnz hsnt htl hjb hbi hbr hdc hblk hb1
          go_wp2_with (first | (at_builtin; refine wpList_append_own _ rfl _ _ 25 rfl wa.heap.size 9 si (.string ⟨#[]⟩) 1 16 Tryz.underlying25 HSI0.out HSI1.out HSI2.out HSI3.out rfl (by decide) _ _ _ rfl (HL6.out.alloc _) ⟨wr.heap.size, 0, none⟩ 1 1 [.string blk] rfl rfl (InEq.cells1_new _ _ _) ?c2 ?c3 ?c4 ?c5 ?_))
          case c2 => first | rfl | simp [Value.oneCell']
          case c3 => unfold maxLen; omega
          case c4 => omega
          case c5 => exact Nat.le_trans (show wa.heap.size ≤ wr.heap.size by obtain ⟨S9, q1, q2, q3, q4⟩ := HWM.out; have := q2.lt; omega) (by simp)
          intro v' w6 hown1 hg1 _
          have hnx := wm_txt (s := blk) HWM.out ((Below.refl _ _).alloc (Nat.le_refl _) _) hg1 (by rw [HTL.out]; exact hown1)
          rw [show txtM (bs.take j) f.data ++ [blk] = txtM (bs.take (j + 1)) f.data from by rw [HST.out, if_neg HNZ.out, HBK.out]] at hnx
          have HNX := Lib.hid hnx
          clear hnx hown1 hg1 cgj cdt fdt x0 x1 x2 x3
          obtain ⟨S9, q1, q2, q3, q4, q5, q6, q7, q8, q9, q10, q11, q12, q13, q14⟩ := HNX.out
          obtain ⟨x0, x1, x2, x3⟩ := q1.cells
          clear q1 q2 q3 q4 q5 q6 q7 q8 q9 q10 q11 q12 q13 q14
          go_upto_region 12 with (fail)
          go_region_law (go_simp; go_at_call 156; ((with_reducible refine (PadTo.spec_any ⟨#[]⟩ 32 _ (by decide)).mono ?_)); rintro e w7 ⟨rfl, hb⟩; rw [show PadTo.padB ⟨#[]⟩ 32 = z32 from rfl]; have HC5 := Lib.hid (wm_below HNX.out ((Below.refl w6.heap.size w6).drew.trans hb)); clear hb; obtain ⟨S7, k1, k2⟩ := HC5.out; obtain ⟨x0, x1, x2, x3⟩ := k1.cells; obtain ⟨cd5, fd5⟩ := k1.dcell ht; clear k1 k2)
          all_goals
            have hBD := wm_data HC5.out ht z32
            rw [show (zeroM (bs.take j) f.data).set t z32 = zeroM (bs.take (j + 1)) f.data from by rw [HSZ.out, if_neg HNZ.out, Int.toNat_natCast]] at hBD
            generalize w7.setCell ⟨gd, t, none⟩ (.string z32) = w9 at hBD ⊢
            have HBD := Lib.hid hBD
            clear cd5 fd5 x0 x1 x2 x3 hBD
            go_wp2
            go_roundw
            case rel => exact ⟨j + 1, by omega, by go_num, HBD.out⟩
            case measure => simp [intOf]; omega
      · obtain rfl : M = j := by omega
        have hta : bs.take M = bs := List.take_of_length_le (Nat.le_of_eq HBL.out)
        rw [hta] at HWM
        clear hta hlt hj
        obtain ⟨S9, q1, q2, q3, q4, q5, q6, q7, q8, q9, q10, q11, q12, q13, q14⟩ := HWM.out
        have HSRC := Lib.hid (show App.SrcRow wr 1 (.slice a' M c') M (NiF.cells bs) from by
          have hh := NiF.own_holds (NiF.own_of (l := bs) (v := .slice a' M c') (by rw [HBL.out]; exact q3))
          have := ClN.src_ni hh
          rw [HBL.out] at this
          exact this)
        have cn7 : (wr.alloc (.cells #[] 3)).cell? ⟨w2.heap.size, 7, none⟩ = some (.slice a' M c') := (q2.alloc (.cells #[] 3)).cell 7
        have hwal : wa.heap.size ≤ wr.heap.size := by have := q2.lt; omega
        obtain ⟨d1, hd1⟩ : ∃ d, d = zeroM bs f.data := ⟨_, rfl⟩
        obtain ⟨ts, hts⟩ : ∃ l, l = txtM bs f.data := ⟨_, rfl⟩
        rw [← hd1, ← hts] at HWM
        have HD1 := Lib.hid hd1
        have HTS := Lib.hid hts
        clear q1 q2 q3 q4 q5 q6 q7 q8 q9 q10 q11 q12 q13 q14 hd1 hts
        go_wp2_with (first | (at_builtin; refine App.wpList_append_src rfl _ _ 31 rfl wr.heap.size 3 i0 (.int .i64 0) 1 8 Tryz.underlying31 HII0.out HII1.out HII2.out HII3.out rfl (by decide) _ 0 [] rfl (World.ownsRow_made wr #[] 0 (Nat.le_refl _) (Nat.zero_le _) rfl) M (NiF.cells bs) ?c1 ?c3 ?c4 ?c5 ?_))
        case c1 => exact ClN.src_below HSRC.out ((Below.refl wr.heap.size wr).alloc (Nat.le_refl _) (.cells #[] 3))
        case c3 => unfold maxLen; omega
        case c4 => omega
        case c5 => simp
        intro ao co w6 hown1 hg1
        have hbl6 : Below wr.heap.size wr w6 := ((Below.refl wr.heap.size wr).alloc (Nat.le_refl _) (.cells #[] 3)).trans ((Chg.of_grown hg1).below (by simp) (fun x hx => by simp [Value.ownBlock] at hx; omega))
        have hW6 := wm_old (ol' := bs) HWM.out hbl6 (row_lies hown1 · · |>.1) (by rw [HBL.out]; exact row_mono hown1 hwal)
        have HW6 := Lib.hid hW6
        clear hW6 hbl6 hown1 hg1 cn7
        obtain ⟨S9, q1, q2, q3, q4, q5, q6, q7, q8, q9, q10, q11, q12, q13, q14⟩ := HW6.out
        have fn2 := q2.free 2
        have cn2 : w6.cell? ⟨w2.heap.size, 2, none⟩ = some (.int .i64 n.uid) := q2.cell 2
        clear q1 q2 q3 q4 q5 q6 q7 q8 q9 q10 q11 q12 q13 q14
        go_upto_region 16 with (fail)
        obtain ⟨N, hN⟩ : ∃ N : I, N = { n with uid := (u : Int) } := ⟨_, rfl⟩
        have HW7 := Lib.hid (show WM w w0.heap.size w1.heap.size w2.heap.size wa.heap.size f N (.slice qa' f.quotas.length qc') gi ci gd cd a' M c' (.slice b1 n.acl.length e1) (.slice b2 n.dflt.length e2) #[.int .i64 T, .slice qa Q qc, .slice ia M0 ic, .slice da D dc] false f.inodes d1 bs u10 ts (.slice ao M co) bs (w6.setCell ⟨w2.heap.size, 2, none⟩ (.int .i64 u)) from by rw [hN]; exact wm_uid HW6.out)
        have HNN := Lib.hid hN
        clear hN fn2 cn2
        generalize w6.setCell ⟨w2.heap.size, 2, none⟩ (.int .i64 (u : Int)) = w7 at *
        obtain ⟨S9, q1, q2, q3, q4, q5, q6, q7, q8, q9, q10, q11, q12, q13, q14⟩ := HW7.out
        have cn7 : w7.cell? ⟨w2.heap.size, 7, none⟩ = some (.slice a' M c') := q2.cell 7
        clear q1 q2 q3 q4 q5 q6 q7 q8 q9 q10 q11 q12 q13 q14
        go_wp2
        clear cn7
        go_loopw [68] (fun iv wr => ∃ j : Nat, j ≤ M ∧ iv = .int .i64 j ∧ WM w w0.heap.size w1.heap.size w2.heap.size wa.heap.size f N (.slice qa' f.quotas.length qc') gi ci gd cd a' M c' (.slice b1 n.acl.length e1) (.slice b2 n.dflt.length e2) #[.int .i64 T, .slice qa Q qc, .slice ia M0 ic, .slice da D dc] false f.inodes d1 (List.replicate j (-1) ++ bs.drop j) u10 ts (.slice ao M co) bs wr) (fun iv _ => M - (intOf iv).toNat)
        case atStart => exact ⟨0, Nat.zero_le _, rfl, HW7.out⟩
        case round =>
          obtain ⟨j, hj, rfl, hwm⟩ := hrel
          have HWN := Lib.hid hwm
          clear hwm HW7
          by_cases hlt : j < M
          · obtain ⟨S9, q1, q2, q3, q4, q5, q6, q7, q8, q9, q10, q11, q12, q13, q14⟩ := HWN.out
            obtain ⟨g, rfl⟩ : ∃ g, a' = some ⟨g, 0, none⟩ := by
              rcases q3.2 with ⟨hv, h0⟩ | ⟨g, cap, cur, hv, _⟩
              · omega
              · rw [Value.slice.injEq] at hv; exact ⟨g, hv.1⟩
            have cgj : ∃ u, wr.cell? ⟨g, j, none⟩ = some u := by
              rw [q3.cellAt j (by simpa using hlt)]
              exact ⟨_, List.getElem?_eq_getElem (by have := q3.1; omega)⟩
            obtain ⟨u9, cgj⟩ := cgj
            have fgj := q3.frozenAt j
            have cn7 : wr.cell? ⟨w2.heap.size, 7, none⟩ = some (.slice (some ⟨g, 0, none⟩) M c') := q2.cell 7
            have hmc : M ≤ c' := CoW.row_wide q3
            have hW8 := wm_blk (t := j) (x := -1) HWN.out
            rw [rep_set bs j (by rw [HBL.out]; exact hlt)] at hW8
            have HW8 := Lib.hid hW8
            clear hW8 q1 q2 q3 q4 q5 q6 q7 q8 q9 q10 q11 q12 q13 q14
            go_wp2
            go_roundw
            case rel => exact ⟨j + 1, by omega, by go_num, HW8.out⟩
            case measure => simp [intOf]; omega
          · obtain rfl : M = j := by omega
            have hbl : List.replicate M (-1) ++ bs.drop M = rowM M [] := by
              rw [List.drop_eq_nil_of_le (by rw [HBL.out]; exact Nat.le_refl _), List.append_nil]
              unfold rowM CoR.mid
              simp
            rw [hbl] at HWN
            clear hbl hlt hj
            go_upto_region 21 with (fail)
            obtain ⟨S9, q1, q2, q3, q4, q5, q6, q7, q8, q9, q10, q11, q12, q13, q14⟩ := HWN.out
            have hml : (rowM M []).length = M := by have := q3.1; simpa [NiF.cells] using this
            obtain ⟨N9, hN9⟩ : ∃ N9 : I, N9 = { N with blocks := rowM M [] } := ⟨_, rfl⟩
            have HML := Lib.hid hml
            have HN9 := Lib.hid hN9
            have HCQ := Lib.hid (show Calls Tryz.prog 142 #[.agg #[.int .i64 N.kind, .int .i64 N.mode, .int .i64 N.uid, .int .i64 N.gid, .int .i64 N.links, .int .i64 N.size, .int .i64 N.tick, .slice a' M c', .slice b1 n.acl.length e1, .slice b2 n.dflt.length e2]] wr.drew _ from by
              have hin : In.Holds wr (.agg #[.int .i64 N.kind, .int .i64 N.mode, .int .i64 N.uid, .int .i64 N.gid, .int .i64 N.links, .int .i64 N.size, .int .i64 N.tick, .slice a' M c', .slice b1 n.acl.length e1, .slice b2 n.dflt.length e2]) N9 := by
                rw [hN9]
                refine ⟨_, _, _, rfl, ?_, AeF.own_holds q4, AeF.own_holds q5⟩
                have := NiF.own_holds (NiF.own_of (l := rowM M []) (v := .slice a' M c') (by rw [hml]; exact q3))
                exact this
              exact ClS.inode_row wr.drew _ N9 (by
                rw [hN9]
                have h1 := AclV.ok_len (InoV.ok_acls HG.out.inode).1
                have h2 := AclV.ok_len (InoV.ok_acls HG.out.inode).2
                rw [← HN.out] at h1 h2
                show (rowM M []).length + N.acl.length + N.dflt.length ≤ 1073741824
                rw [hml, HNN.out]
                show M + n.acl.length + n.dflt.length ≤ 1073741824
                omega) (In.holds_below hin (Below.refl wr.heap.size wr).drew))
            have hgiS := q1.gi_mem
            have ya0 : wr.cell? ⟨w1.heap.size, 2, none⟩ = some (.slice (some ⟨gi, 0, none⟩) 20 ci) := q1.cells.2.2.1
            have ya1 : wr.cell? ⟨w2.heap.size, 0, none⟩ = some (.int .i64 N.kind) := q2.cell 0
            have ya2 : wr.cell? ⟨w2.heap.size, 1, none⟩ = some (.int .i64 N.mode) := q2.cell 1
            have ya3 : wr.cell? ⟨w2.heap.size, 2, none⟩ = some (.int .i64 N.uid) := q2.cell 2
            have ya4 : wr.cell? ⟨w2.heap.size, 3, none⟩ = some (.int .i64 N.gid) := q2.cell 3
            have ya5 : wr.cell? ⟨w2.heap.size, 4, none⟩ = some (.int .i64 N.links) := q2.cell 4
            have ya6 : wr.cell? ⟨w2.heap.size, 5, none⟩ = some (.int .i64 N.size) := q2.cell 5
            have ya7 : wr.cell? ⟨w2.heap.size, 6, none⟩ = some (.int .i64 N.tick) := q2.cell 6
            have ya8 : wr.cell? ⟨w2.heap.size, 7, none⟩ = some (.slice a' M c') := q2.cell 7
            have ya9 : wr.cell? ⟨w2.heap.size, 8, none⟩ = some (.slice b1 n.acl.length e1) := q2.cell 8
            have ya10 : wr.cell? ⟨w2.heap.size, 9, none⟩ = some (.slice b2 n.dflt.length e2) := q2.cell 9
            have yb0 : wr.drew.cell? ⟨w1.heap.size, 2, none⟩ = some (.slice (some ⟨gi, 0, none⟩) 20 ci) := ya0
            have yb1 : wr.drew.cell? ⟨w2.heap.size, 0, none⟩ = some (.int .i64 N.kind) := ya1
            have yb2 : wr.drew.cell? ⟨w2.heap.size, 1, none⟩ = some (.int .i64 N.mode) := ya2
            have yb3 : wr.drew.cell? ⟨w2.heap.size, 2, none⟩ = some (.int .i64 N.uid) := ya3
            have yb4 : wr.drew.cell? ⟨w2.heap.size, 3, none⟩ = some (.int .i64 N.gid) := ya4
            have yb5 : wr.drew.cell? ⟨w2.heap.size, 4, none⟩ = some (.int .i64 N.links) := ya5
            have yb6 : wr.drew.cell? ⟨w2.heap.size, 5, none⟩ = some (.int .i64 N.size) := ya6
            have yb7 : wr.drew.cell? ⟨w2.heap.size, 6, none⟩ = some (.int .i64 N.tick) := ya7
            have yb8 : wr.drew.cell? ⟨w2.heap.size, 7, none⟩ = some (.slice a' M c') := ya8
            have yb9 : wr.drew.cell? ⟨w2.heap.size, 8, none⟩ = some (.slice b1 n.acl.length e1) := ya9
            have yb10 : wr.drew.cell? ⟨w2.heap.size, 9, none⟩ = some (.slice b2 n.dflt.length e2) := ya10
            have hi0 : (0 : Int) ≤ k := by omega
            have hi1 : (k : Int) < 20 := by omega
            clear q1 q2 q3 q4 q5 q6 q7 q8 q9 q10 q11 q12 q13 q14 hml hN9
            go_region_held3 (fun w' => w'.cell? ⟨w1.heap.size, 2, none⟩ = some (.slice (some ⟨gi, 0, none⟩) 20 ci) ∧ w'.cell? ⟨w2.heap.size, 0, none⟩ = some (.int .i64 N.kind) ∧ w'.cell? ⟨w2.heap.size, 1, none⟩ = some (.int .i64 N.mode) ∧ w'.cell? ⟨w2.heap.size, 2, none⟩ = some (.int .i64 N.uid) ∧ w'.cell? ⟨w2.heap.size, 3, none⟩ = some (.int .i64 N.gid) ∧ w'.cell? ⟨w2.heap.size, 4, none⟩ = some (.int .i64 N.links) ∧ w'.cell? ⟨w2.heap.size, 5, none⟩ = some (.int .i64 N.size) ∧ w'.cell? ⟨w2.heap.size, 6, none⟩ = some (.int .i64 N.tick) ∧ w'.cell? ⟨w2.heap.size, 7, none⟩ = some (.slice a' M c') ∧ w'.cell? ⟨w2.heap.size, 8, none⟩ = some (.slice b1 n.acl.length e1) ∧ w'.cell? ⟨w2.heap.size, 9, none⟩ = some (.slice b2 n.dflt.length e2)) (first | with_reducible exact ⟨ya0, ya1, ya2, ya3, ya4, ya5, ya6, ya7, ya8, ya9, ya10⟩ | with_reducible exact ⟨yb0, yb1, yb2, yb3, yb4, yb5, yb6, yb7, yb8, yb9, yb10⟩ | with_reducible exact ⟨yv0, yv1, yv2, yv3, yv4, yv5, yv6, yv7, yv8, yv9, yv10⟩ | with_reducible exact ⟨hp0 _ _ _ _ _ _ _ _ _ _, hp1 _ _ _ _ _ _ _ _ _ _, hp2 _ _ _ _ _ _ _ _ _ _, hp3 _ _ _ _ _ _ _ _ _ _, hp4 _ _ _ _ _ _ _ _ _ _, hp5 _ _ _ _ _ _ _ _ _ _, hp6 _ _ _ _ _ _ _ _ _ _, hp7 _ _ _ _ _ _ _ _ _ _, hp8 _ _ _ _ _ _ _ _ _ _, hp9 _ _ _ _ _ _ _ _ _ _, hp10 _ _ _ _ _ _ _ _ _ _⟩ | go_keep)
              ((go_at_call 142; (with_reducible refine HCQ.out.mono ?_); rintro e w7 ⟨ca, cc2, db, de, eb, ee, rfl, hrow, ho1, ho2, hnd, hb⟩; have hs7 := hb.size; have HWB := Lib.hid (wm_below HWN.out ((Below.refl wr.heap.size wr).drew.trans hb)); have HIO := Lib.hid (show In.Own w7 wr.heap.size (.agg #[.int .i64 N9.kind, .int .i64 N9.mode, .int .i64 N9.uid, .int .i64 N9.gid, .int .i64 N9.links, .int .i64 N9.size, .int .i64 N9.tick, .slice ca N9.blocks.length cc2, .slice db N9.acl.length de, .slice eb N9.dflt.length ee]) N9 (fpR (.slice ca N9.blocks.length cc2) ++ fpR (.slice db N9.acl.length de) ++ fpR (.slice eb N9.dflt.length ee)) from ⟨_, _, _, _, _, _, rfl, rfl, hnd, NiF.own_of hrow, ho1, ho2⟩); have HBL2 := Lib.hid ((Below.refl wr.heap.size wr).drew.trans hb); obtain ⟨M9, hM9⟩ : ∃ M, M = N9.blocks.length := ⟨_, rfl⟩; obtain ⟨A9, hA9⟩ : ∃ M, M = N9.acl.length := ⟨_, rfl⟩; obtain ⟨D9, hD9⟩ : ∃ M, M = N9.dflt.length := ⟨_, rfl⟩; rw [← hM9, ← hA9, ← hD9] at HIO ⊢; have hN9k := HN9.out; rw [hN9k] at HIO ⊢; dsimp only at HIO ⊢; obtain ⟨S7, t1, t2, t3, t4, t5, t6, t7, t8, t9, t10, t11, t12, t13, t14⟩ := HWB.out; have yv0 := t1.cells.2.2.1; have yv1 := t2.cell 0; have yv2 := t2.cell 1; have yv3 := t2.cell 2; have yv4 := t2.cell 3; have yv5 := t2.cell 4; have yv6 := t2.cell 5; have yv7 := t2.cell 6; have yv8 := t2.cell 7; have yv9 := t2.cell 8; have yv10 := t2.cell 9; dsimp at yv1 yv2 yv3 yv4 yv5 yv6 yv7 yv8 yv9 yv10; obtain ⟨rr0, rr1, rr2, hCl, hPt⟩ := t1.icell hk20; obtain ⟨m0, m1, m2, m3, m4, m5, m6, m7, m8, m9⟩ := hCl; clear hPt; have g0 : w7.frozen? ⟨gi, k * 10, none⟩ = false := t1.ifree _; have g1 : w7.frozen? ⟨gi, k * 10 + 1, none⟩ = false := t1.ifree _; have g2 : w7.frozen? ⟨gi, k * 10 + 2, none⟩ = false := t1.ifree _; have g3 : w7.frozen? ⟨gi, k * 10 + 3, none⟩ = false := t1.ifree _; have g4 : w7.frozen? ⟨gi, k * 10 + 4, none⟩ = false := t1.ifree _; have g5 : w7.frozen? ⟨gi, k * 10 + 5, none⟩ = false := t1.ifree _; have g6 : w7.frozen? ⟨gi, k * 10 + 6, none⟩ = false := t1.ifree _; have g7 : w7.frozen? ⟨gi, k * 10 + 7, none⟩ = false := t1.ifree _; have g8 : w7.frozen? ⟨gi, k * 10 + 8, none⟩ = false := t1.ifree _; have g9 : w7.frozen? ⟨gi, k * 10 + 9, none⟩ = false := t1.ifree _; have hgl7 : gi < w7.heap.size := t1.gi_lt.2; have hp0 := fun u0 u1 u2 u3 u4 u5 u6 u7 u8 u9 : Value => ((FoB.row10_chg w7 gi k u0 u1 u2 u3 u4 u5 u6 u7 u8 u9).cell (p := ⟨w1.heap.size, 2, none⟩) (t1.box.lt) (by (simp); exact fun e => t1.out (e ▸ t1.gi_mem))).trans yv0; have hp1 := fun u0 u1 u2 u3 u4 u5 u6 u7 u8 u9 : Value => ((FoB.row10_chg w7 gi k u0 u1 u2 u3 u4 u5 u6 u7 u8 u9).cell (p := ⟨w2.heap.size, 0, none⟩) (t2.lt) (by (simp); exact fun e => t10 _ t1.gi_mem (in_rw (by simp [e])))).trans yv1; have hp2 := fun u0 u1 u2 u3 u4 u5 u6 u7 u8 u9 : Value => ((FoB.row10_chg w7 gi k u0 u1 u2 u3 u4 u5 u6 u7 u8 u9).cell (p := ⟨w2.heap.size, 1, none⟩) (t2.lt) (by (simp); exact fun e => t10 _ t1.gi_mem (in_rw (by simp [e])))).trans yv2; have hp3 := fun u0 u1 u2 u3 u4 u5 u6 u7 u8 u9 : Value => ((FoB.row10_chg w7 gi k u0 u1 u2 u3 u4 u5 u6 u7 u8 u9).cell (p := ⟨w2.heap.size, 2, none⟩) (t2.lt) (by (simp); exact fun e => t10 _ t1.gi_mem (in_rw (by simp [e])))).trans yv3; have hp4 := fun u0 u1 u2 u3 u4 u5 u6 u7 u8 u9 : Value => ((FoB.row10_chg w7 gi k u0 u1 u2 u3 u4 u5 u6 u7 u8 u9).cell (p := ⟨w2.heap.size, 3, none⟩) (t2.lt) (by (simp); exact fun e => t10 _ t1.gi_mem (in_rw (by simp [e])))).trans yv4; have hp5 := fun u0 u1 u2 u3 u4 u5 u6 u7 u8 u9 : Value => ((FoB.row10_chg w7 gi k u0 u1 u2 u3 u4 u5 u6 u7 u8 u9).cell (p := ⟨w2.heap.size, 4, none⟩) (t2.lt) (by (simp); exact fun e => t10 _ t1.gi_mem (in_rw (by simp [e])))).trans yv5; have hp6 := fun u0 u1 u2 u3 u4 u5 u6 u7 u8 u9 : Value => ((FoB.row10_chg w7 gi k u0 u1 u2 u3 u4 u5 u6 u7 u8 u9).cell (p := ⟨w2.heap.size, 5, none⟩) (t2.lt) (by (simp); exact fun e => t10 _ t1.gi_mem (in_rw (by simp [e])))).trans yv6; have hp7 := fun u0 u1 u2 u3 u4 u5 u6 u7 u8 u9 : Value => ((FoB.row10_chg w7 gi k u0 u1 u2 u3 u4 u5 u6 u7 u8 u9).cell (p := ⟨w2.heap.size, 6, none⟩) (t2.lt) (by (simp); exact fun e => t10 _ t1.gi_mem (in_rw (by simp [e])))).trans yv7; have hp8 := fun u0 u1 u2 u3 u4 u5 u6 u7 u8 u9 : Value => ((FoB.row10_chg w7 gi k u0 u1 u2 u3 u4 u5 u6 u7 u8 u9).cell (p := ⟨w2.heap.size, 7, none⟩) (t2.lt) (by (simp); exact fun e => t10 _ t1.gi_mem (in_rw (by simp [e])))).trans yv8; have hp9 := fun u0 u1 u2 u3 u4 u5 u6 u7 u8 u9 : Value => ((FoB.row10_chg w7 gi k u0 u1 u2 u3 u4 u5 u6 u7 u8 u9).cell (p := ⟨w2.heap.size, 8, none⟩) (t2.lt) (by (simp); exact fun e => t10 _ t1.gi_mem (in_rw (by simp [e])))).trans yv9; have hp10 := fun u0 u1 u2 u3 u4 u5 u6 u7 u8 u9 : Value => ((FoB.row10_chg w7 gi k u0 u1 u2 u3 u4 u5 u6 u7 u8 u9).cell (p := ⟨w2.heap.size, 9, none⟩) (t2.lt) (by (simp); exact fun e => t10 _ t1.gi_mem (in_rw (by simp [e])))).trans yv10; unfold FoB.row10 at hp0 hp1 hp2 hp3 hp4 hp5 hp6 hp7 hp8 hp9 hp10; clear hrow ho1 ho2 hnd hb))
            rename_i hHeld
            clear hHeld
            rw [hM9, hA9, hD9, HN9.out] at HIO
            dsimp only at HIO
            have hfin := wm_ino HWN.out HBL2.out hk20 HIO.out
            unfold FoB.row10 at hfin
            rw [← HN9.out] at hfin

            generalize ((((((((((w7.setCell ⟨gi, k * 10, none⟩ (.int .i64 N.kind)).setCell ⟨gi, k * 10 + 1, none⟩ (.int .i64 N.mode)).setCell ⟨gi, k * 10 + 2, none⟩ (.int .i64 N.uid)).setCell ⟨gi, k * 10 + 3, none⟩ (.int .i64 N.gid)).setCell ⟨gi, k * 10 + 4, none⟩ (.int .i64 N.links)).setCell ⟨gi, k * 10 + 5, none⟩ (.int .i64 N.size)).setCell ⟨gi, k * 10 + 6, none⟩ (.int .i64 N.tick)).setCell ⟨gi, k * 10 + 7, none⟩ (.slice ca (rowM M []).length cc2)).setCell ⟨gi, k * 10 + 8, none⟩ (.slice db N.acl.length de)).setCell ⟨gi, k * 10 + 9, none⟩ (.slice eb N.dflt.length ee)) = w9 at hfin ⊢
            rw [HN9.out] at hfin
            have HFIN := Lib.hid hfin
            clear yv0 yv1 yv2 yv3 yv4 yv5 yv6 yv7 yv8 yv9 yv10 ya0 ya1 ya2 ya3 ya4 ya5 ya6 ya7 ya8 ya9 ya10 yb0 yb1 yb2 yb3 yb4 yb5 yb6 yb7 yb8 yb9 yb10 hp0 hp1 hp2 hp3 hp4 hp5 hp6 hp7 hp8 hp9 hp10 m0 m1 m2 m3 m4 m5 m6 m7 m8 m9 g0 g1 g2 g3 g4 g5 g6 g7 g8 g9 t1 t2 t3 t4 t5 t6 t7 t8 t9 t10 t11 t12 t13 t14 hs7 hgl7 hi0 hi1 hgiS hfin
            clear HIO HWB HBL2 HCQ HML hN9k hM9 hA9 hD9 HN9
            go_wp2
            obtain ⟨qv, hqv⟩ : ∃ q, q = (f.quotas.getD u (0, 0)).2 := ⟨_, rfl⟩
            have HQV := Lib.hid hqv
            clear hqv
            have HTSL := Lib.hid (show ts.length = M from by rw [HTS.out, FsZr.txtM_len]; exact HBL.out)
            have HD1L := Lib.hid (show d1.length = 56 from by rw [HD1.out, zeroM_len]; exact HDL.out)
            have HD1S := Lib.hid (show ∀ x ∈ d1, x.size = 32 from by rw [HD1.out]; exact zeroM_sz _ _ HDS.out)
            have HTSS := Lib.hid (show ∀ t (h : t < bs.length) (h' : t < ts.length), bs[t] ≠ -1 → ts[t].size = 32 from fun t h h' hne => by
              have e := FsZr.txtM_eq bs f.data f.data HIR.out (by rw [HBS.out, HN.out]; exact HG.out.dis) HDL.out fun _ _ _ => rfl
              have hi := HIR.out _ (List.getElem_mem h)
              simp only [HTS.out, e, List.getElem_map, if_neg hne]
              exact HDS.out _ (FsV.mem_getD (by rw [HDL.out]; omega)))
            go_loopw [84] (fun iv wr => ∃ (j : Nat) (pre : List Int) (s' : Int → Bool), j ≤ M ∧ iv = .int .i64 j ∧ VM f u qv bs j pre s' ∧ WM w w0.heap.size w1.heap.size w2.heap.size wa.heap.size f N (.slice qa' f.quotas.length qc') gi ci gd cd a' M c' (.slice b1 n.acl.length e1) (.slice b2 n.dflt.length e2) #[.int .i64 T, .slice qa Q qc, .slice ia M0 ic, .slice da D dc] true (f.inodes.set k { N with blocks := rowM M (pre) }) (movD (pre) (bs.take (j)) (ts.take (j)) d1) (rowM M (pre)) u10 ts (.slice ao M co) bs wr) (fun iv _ => M - (intOf iv).toNat)
            case atStart => exact ⟨0, [], _, Nat.zero_le _, rfl, vm_zero _ _ _ _, HFIN.out⟩
            case round =>
              obtain ⟨j, pre, s', hj, rfl, hvm, hwm⟩ := hrel
              have HVM := Lib.hid hvm
              have HWP := Lib.hid hwm
              have hpl : pre.length = j := vm_len hvm (by rw [HBL.out]; exact hj)
              have HPL := Lib.hid hpl
              clear hvm hwm HFIN hpl
              by_cases hlt : j < M
              · skip
                obtain ⟨S9, q1, q2, q3, q4, q5, q6, q7, q8, q9, q10, q11, q12, q13, q14⟩ := HWP.out
                obtain ⟨go, rfl⟩ : ∃ g, ao = some ⟨g, 0, none⟩ := by
                  rcases q7.2 with ⟨hv, h0⟩ | ⟨g, cap, cur, hv, _⟩
                  · rw [HBL.out] at h0; omega
                  · rw [HBL.out, Value.slice.injEq] at hv; exact ⟨g, hv.1⟩
                obtain ⟨bi, hbi⟩ : ∃ b, b = bs.getD j 0 := ⟨_, rfl⟩
                have hjb : j < bs.length := by rw [HBL.out]; exact hlt
                have hjt : j < ts.length := by rw [HTSL.out]; exact hlt
                rw [HBL.out] at q7
                have cgj : wr.cell? ⟨go, j, none⟩ = some (.int .i64 bi) := by
                  rw [q7.cellAt j (by simpa using hlt), NiF.cells, List.getElem?_map, List.getElem?_eq_getElem hjb, hbi, getD_at hjb]; rfl
                obtain ⟨tj, htj⟩ : ∃ t, t = ts[j] := ⟨_, rfl⟩
                have hmv := fun x => movD_snoc x bi tj pre (bs.take j) (ts.take j) d1 (by rw [HPL.out, List.length_take]; omega) (by rw [List.length_take, List.length_take]; omega)
                rw [hbi, htj, ← take_next hjb, ← List.take_succ_eq_append_getElem hjt, ← hbi, ← htj] at hmv
                have HMV := Lib.hid hmv
                have HBI := Lib.hid hbi
                have HJB := Lib.hid hjb
                have HTJ := Lib.hid htj
                clear hmv hbi
                have hj8 : j ≤ 8 := by omega
                by_cases hb1 : bi = -1
                · have hrs : rowM M (pre ++ [-1]) = rowM M pre := row_skip (by rw [HPL.out]; exact hlt)
                  have hmv := HMV.out (-1)
                  rw [if_pos hb1] at hmv
                  have HNX := Lib.hid (show WM w w0.heap.size w1.heap.size w2.heap.size wa.heap.size f N (.slice qa' f.quotas.length qc') gi ci gd cd a' M c' (.slice b1 n.acl.length e1) (.slice b2 n.dflt.length e2) #[.int .i64 T, .slice qa Q qc, .slice ia M0 ic, .slice da D dc] true (f.inodes.set k { N with blocks := rowM M (pre ++ [-1]) }) (movD (pre ++ [-1]) (bs.take (j + 1)) (ts.take (j + 1)) d1) (rowM M (pre ++ [-1])) u10 ts (.slice (some ⟨go, 0, none⟩) M co) bs wr from by rw [hrs, hmv]; exact HWP.out)
                  have HVN := Lib.hid (vm_skip HVM.out HJB.out (by rw [← HBI.out]; exact hb1))
                  subst hb1
                  clear q1 q2 q3 q4 q5 q6 q7 q8 q9 q10 q11 q12 q13 q14 htj hrs hmv
                  go_wp2
                  go_roundw
                  case rel => exact ⟨j + 1, pre ++ [-1], s', by omega, by go_num, HVN.out, HNX.out⟩
                  case measure => simp [intOf]; omega
                · have hbb : bs.getD j 0 ≠ -1 := by rw [← HBI.out]; exact hb1
                  have HBB := Lib.hid hbb
                  have hdl : (movD pre (bs.take j) (ts.take j) d1).length = 56 := by rw [movD_len]; exact HD1L.out
                  have hds : ∀ x ∈ (movD pre (bs.take j) (ts.take j) d1), x.size = 32 := movD_sz _ _ _ _ HD1S.out (fun t h h' hne => by
                    simp only [List.getElem_take] at hne ⊢
                    exact HTSS.out t (by rw [List.length_take] at h; omega) (by rw [List.length_take] at h'; omega) hne)
                  have hNu : ({ N with blocks := rowM M pre } : I).uid = u := by rw [HNN.out]
                  have hbn : bs = (ino f k).blocks := by rw [HBS.out, HN.out]
                  obtain ⟨hhalf, hpick, hmil⟩ := vm_half (n' := { N with blocks := rowM M pre }) HG.out (by rw [← HN.out]; exact HQ.out) hu3 hbn hNu (m := M) HBL.out.symm (Nat.le_of_lt HJB.out) rfl HVM.out (movD pre (bs.take j) (ts.take j) d1) hdl
                  have hcost := vm_cost (n' := { N with blocks := rowM M pre }) HG.out ⟨by rw [HNN.out, ← HN.out], by rw [HNN.out, ← HN.out]⟩ (by show (rowM M pre).length ≤ 8; rw [rowM_len (by rw [HPL.out]; exact Nat.le_of_lt hlt)]; exact hM8) (movD pre (bs.take j) (ts.take j) d1) hdl hds
                  have HNB := Lib.hid (FsH.nblk_any wr _ ({ f with inodes := (f.inodes.set k { N with blocks := rowM M pre }), data := (movD pre (bs.take j) (ts.take j) d1) } : F) u hu3 (Nat.le_trans hcost (by decide)) hhalf q1.holds)
                  obtain ⟨⟨x, cc⟩, hp⟩ : ∃ p, pk (14 * u) qv s' = p := ⟨_, rfl⟩
                  rw [show (({ f with inodes := (f.inodes.set k { N with blocks := rowM M pre }), data := (movD pre (bs.take j) (ts.take j) d1) } : F).quotas.getD u (0, 0)).2 = qv from HQV.out.symm, hpick, hp] at HNB
                  have HP := Lib.hid hp
                  unfold FsC.pairV at HNB
                  obtain ⟨x0, x1, x2, x3⟩ := q1.cells
                  have z1 : (bi == (-1 : Int)) = false := by simpa using hb1
                  have z2 : (bi != (-1 : Int)) = true := by simpa using hb1
                  dsimp only at HNB x0
                  clear q1 q2 q3 q4 q5 q6 q7 q8 q9 q10 q11 q12 q13 q14 hjb htj hbb hdl hds hNu hbn hhalf hpick hmil hcost hp hb1
                  go_wp2_with fail
                  refine HNB.out.mono ?_
                  rintro e w6 ⟨rfl, hb⟩
                  have HW6 := Lib.hid (wm_below HWP.out hb)
                  clear hb cgj x0 x1 x2 x3
                  obtain ⟨S9, q1, q2, q3, q4, q5, q6, q7, q8, q9, q10, q11, q12, q13, q14⟩ := HW6.out
                  by_cases h0 : cc = 0
                  rotate_left
                  · have HVF := Lib.hid (show moveV f k u = (f, cc) from by
                      have h1 := vm_fail HVM.out HJB.out HBB.out HP.out h0
                      have h2 : (mvR f n u).2 = cc := by unfold mvR; rw [← HBS.out, show quo f u = qv from HQV.out.symm]; exact h1
                      rw [HVE.out, h2]
                      exact if_neg h0)
                    have z3 : (cc != 0) = true := by simpa using h0
                    have z4 : (cc == 0) = false := by simpa using h0
                    have HB6 := Lib.hid q14
                    have HR6 := Lib.hid q9
                    have HS6 := Lib.hid (show w.heap.size + 1 + 1 ≤ w6.heap.size from by have := q9.lt; omega)
                    obtain ⟨x0, x1, x2, x3⟩ := Bk.c4 q8
                    clear h0 q1 q2 q3 q4 q5 q6 q7 q8 q9 q10 q11 q12 q13 q14
                    go_wp2_with fail
                    refine (HCA.out _ HB6.out).mono ?_
                    rintro e wk ⟨y, S, rfl, hown, hb⟩
                    obtain ⟨z0, z1a, z1n, z1c, z2a, z2n, z2c, z3a, z3n, z3c, rfl⟩ := FsF.own_form hown
                    have HBq := Lib.hid (HB6.out.trans (hb.mono HB6.out.size))
                    have HRq := Lib.hid (HR6.out.all hb)
                    have HNS := Lib.hid (show w.heap.size + 1 ∉ S from fun hh => by have h1 := (FsF.own_lies hown _ hh).1; have h2 := HS6.out; omega)
                    have HOW := Lib.hid (FsF.own_mono hown HB6.out.size)
                    clear hb hown
                    obtain ⟨r0, r1, r2, r3⟩ := Bk.c4 HRq.out
                    have f0 := HRq.out.free 0
                    have f1 := HRq.out.free 1
                    have f2 := HRq.out.free 2
                    have f3 := HRq.out.free 3
                    go_wp2
                    have hF := FoB.box4_bk HRq.out (.int .i64 z0) (.slice z1a z1n z1c) (.slice z2a z2n z2c) (.slice z3a z3n z3c)
                    have hC9 := FoB.box4_chg wk (w.heap.size + 1) (.int .i64 z0) (.slice z1a z1n z1c) (.slice z2a z2n z2c) (.slice z3a z3n z3c)
                    unfold FoB.box4 at hF hC9
                    generalize ((((wk.setCell ⟨w.heap.size + 1, 0, none⟩ (.int .i64 z0)).setCell ⟨w.heap.size + 1, 1, none⟩ (.slice z1a z1n z1c)).setCell ⟨w.heap.size + 1, 2, none⟩ (.slice z2a z2n z2c)).setCell ⟨w.heap.size + 1, 3, none⟩ (.slice z3a z3n z3c)) = w9 at hF hC9 ⊢
                    obtain ⟨e0, e1, e2, e3⟩ := Bk.c4 hF
                    have hres := FsF.own_mono (FsF.own_chg HOW.out hC9 (fun x hx hh => by rw [List.mem_singleton] at hh; subst hh; exact HNS.out hx)) (show w.heap.size ≤ w.heap.size from Nat.le_refl _)
                    refine bodyPost_ret (v := .tuple #[.agg #[.int .i64 z0, .slice z1a z1n z1c, .slice z2a z2n z2c, .slice z3a z3n z3c], .int .i64 cc]) (by simp [results, Tryz.results94, go_sem, e0, e1, e2, e3]) rfl ?_
                    first
                      | exact ⟨_, S, by rw [HVF.out], by rw [HVF.out]; exact hres, HBq.out.trans (FoB.Chg.from hC9 HBq.out.size (Nat.le_succ _))⟩
                      | exact ⟨_, by rw [HVF.out], ⟨S, by rw [HVF.out]; exact hres⟩, HBq.out.trans (FoB.Chg.from hC9 HBq.out.size (Nat.le_succ _))⟩
                  · subst h0
                    obtain ⟨k', hk', hxk, _⟩ := FsZ.pick_ok (p := fun k => s' (k : Int)) (a := 14 * u) (m := 14) (q := qv) (by have := HP.out; unfold pk at this; rw [this])
                    rw [show pick (fun k => s' (k : Int)) (14 * u) 14 qv = (x, 0) from HP.out] at hxk
                    dsimp only at hxk
                    obtain ⟨xn, hxe, hx56⟩ : ∃ xn : Nat, x = xn ∧ xn < 56 := ⟨14 * u + k', hxk, by omega⟩
                    rw [hxe] at HP
                    subst hxe
                    have HVN := Lib.hid (vm_new HVM.out HJB.out HBB.out HP.out)
                    obtain ⟨g, rfl⟩ : ∃ g, a' = some ⟨g, 0, none⟩ := by
                      rcases q3.2 with ⟨hv, h0⟩ | ⟨g, cap, cur, hv, _⟩
                      · omega
                      · rw [Value.slice.injEq] at hv; exact ⟨g, hv.1⟩
                    obtain ⟨gt, ct, rfl⟩ : ∃ g c, u10 = .slice (some ⟨g, 0, none⟩) M c := by
                      rcases q6.2 with ⟨hv, h0⟩ | ⟨g, cap, cur, hv, _⟩
                      · rw [HTSL.out] at h0; omega
                      · rw [HTSL.out] at hv; exact ⟨g, cap, hv⟩
                    have cgj : ∃ u, w6.cell? ⟨g, j, none⟩ = some u := by
                      rw [q3.cellAt j (by simpa using hlt)]
                      exact ⟨_, List.getElem?_eq_getElem (by have := q3.1; omega)⟩
                    obtain ⟨u9, cgj⟩ := cgj
                    have fgj := q3.frozenAt j
                    have cn7 : w6.cell? ⟨w2.heap.size, 7, none⟩ = some (.slice (some ⟨g, 0, none⟩) M c') := q2.cell 7
                    have hmc : M ≤ c' := CoW.row_wide q3
                    have hW8 := wm_blk (t := j) (x := (xn : Int)) HW6.out
                    rw [row_put HPL.out hlt] at hW8
                    have HW8 := Lib.hid hW8
                    clear hW8 hxk hk' q1 q2 q3 q4 q5 q6 q7 q8 q9 q10 q11 q12 q13 q14
                    go_upto_region 30 with (fail)
                    clear cgj fgj cn7
                    generalize w6.setCell ⟨g, j, none⟩ (.int .i64 (xn : Int)) = wq at HW8 ⊢
                    obtain ⟨S9, q1, q2, q3, q4, q5, q6, q7, q8, q9, q10, q11, q12, q13, q14⟩ := HW8.out
                    obtain ⟨x0, x1, x2, x3⟩ := q1.cells
                    obtain ⟨cd5, fd5⟩ := q1.dcell hx56
                    rw [HTSL.out] at q6
                    have ctj : wq.cell? ⟨gt, j, none⟩ = some (.string tj) := by
                      rw [q6.cellAt j (by simpa using hlt), List.getElem?_map, List.getElem?_eq_getElem hjt, HTJ.out]; rfl
                    have hx0 : (0 : Int) ≤ xn := by omega
                    have hx1 : (xn : Int) < 56 := by omega
                    have x3d : wq.drew.cell? ⟨w1.heap.size, 3, none⟩ = some (.slice (some ⟨gd, 0, none⟩) 56 cd) := x3
                    have ctd : wq.drew.cell? ⟨gt, j, none⟩ = some (.string tj) := ctj
                    have fdd : wq.drew.frozen? ⟨gd, xn, none⟩ = false := fd5
                    have hW9 := wm_below (wm_data HW8.out hx56 tj) (Below.refl _ (wq.setCell ⟨gd, xn, none⟩ (.string tj))).drew
                    have hmv := HMV.out (xn : Int)
                    rw [if_neg (show ¬ bi = -1 by rw [HBI.out]; exact HBB.out), Int.toNat_natCast] at hmv
                    rw [← hmv] at hW9
                    have HW9 := Lib.hid hW9
                    clear hW9 hmv x0 x1 x2 q1 q2 q3 q4 q5 q6 q7 q8 q9 q10 q11 q12 q13 q14
                    go_region_law (fail)
                    all_goals
                  clear ctj ctd fdd cd5 fd5 x3 x3d
                  generalize (wq.setCell ⟨gd, xn, none⟩ (.string tj)).drew = w10 at *
                  go_upto_region 31 with (fail)
                  obtain ⟨S9, q1, q2, q3, q4, q5, q6, q7, q8, q9, q10, q11, q12, q13, q14⟩ := HW9.out
                  have hml : (rowM M (pre ++ [(xn : Int)])).length = M := by have := q3.1; simpa [NiF.cells] using this
                  obtain ⟨N9, hN9⟩ : ∃ N9 : I, N9 = { N with blocks := rowM M (pre ++ [(xn : Int)]) } := ⟨_, rfl⟩
                  have HML := Lib.hid hml
                  have HN9 := Lib.hid hN9
                  have HCQ := Lib.hid (show Calls Tryz.prog 142 #[.agg #[.int .i64 N.kind, .int .i64 N.mode, .int .i64 N.uid, .int .i64 N.gid, .int .i64 N.links, .int .i64 N.size, .int .i64 N.tick, .slice (some ⟨g, 0, none⟩) M c', .slice b1 n.acl.length e1, .slice b2 n.dflt.length e2]] w10.drew _ from by
                    have hin : In.Holds w10 (.agg #[.int .i64 N.kind, .int .i64 N.mode, .int .i64 N.uid, .int .i64 N.gid, .int .i64 N.links, .int .i64 N.size, .int .i64 N.tick, .slice (some ⟨g, 0, none⟩) M c', .slice b1 n.acl.length e1, .slice b2 n.dflt.length e2]) N9 := by
                      rw [hN9]
                      refine ⟨_, _, _, rfl, ?_, AeF.own_holds q4, AeF.own_holds q5⟩
                      have := NiF.own_holds (NiF.own_of (l := rowM M (pre ++ [(xn : Int)])) (v := .slice (some ⟨g, 0, none⟩) M c') (by rw [hml]; exact q3))
                      exact this
                    exact ClS.inode_row w10.drew _ N9 (by
                      rw [hN9]
                      have h1 := AclV.ok_len (InoV.ok_acls HG.out.inode).1
                      have h2 := AclV.ok_len (InoV.ok_acls HG.out.inode).2
                      rw [← HN.out] at h1 h2
                      show (rowM M (pre ++ [(xn : Int)])).length + N.acl.length + N.dflt.length ≤ 1073741824
                      rw [hml, HNN.out]
                      show M + n.acl.length + n.dflt.length ≤ 1073741824
                      omega) (In.holds_below hin (Below.refl w10.heap.size w10).drew))
                  have hgiS := q1.gi_mem
                  have ya0 : w10.cell? ⟨w1.heap.size, 2, none⟩ = some (.slice (some ⟨gi, 0, none⟩) 20 ci) := q1.cells.2.2.1
                  have ya1 : w10.cell? ⟨w2.heap.size, 0, none⟩ = some (.int .i64 N.kind) := q2.cell 0
                  have ya2 : w10.cell? ⟨w2.heap.size, 1, none⟩ = some (.int .i64 N.mode) := q2.cell 1
                  have ya3 : w10.cell? ⟨w2.heap.size, 2, none⟩ = some (.int .i64 N.uid) := q2.cell 2
                  have ya4 : w10.cell? ⟨w2.heap.size, 3, none⟩ = some (.int .i64 N.gid) := q2.cell 3
                  have ya5 : w10.cell? ⟨w2.heap.size, 4, none⟩ = some (.int .i64 N.links) := q2.cell 4
                  have ya6 : w10.cell? ⟨w2.heap.size, 5, none⟩ = some (.int .i64 N.size) := q2.cell 5
                  have ya7 : w10.cell? ⟨w2.heap.size, 6, none⟩ = some (.int .i64 N.tick) := q2.cell 6
                  have ya8 : w10.cell? ⟨w2.heap.size, 7, none⟩ = some (.slice (some ⟨g, 0, none⟩) M c') := q2.cell 7
                  have ya9 : w10.cell? ⟨w2.heap.size, 8, none⟩ = some (.slice b1 n.acl.length e1) := q2.cell 8
                  have ya10 : w10.cell? ⟨w2.heap.size, 9, none⟩ = some (.slice b2 n.dflt.length e2) := q2.cell 9
                  have yb0 : w10.drew.cell? ⟨w1.heap.size, 2, none⟩ = some (.slice (some ⟨gi, 0, none⟩) 20 ci) := ya0
                  have yb1 : w10.drew.cell? ⟨w2.heap.size, 0, none⟩ = some (.int .i64 N.kind) := ya1
                  have yb2 : w10.drew.cell? ⟨w2.heap.size, 1, none⟩ = some (.int .i64 N.mode) := ya2
                  have yb3 : w10.drew.cell? ⟨w2.heap.size, 2, none⟩ = some (.int .i64 N.uid) := ya3
                  have yb4 : w10.drew.cell? ⟨w2.heap.size, 3, none⟩ = some (.int .i64 N.gid) := ya4
                  have yb5 : w10.drew.cell? ⟨w2.heap.size, 4, none⟩ = some (.int .i64 N.links) := ya5
                  have yb6 : w10.drew.cell? ⟨w2.heap.size, 5, none⟩ = some (.int .i64 N.size) := ya6
                  have yb7 : w10.drew.cell? ⟨w2.heap.size, 6, none⟩ = some (.int .i64 N.tick) := ya7
                  have yb8 : w10.drew.cell? ⟨w2.heap.size, 7, none⟩ = some (.slice (some ⟨g, 0, none⟩) M c') := ya8
                  have yb9 : w10.drew.cell? ⟨w2.heap.size, 8, none⟩ = some (.slice b1 n.acl.length e1) := ya9
                  have yb10 : w10.drew.cell? ⟨w2.heap.size, 9, none⟩ = some (.slice b2 n.dflt.length e2) := ya10
                  have hi0 : (0 : Int) ≤ k := by omega
                  have hi1 : (k : Int) < 20 := by omega
                  clear q1 q2 q3 q4 q5 q6 q7 q8 q9 q10 q11 q12 q13 q14 hml hN9
                  go_region_held3 (fun w' => w'.cell? ⟨w1.heap.size, 2, none⟩ = some (.slice (some ⟨gi, 0, none⟩) 20 ci) ∧ w'.cell? ⟨w2.heap.size, 0, none⟩ = some (.int .i64 N.kind) ∧ w'.cell? ⟨w2.heap.size, 1, none⟩ = some (.int .i64 N.mode) ∧ w'.cell? ⟨w2.heap.size, 2, none⟩ = some (.int .i64 N.uid) ∧ w'.cell? ⟨w2.heap.size, 3, none⟩ = some (.int .i64 N.gid) ∧ w'.cell? ⟨w2.heap.size, 4, none⟩ = some (.int .i64 N.links) ∧ w'.cell? ⟨w2.heap.size, 5, none⟩ = some (.int .i64 N.size) ∧ w'.cell? ⟨w2.heap.size, 6, none⟩ = some (.int .i64 N.tick) ∧ w'.cell? ⟨w2.heap.size, 7, none⟩ = some (.slice (some ⟨g, 0, none⟩) M c') ∧ w'.cell? ⟨w2.heap.size, 8, none⟩ = some (.slice b1 n.acl.length e1) ∧ w'.cell? ⟨w2.heap.size, 9, none⟩ = some (.slice b2 n.dflt.length e2)) (first | with_reducible exact ⟨ya0, ya1, ya2, ya3, ya4, ya5, ya6, ya7, ya8, ya9, ya10⟩ | with_reducible exact ⟨yb0, yb1, yb2, yb3, yb4, yb5, yb6, yb7, yb8, yb9, yb10⟩ | with_reducible exact ⟨yv0, yv1, yv2, yv3, yv4, yv5, yv6, yv7, yv8, yv9, yv10⟩ | with_reducible exact ⟨hp0 _ _ _ _ _ _ _ _ _ _, hp1 _ _ _ _ _ _ _ _ _ _, hp2 _ _ _ _ _ _ _ _ _ _, hp3 _ _ _ _ _ _ _ _ _ _, hp4 _ _ _ _ _ _ _ _ _ _, hp5 _ _ _ _ _ _ _ _ _ _, hp6 _ _ _ _ _ _ _ _ _ _, hp7 _ _ _ _ _ _ _ _ _ _, hp8 _ _ _ _ _ _ _ _ _ _, hp9 _ _ _ _ _ _ _ _ _ _, hp10 _ _ _ _ _ _ _ _ _ _⟩ | go_keep)
                    ((go_at_call 142; (with_reducible refine HCQ.out.mono ?_); rintro e w7 ⟨ca, cc2, db, de, eb, ee, rfl, hrow, ho1, ho2, hnd, hb⟩; have hs7 := hb.size; have HWB := Lib.hid (wm_below HW9.out ((Below.refl w10.heap.size w10).drew.trans hb)); have HIO := Lib.hid (show In.Own w7 w10.heap.size (.agg #[.int .i64 N9.kind, .int .i64 N9.mode, .int .i64 N9.uid, .int .i64 N9.gid, .int .i64 N9.links, .int .i64 N9.size, .int .i64 N9.tick, .slice ca N9.blocks.length cc2, .slice db N9.acl.length de, .slice eb N9.dflt.length ee]) N9 (fpR (.slice ca N9.blocks.length cc2) ++ fpR (.slice db N9.acl.length de) ++ fpR (.slice eb N9.dflt.length ee)) from ⟨_, _, _, _, _, _, rfl, rfl, hnd, NiF.own_of hrow, ho1, ho2⟩); have HBL2 := Lib.hid ((Below.refl w10.heap.size w10).drew.trans hb); obtain ⟨M9, hM9⟩ : ∃ M, M = N9.blocks.length := ⟨_, rfl⟩; obtain ⟨A9, hA9⟩ : ∃ M, M = N9.acl.length := ⟨_, rfl⟩; obtain ⟨D9, hD9⟩ : ∃ M, M = N9.dflt.length := ⟨_, rfl⟩; rw [← hM9, ← hA9, ← hD9] at HIO ⊢; have hN9k := HN9.out; rw [hN9k] at HIO ⊢; dsimp only at HIO ⊢; obtain ⟨S7, t1, t2, t3, t4, t5, t6, t7, t8, t9, t10, t11, t12, t13, t14⟩ := HWB.out; have yv0 := t1.cells.2.2.1; have yv1 := t2.cell 0; have yv2 := t2.cell 1; have yv3 := t2.cell 2; have yv4 := t2.cell 3; have yv5 := t2.cell 4; have yv6 := t2.cell 5; have yv7 := t2.cell 6; have yv8 := t2.cell 7; have yv9 := t2.cell 8; have yv10 := t2.cell 9; dsimp at yv1 yv2 yv3 yv4 yv5 yv6 yv7 yv8 yv9 yv10; obtain ⟨rr0, rr1, rr2, hCl, hPt⟩ := t1.icell hk20; obtain ⟨m0, m1, m2, m3, m4, m5, m6, m7, m8, m9⟩ := hCl; clear hPt; have g0 : w7.frozen? ⟨gi, k * 10, none⟩ = false := t1.ifree _; have g1 : w7.frozen? ⟨gi, k * 10 + 1, none⟩ = false := t1.ifree _; have g2 : w7.frozen? ⟨gi, k * 10 + 2, none⟩ = false := t1.ifree _; have g3 : w7.frozen? ⟨gi, k * 10 + 3, none⟩ = false := t1.ifree _; have g4 : w7.frozen? ⟨gi, k * 10 + 4, none⟩ = false := t1.ifree _; have g5 : w7.frozen? ⟨gi, k * 10 + 5, none⟩ = false := t1.ifree _; have g6 : w7.frozen? ⟨gi, k * 10 + 6, none⟩ = false := t1.ifree _; have g7 : w7.frozen? ⟨gi, k * 10 + 7, none⟩ = false := t1.ifree _; have g8 : w7.frozen? ⟨gi, k * 10 + 8, none⟩ = false := t1.ifree _; have g9 : w7.frozen? ⟨gi, k * 10 + 9, none⟩ = false := t1.ifree _; have hgl7 : gi < w7.heap.size := t1.gi_lt.2; have hp0 := fun u0 u1 u2 u3 u4 u5 u6 u7 u8 u9 : Value => ((FoB.row10_chg w7 gi k u0 u1 u2 u3 u4 u5 u6 u7 u8 u9).cell (p := ⟨w1.heap.size, 2, none⟩) (t1.box.lt) (by (simp); exact fun e => t1.out (e ▸ t1.gi_mem))).trans yv0; have hp1 := fun u0 u1 u2 u3 u4 u5 u6 u7 u8 u9 : Value => ((FoB.row10_chg w7 gi k u0 u1 u2 u3 u4 u5 u6 u7 u8 u9).cell (p := ⟨w2.heap.size, 0, none⟩) (t2.lt) (by (simp); exact fun e => t10 _ t1.gi_mem (in_rw (by simp [e])))).trans yv1; have hp2 := fun u0 u1 u2 u3 u4 u5 u6 u7 u8 u9 : Value => ((FoB.row10_chg w7 gi k u0 u1 u2 u3 u4 u5 u6 u7 u8 u9).cell (p := ⟨w2.heap.size, 1, none⟩) (t2.lt) (by (simp); exact fun e => t10 _ t1.gi_mem (in_rw (by simp [e])))).trans yv2; have hp3 := fun u0 u1 u2 u3 u4 u5 u6 u7 u8 u9 : Value => ((FoB.row10_chg w7 gi k u0 u1 u2 u3 u4 u5 u6 u7 u8 u9).cell (p := ⟨w2.heap.size, 2, none⟩) (t2.lt) (by (simp); exact fun e => t10 _ t1.gi_mem (in_rw (by simp [e])))).trans yv3; have hp4 := fun u0 u1 u2 u3 u4 u5 u6 u7 u8 u9 : Value => ((FoB.row10_chg w7 gi k u0 u1 u2 u3 u4 u5 u6 u7 u8 u9).cell (p := ⟨w2.heap.size, 3, none⟩) (t2.lt) (by (simp); exact fun e => t10 _ t1.gi_mem (in_rw (by simp [e])))).trans yv4; have hp5 := fun u0 u1 u2 u3 u4 u5 u6 u7 u8 u9 : Value => ((FoB.row10_chg w7 gi k u0 u1 u2 u3 u4 u5 u6 u7 u8 u9).cell (p := ⟨w2.heap.size, 4, none⟩) (t2.lt) (by (simp); exact fun e => t10 _ t1.gi_mem (in_rw (by simp [e])))).trans yv5; have hp6 := fun u0 u1 u2 u3 u4 u5 u6 u7 u8 u9 : Value => ((FoB.row10_chg w7 gi k u0 u1 u2 u3 u4 u5 u6 u7 u8 u9).cell (p := ⟨w2.heap.size, 5, none⟩) (t2.lt) (by (simp); exact fun e => t10 _ t1.gi_mem (in_rw (by simp [e])))).trans yv6; have hp7 := fun u0 u1 u2 u3 u4 u5 u6 u7 u8 u9 : Value => ((FoB.row10_chg w7 gi k u0 u1 u2 u3 u4 u5 u6 u7 u8 u9).cell (p := ⟨w2.heap.size, 6, none⟩) (t2.lt) (by (simp); exact fun e => t10 _ t1.gi_mem (in_rw (by simp [e])))).trans yv7; have hp8 := fun u0 u1 u2 u3 u4 u5 u6 u7 u8 u9 : Value => ((FoB.row10_chg w7 gi k u0 u1 u2 u3 u4 u5 u6 u7 u8 u9).cell (p := ⟨w2.heap.size, 7, none⟩) (t2.lt) (by (simp); exact fun e => t10 _ t1.gi_mem (in_rw (by simp [e])))).trans yv8; have hp9 := fun u0 u1 u2 u3 u4 u5 u6 u7 u8 u9 : Value => ((FoB.row10_chg w7 gi k u0 u1 u2 u3 u4 u5 u6 u7 u8 u9).cell (p := ⟨w2.heap.size, 8, none⟩) (t2.lt) (by (simp); exact fun e => t10 _ t1.gi_mem (in_rw (by simp [e])))).trans yv9; have hp10 := fun u0 u1 u2 u3 u4 u5 u6 u7 u8 u9 : Value => ((FoB.row10_chg w7 gi k u0 u1 u2 u3 u4 u5 u6 u7 u8 u9).cell (p := ⟨w2.heap.size, 9, none⟩) (t2.lt) (by (simp); exact fun e => t10 _ t1.gi_mem (in_rw (by simp [e])))).trans yv10; unfold FoB.row10 at hp0 hp1 hp2 hp3 hp4 hp5 hp6 hp7 hp8 hp9 hp10; clear hrow ho1 ho2 hnd hb))
                  rename_i hHeld
                  clear hHeld
                  rw [hM9, hA9, hD9, HN9.out] at HIO
                  dsimp only at HIO
                  have hfin := wm_ino HW9.out HBL2.out hk20 HIO.out
                  unfold FoB.row10 at hfin
                  rw [← HN9.out] at hfin

                  generalize ((((((((((w7.setCell ⟨gi, k * 10, none⟩ (.int .i64 N.kind)).setCell ⟨gi, k * 10 + 1, none⟩ (.int .i64 N.mode)).setCell ⟨gi, k * 10 + 2, none⟩ (.int .i64 N.uid)).setCell ⟨gi, k * 10 + 3, none⟩ (.int .i64 N.gid)).setCell ⟨gi, k * 10 + 4, none⟩ (.int .i64 N.links)).setCell ⟨gi, k * 10 + 5, none⟩ (.int .i64 N.size)).setCell ⟨gi, k * 10 + 6, none⟩ (.int .i64 N.tick)).setCell ⟨gi, k * 10 + 7, none⟩ (.slice ca (rowM M (pre ++ [(xn : Int)])).length cc2)).setCell ⟨gi, k * 10 + 8, none⟩ (.slice db N.acl.length de)).setCell ⟨gi, k * 10 + 9, none⟩ (.slice eb N.dflt.length ee)) = w11 at hfin ⊢
                  rw [HN9.out, List.set_set] at hfin
                  have HFIN := Lib.hid hfin
                  clear yv0 yv1 yv2 yv3 yv4 yv5 yv6 yv7 yv8 yv9 yv10 ya0 ya1 ya2 ya3 ya4 ya5 ya6 ya7 ya8 ya9 ya10 yb0 yb1 yb2 yb3 yb4 yb5 yb6 yb7 yb8 yb9 yb10 hp0 hp1 hp2 hp3 hp4 hp5 hp6 hp7 hp8 hp9 hp10 m0 m1 m2 m3 m4 m5 m6 m7 m8 m9 g0 g1 g2 g3 g4 g5 g6 g7 g8 g9 t1 t2 t3 t4 t5 t6 t7 t8 t9 t10 t11 t12 t13 t14 hs7 hgl7 hi0 hi1 hgiS hfin
                  clear HIO HWB HBL2 HCQ HML hN9k hM9 hA9 hD9 HN9
                  go_wp2
                  go_roundw
                  case rel => exact ⟨j + 1, pre ++ [(xn : Int)], _, by omega, by go_num, HVN.out, HFIN.out⟩
                  case measure => simp [intOf]; omega
              · obtain rfl : M = j := by omega
                obtain ⟨S9, q1, q2, q3, q4, q5, q6, q7, q8, q9, q10, q11, q12, q13, q14⟩ := HWP.out
                have htb : bs.take M = bs := List.take_of_length_le (Nat.le_of_eq HBL.out)
                have htt : ts.take M = ts := List.take_of_length_le (Nat.le_of_eq HTSL.out)
                have hvm := HVM.out
                have hbM : M = bs.length := HBL.out.symm
                have hR : mvR f n u = (pre, 0) := by
                  unfold mvR
                  rw [← HBS.out, show quo f u = qv from HQV.out.symm]
                  refine vm_end (s := s') ?_
                  rw [← hbM]
                  exact hvm
                have hval := move_val (u := (u : Int)) HG.out (R := pre) (n' := { N with blocks := pre }) (by rw [← HN.out, Int.toNat_natCast]; exact hR) (by rw [HNN.out, HN.out])
                have HVF := Lib.hid (show moveV f k u = (({ f with inodes := f.inodes.set k { N with blocks := rowM M pre }, data := movD pre (bs.take M) (ts.take M) d1 } : F), 0) from by
                  rw [HVE.out, hR, if_pos rfl]
                  rw [htb, htt, rowM_full HPL.out, HTS.out, HD1.out, HBS.out, HN.out, ← hval, HNN.out, HN.out])
                have HF := Lib.hid q1
                have HR2' := Lib.hid q9
                have HB2' := Lib.hid q14
                have HNS := Lib.hid (show w.heap.size + 1 ∉ S9 from fun hh => q10 _ hh (in_rw (by simp)))
                have HOW := Lib.hid (FsF.own_mono q1.own HB0.out.size)
                obtain ⟨x0, x1, x2, x3⟩ := q1.cells
                dsimp only at x0
                clear q1 q2 q3 q4 q5 q6 q7 q8 q9 q10 q11 q12 q13 q14 htb htt hvm hbM hR hval
                obtain ⟨r0, r1, r2, r3⟩ := Bk.c4 HR2'.out
                have f0 := HR2'.out.free 0
                have f1 := HR2'.out.free 1
                have f2 := HR2'.out.free 2
                have f3 := HR2'.out.free 3
                go_wp2
                have hF := FoB.box4_bk HR2'.out (.int .i64 f.tick) (.slice qa' f.quotas.length qc') (.slice (some ⟨gi, 0, none⟩) 20 ci) (.slice (some ⟨gd, 0, none⟩) 56 cd)
                have hC9 := FoB.box4_chg wr (w.heap.size + 1) (.int .i64 f.tick) (.slice qa' f.quotas.length qc') (.slice (some ⟨gi, 0, none⟩) 20 ci) (.slice (some ⟨gd, 0, none⟩) 56 cd)
                unfold FoB.box4 at hF hC9
                generalize ((((wr.setCell ⟨w.heap.size + 1, 0, none⟩ (.int .i64 f.tick)).setCell ⟨w.heap.size + 1, 1, none⟩ (.slice qa' f.quotas.length qc')).setCell ⟨w.heap.size + 1, 2, none⟩ (.slice (some ⟨gi, 0, none⟩) 20 ci)).setCell ⟨w.heap.size + 1, 3, none⟩ (.slice (some ⟨gd, 0, none⟩) 56 cd)) = w9 at hF hC9 ⊢
                obtain ⟨e0, e1, e2, e3⟩ := Bk.c4 hF
                have hres := FsF.own_mono (FsF.own_chg HOW.out hC9 (fun x hx hh => by rw [List.mem_singleton] at hh; subst hh; exact HNS.out hx)) (show w.heap.size ≤ w.heap.size from Nat.le_refl _)
                refine bodyPost_ret (v := .tuple #[.agg #[.int .i64 f.tick, .slice qa' f.quotas.length qc', .slice (some ⟨gi, 0, none⟩) 20 ci, .slice (some ⟨gd, 0, none⟩) 56 cd], .int .i64 0]) (by simp [results, Tryz.results94, go_sem, e0, e1, e2, e3]) rfl ?_
                first
                  | exact ⟨_, S9, by rw [HVF.out], by rw [HVF.out]; exact hres, HB2'.out.trans (FoB.Chg.from hC9 HB2'.out.size (Nat.le_succ _))⟩
                  | exact ⟨_, by rw [HVF.out], ⟨S9, by rw [HVF.out]; exact hres⟩, HB2'.out.trans (FoB.Chg.from hC9 HB2'.out.size (Nat.le_succ _))⟩
end Go.Proofs.YtbbnginolidedaaGreatDoor.SpMv

-- YtbbnginolidedaaGreatDoorSpMe
/- Contract: the model's MoveOwner. Conditions: the cost. -/
namespace Go.Proofs.YtbbnginolidedaaGreatDoor.SpMe
open Go.ChangeShapes Go.WideShapes Go.ChangeAt Go.RowKit
open Foot Bx
open InoV (I usedV needV)
open FsV (F okF e0 z32 usersB)
open FsY FsZ FoB CoN CoFr
set_option linter.unusedVariables false

set_option maxRecDepth 100000 in
set_option maxHeartbeats 12800000 in
theorem move_spec (w : World) (v : Value) (f : F) (i u : Int) (hc : FsF.cost f ≤ 1073741824) (hl : FsF.Lim f)  (h : FsF.Holds w v f) :
    Calls Tryz.prog 33 #[v, .int .i64 i, .int .i64 u] w fun e w' => ∃ v' S, e = .returned (.tuple #[v', .int .i64 (moveV f i u).2]) ∧ FsF.Own w' w.heap.size v' (moveV f i u).1 S ∧ Below w.heap.size w w' := by
  have HFS := Lib.hid h
  have HCC := Lib.hid hc
  have HLM := Lib.hid hl
  obtain ⟨r0, r1, r2, rfl, g0, g1, g2⟩ := h
  have HI1 := Lib.hid g1
  obtain ⟨qa, qc, rfl⟩ := QF.form g0
  obtain ⟨ia, ic, rfl⟩ := IF.form g1
  obtain ⟨da, dc, rfl⟩ := SF.form g2
  clear g0 g1 g2 hc hl
  obtain ⟨T, hT⟩ : ∃ T, T = f.tick := ⟨_, rfl⟩
  obtain ⟨Q, hQ⟩ : ∃ Q, Q = f.quotas.length := ⟨_, rfl⟩
  obtain ⟨M, hM⟩ : ∃ M, M = f.inodes.length := ⟨_, rfl⟩
  obtain ⟨D, hD⟩ : ∃ D, D = f.data.length := ⟨_, rfl⟩
  rw [← hT, ← hQ, ← hM, ← hD] at HFS ⊢
  rw [← hM] at HI1
  have HM := Lib.hid hM
  clear hT hQ hM hD
  have HB0 := Lib.hid (((Below.refl w.heap.size w).alloc (Nat.le_refl _) (.cells #[.int .i64 T, .slice qa Q qc, .slice ia M ic, .slice da D dc] 27)).alloc (by simp) (.cells #[.int .i64 0, .slice none 0 0, .slice none 0 0, .slice none 0 0] 27))
  have HX0 := Lib.hid ((new w #[.int .i64 T, .slice qa Q qc, .slice ia M ic, .slice da D dc] 27).alloc (.cells #[.int .i64 0, .slice none 0 0, .slice none 0 0, .slice none 0 0] 27))
  have HR0 := Lib.hid (new_at (w.alloc (.cells #[.int .i64 T, .slice qa Q qc, .slice ia M ic, .slice da D dc] 27)) #[.int .i64 0, .slice none 0 0, .slice none 0 0, .slice none 0 0] 27 (w.heap.size + 1) (by simp))
  have HS0 := Lib.hid (show w.heap.size + 1 + 1 ≤ ((w.alloc (.cells #[.int .i64 T, .slice qa Q qc, .slice ia M ic, .slice da D dc] 27)).alloc (.cells #[.int .i64 0, .slice none 0 0, .slice none 0 0, .slice none 0 0] 27)).heap.size by simp)
  have HCP := Lib.hid (fun (W : World) (hb : Below w.heap.size w W) => CoS.copy_spec W _ f HCC.out (FsF.holds_below HFS.out hb))
  obtain ⟨C, hC⟩ : ∃ C, C = hasObjB f i := ⟨_, rfl⟩
  have HHA := Lib.hid (fun W (hw : Below w.heap.size w W) => show Calls Tryz.prog 78 #[.agg #[.int .i64 T, .slice qa Q qc, .slice ia M ic, .slice da D dc], .int .i64 i] W fun e w' => e = .returned (.bool C) ∧ Below W.heap.size W w' from by rw [hC]; exact SpR.use_spec W _ f i HCC.out HLM.out (FsF.holds_below HFS.out hw))
  have HCE := Lib.hid hC
  cases C
  · have HVV := Lib.hid (show moveV f i u = (f, 1) from by unfold moveV; rw [← hC]; rfl)
    clear hC
    go_enter Tryz.func33, Tryz.ntmps33
    go_wp2_with fail
    refine (HHA.out _ HB0.out).mono ?_
    rintro e w1 ⟨rfl, hb⟩
    have HB1 := Lib.hid (HB0.out.trans (hb.mono HB0.out.size))
    have HX1 := Lib.hid (HX0.out.all hb)
    have HR1 := Lib.hid (HR0.out.all hb)
    have HS1 := Lib.hid (Nat.le_trans HS0.out hb.size)
    clear hb
    obtain ⟨x0, x1, x2, x3⟩ := Bk.c4 HX1.out
    go_wp2_with fail
    refine (HCP.out _ HB1.out).mono ?_
    rintro e w2 ⟨y, S, rfl, hown, hb⟩
    obtain ⟨z0, z1a, z1n, z1c, z2a, z2n, z2c, z3a, z3n, z3c, rfl⟩ := FsF.own_form hown
    have HB2 := Lib.hid (HB1.out.trans (hb.mono HB1.out.size))
    have HR2 := Lib.hid (HR1.out.all hb)
    have HNS := Lib.hid (show w.heap.size + 1 ∉ S from fun hh => by have h1 := (FsF.own_lies hown _ hh).1; have h2 := HS1.out; omega)
    have HOW := Lib.hid (FsF.own_mono hown HB1.out.size)
    clear hb hown
    obtain ⟨r0, r1, r2, r3⟩ := Bk.c4 HR2.out
    have f0 := HR2.out.free 0
    have f1 := HR2.out.free 1
    have f2 := HR2.out.free 2
    have f3 := HR2.out.free 3
    go_wp2
    have hF := FoB.box4_bk HR2.out (.int .i64 z0) (.slice z1a z1n z1c) (.slice z2a z2n z2c) (.slice z3a z3n z3c)
    have hC9 := FoB.box4_chg w2 (w.heap.size + 1) (.int .i64 z0) (.slice z1a z1n z1c) (.slice z2a z2n z2c) (.slice z3a z3n z3c)
    unfold FoB.box4 at hF hC9
    generalize ((((w2.setCell ⟨w.heap.size + 1, 0, none⟩ (.int .i64 z0)).setCell ⟨w.heap.size + 1, 1, none⟩ (.slice z1a z1n z1c)).setCell ⟨w.heap.size + 1, 2, none⟩ (.slice z2a z2n z2c)).setCell ⟨w.heap.size + 1, 3, none⟩ (.slice z3a z3n z3c)) = w9 at hF hC9 ⊢
    obtain ⟨e0, e1, e2, e3⟩ := Bk.c4 hF
    have hres := FsF.own_mono (FsF.own_chg HOW.out hC9 (fun x hx hh => by rw [List.mem_singleton] at hh; subst hh; exact HNS.out hx)) (show w.heap.size ≤ w.heap.size from Nat.le_refl _)
    refine bodyPost_ret (v := .tuple #[.agg #[.int .i64 z0, .slice z1a z1n z1c, .slice z2a z2n z2c, .slice z3a z3n z3c], .int .i64 1]) (by simp [results, Tryz.results33, go_sem, e0, e1, e2, e3]) rfl ?_
    exact ⟨_, S, by rw [HVV.out], by rw [HVV.out]; exact hres, HB2.out.trans (FoB.Chg.from hC9 HB2.out.size (Nat.le_succ _))⟩
  · by_cases hu : usersB u = false
    · have HVV := Lib.hid (show moveV f i u = (f, 1) from by unfold moveV; rw [hu, Bool.and_false]; rfl)
      have HUS := Lib.hid (fun W => show Calls Tryz.prog 93 #[.int .i64 u] W fun e w' => e = .returned (.bool false) ∧ W = w' from by have := FsH.user_spec u W; rw [hu] at this; exact this)
      clear hC hu
      go_enter Tryz.func33, Tryz.ntmps33
      go_wp2_with fail
      refine (HHA.out _ HB0.out).mono ?_
      rintro e w1 ⟨rfl, hb⟩
      have HB1 := Lib.hid (HB0.out.trans (hb.mono HB0.out.size))
      have HX1 := Lib.hid (HX0.out.all hb)
      have HR1 := Lib.hid (HR0.out.all hb)
      have HS1 := Lib.hid (Nat.le_trans HS0.out hb.size)
      clear hb
      obtain ⟨x0, x1, x2, x3⟩ := Bk.c4 HX1.out
      go_wp2_with fail
      refine (HUS.out _).mono ?_
      rintro e wu ⟨rfl, rfl⟩
      go_wp2_with fail
      refine (HCP.out _ HB1.out).mono ?_
      rintro e w2 ⟨y, S, rfl, hown, hb⟩
      obtain ⟨z0, z1a, z1n, z1c, z2a, z2n, z2c, z3a, z3n, z3c, rfl⟩ := FsF.own_form hown
      have HB2 := Lib.hid (HB1.out.trans (hb.mono HB1.out.size))
      have HR2 := Lib.hid (HR1.out.all hb)
      have HNS := Lib.hid (show w.heap.size + 1 ∉ S from fun hh => by have h1 := (FsF.own_lies hown _ hh).1; have h2 := HS1.out; omega)
      have HOW := Lib.hid (FsF.own_mono hown HB1.out.size)
      clear hb hown
      obtain ⟨r0, r1, r2, r3⟩ := Bk.c4 HR2.out
      have f0 := HR2.out.free 0
      have f1 := HR2.out.free 1
      have f2 := HR2.out.free 2
      have f3 := HR2.out.free 3
      go_wp2
      have hF := FoB.box4_bk HR2.out (.int .i64 z0) (.slice z1a z1n z1c) (.slice z2a z2n z2c) (.slice z3a z3n z3c)
      have hC9 := FoB.box4_chg w2 (w.heap.size + 1) (.int .i64 z0) (.slice z1a z1n z1c) (.slice z2a z2n z2c) (.slice z3a z3n z3c)
      unfold FoB.box4 at hF hC9
      generalize ((((w2.setCell ⟨w.heap.size + 1, 0, none⟩ (.int .i64 z0)).setCell ⟨w.heap.size + 1, 1, none⟩ (.slice z1a z1n z1c)).setCell ⟨w.heap.size + 1, 2, none⟩ (.slice z2a z2n z2c)).setCell ⟨w.heap.size + 1, 3, none⟩ (.slice z3a z3n z3c)) = w9 at hF hC9 ⊢
      obtain ⟨e0, e1, e2, e3⟩ := Bk.c4 hF
      have hres := FsF.own_mono (FsF.own_chg HOW.out hC9 (fun x hx hh => by rw [List.mem_singleton] at hh; subst hh; exact HNS.out hx)) (show w.heap.size ≤ w.heap.size from Nat.le_refl _)
      refine bodyPost_ret (v := .tuple #[.agg #[.int .i64 z0, .slice z1a z1n z1c, .slice z2a z2n z2c, .slice z3a z3n z3c], .int .i64 1]) (by simp [results, Tryz.results33, go_sem, e0, e1, e2, e3]) rfl ?_
      exact ⟨_, S, by rw [HVV.out], by rw [HVV.out]; exact hres, HB2.out.trans (FoB.Chg.from hC9 HB2.out.size (Nat.le_succ _))⟩
    · have hu2 : usersB u = true := by simpa using hu
      obtain ⟨uk, rfl, huk3⟩ : ∃ uk : Nat, u = uk ∧ uk ≤ 3 := by
        unfold usersB at hu2
        simp only [Bool.and_eq_true, decide_eq_true_eq] at hu2
        exact ⟨u.toNat, by omega, by omega⟩
      have HUS := Lib.hid (fun W => show Calls Tryz.prog 93 #[.int .i64 uk] W fun e w' => e = .returned (.bool true) ∧ W = w' from by have := FsH.user_spec uk W; rw [hu2] at this; exact this)
      obtain ⟨k, rfl, hg⟩ := good_of hC.symm
      obtain ⟨⟨vf, vc⟩, hVV⟩ : ∃ p, p = moveV f k uk := ⟨_, rfl⟩
      have HLW := Lib.hid (fun W (hw : Below w.heap.size w W) => SpMv.lmove_spec W _ f k uk huk3 HCC.out HCE.out.symm (FsF.holds_below HFS.out hw))
      rw [← hVV] at HLW
      have HVV := Lib.hid hVV.symm
      clear hC hg hVV hu hu2
      go_enter Tryz.func33, Tryz.ntmps33
      go_wp2_with fail
      refine (HHA.out _ HB0.out).mono ?_
      rintro e w1 ⟨rfl, hb⟩
      have HB1 := Lib.hid (HB0.out.trans (hb.mono HB0.out.size))
      have HX1 := Lib.hid (HX0.out.all hb)
      have HR1 := Lib.hid (HR0.out.all hb)
      have HS1 := Lib.hid (Nat.le_trans HS0.out hb.size)
      clear hb
      obtain ⟨x0, x1, x2, x3⟩ := Bk.c4 HX1.out
      go_wp2_with fail
      refine (HUS.out _).mono ?_
      rintro e wu ⟨rfl, rfl⟩
      go_wp2_with fail
      refine (HLW.out _ HB1.out).mono ?_
      rintro e w2 ⟨y, S, rfl, hown, hb⟩
      obtain ⟨z0, z1a, z1n, z1c, z2a, z2n, z2c, z3a, z3n, z3c, rfl⟩ := FsF.own_form hown
      have HB2 := Lib.hid (HB1.out.trans (hb.mono HB1.out.size))
      have HR2 := Lib.hid (HR1.out.all hb)
      have HNS := Lib.hid (show w.heap.size + 1 ∉ S from fun hh => by have h1 := (FsF.own_lies hown _ hh).1; have h2 := HS1.out; omega)
      have HOW := Lib.hid (FsF.own_mono hown HB1.out.size)
      clear hb hown
      obtain ⟨r0, r1, r2, r3⟩ := Bk.c4 HR2.out
      have f0 := HR2.out.free 0
      have f1 := HR2.out.free 1
      have f2 := HR2.out.free 2
      have f3 := HR2.out.free 3
      go_wp2
      have hF := FoB.box4_bk HR2.out (.int .i64 z0) (.slice z1a z1n z1c) (.slice z2a z2n z2c) (.slice z3a z3n z3c)
      have hC9 := FoB.box4_chg w2 (w.heap.size + 1) (.int .i64 z0) (.slice z1a z1n z1c) (.slice z2a z2n z2c) (.slice z3a z3n z3c)
      unfold FoB.box4 at hF hC9
      generalize ((((w2.setCell ⟨w.heap.size + 1, 0, none⟩ (.int .i64 z0)).setCell ⟨w.heap.size + 1, 1, none⟩ (.slice z1a z1n z1c)).setCell ⟨w.heap.size + 1, 2, none⟩ (.slice z2a z2n z2c)).setCell ⟨w.heap.size + 1, 3, none⟩ (.slice z3a z3n z3c)) = w9 at hF hC9 ⊢
      obtain ⟨e0, e1, e2, e3⟩ := Bk.c4 hF
      have hres := FsF.own_mono (FsF.own_chg HOW.out hC9 (fun x hx hh => by rw [List.mem_singleton] at hh; subst hh; exact HNS.out hx)) (show w.heap.size ≤ w.heap.size from Nat.le_refl _)
      refine bodyPost_ret (v := .tuple #[.agg #[.int .i64 z0, .slice z1a z1n z1c, .slice z2a z2n z2c, .slice z3a z3n z3c], .int .i64 vc]) (by simp [results, Tryz.results33, go_sem, e0, e1, e2, e3]) rfl ?_
      exact ⟨_, S, by rw [HVV.out], by rw [HVV.out]; exact hres, HB2.out.trans (FoB.Chg.from hC9 HB2.out.size (Nat.le_succ _))⟩
end Go.Proofs.YtbbnginolidedaaGreatDoor.SpMe
