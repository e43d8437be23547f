/- Facts on a file system in a variable's box whose rows the call owns, and on an inode in such a box: what they read, and what a store into them leaves. Conditions: as each theorem types them. -/
import Derived.Test.YtafmpllkehbmeaaGreatDoorFsM
import Derived.Test.YtafmpllkehbmeaaGreatDoorFsY
namespace Go.Proofs.YtafmpllkehbmeaaGreatDoor.FoB
open Go.ChangeShapes Go.WideShapes Go.ChangeAt Go.RowKit
open Foot Bx
open InoV (I)
open FsV (F e0)
open FsY (ino)
set_option linter.unusedVariables false

theorem chg_set (w : World) (p : Addr) (u : Value) : Chg w (w.setCell p u) [p.block] :=
  ⟨rfl, rfl, rfl, by simp [World.setCell], fun k _ hk => Below.heap_setCell w p u k (fun e => hk (by simp [e]))⟩
theorem chg_alloc (w : World) (o : Obj) (S : List Nat) : Chg w (w.alloc o) S := ⟨rfl, rfl, rfl, by simp, fun k hk _ => Below.heap_alloc w o k hk⟩
theorem Bk.chg {w w' : World} {b : Nat} {cs : Array Value} {t : TypeId} {S : List Nat} (h : Bk w b cs t) (hc : Chg w w' S) (hb : b ∉ S) : Bk w' b cs t := (hc.block b h.lt hb).trans h
/-- The cells of a box of four, of ten, stored. -/
def box4 (w : World) (b : Nat) (u0 u1 u2 u3 : Value) : World := (((w.setCell ⟨b, 0, none⟩ u0).setCell ⟨b, 1, none⟩ u1).setCell ⟨b, 2, none⟩ u2).setCell ⟨b, 3, none⟩ u3
def box10 (w : World) (b : Nat) (u0 u1 u2 u3 u4 u5 u6 u7 u8 u9 : Value) : World := (((((((((w.setCell ⟨b, 0, none⟩ u0).setCell ⟨b, 1, none⟩ u1).setCell ⟨b, 2, none⟩ u2).setCell ⟨b, 3, none⟩ u3).setCell ⟨b, 4, none⟩ u4).setCell ⟨b, 5, none⟩ u5).setCell ⟨b, 6, none⟩ u6).setCell ⟨b, 7, none⟩ u7).setCell ⟨b, 8, none⟩ u8).setCell ⟨b, 9, none⟩ u9
def row10 (w : World) (b i : Nat) (u0 u1 u2 u3 u4 u5 u6 u7 u8 u9 : Value) : World := (((((((((w.setCell ⟨b, i * 10, none⟩ u0).setCell ⟨b, i * 10 + 1, none⟩ u1).setCell ⟨b, i * 10 + 2, none⟩ u2).setCell ⟨b, i * 10 + 3, none⟩ u3).setCell ⟨b, i * 10 + 4, none⟩ u4).setCell ⟨b, i * 10 + 5, none⟩ u5).setCell ⟨b, i * 10 + 6, none⟩ u6).setCell ⟨b, i * 10 + 7, none⟩ u7).setCell ⟨b, i * 10 + 8, none⟩ u8).setCell ⟨b, i * 10 + 9, none⟩ u9
theorem box4_bk {w : World} {b : Nat} {x0 x1 x2 x3 : Value} {t : TypeId} (h : Bk w b #[x0, x1, x2, x3] t) (u0 u1 u2 u3 : Value) : Bk (box4 w b u0 u1 u2 u3) b #[u0, u1, u2, u3] t :=
  (((Bk.put (l := [x0, x1, x2, x3]) h 0 u0).put 1 u1).put 2 u2).put 3 u3
theorem box10_bk {w : World} {b : Nat} {x0 x1 x2 x3 x4 x5 x6 x7 x8 x9 : Value} {t : TypeId} (h : Bk w b #[x0, x1, x2, x3, x4, x5, x6, x7, x8, x9] t) (u0 u1 u2 u3 u4 u5 u6 u7 u8 u9 : Value) : Bk (box10 w b u0 u1 u2 u3 u4 u5 u6 u7 u8 u9) b #[u0, u1, u2, u3, u4, u5, u6, u7, u8, u9] t :=
  (((((((((Bk.put (l := [x0, x1, x2, x3, x4, x5, x6, x7, x8, x9]) h 0 u0).put 1 u1).put 2 u2).put 3 u3).put 4 u4).put 5 u5).put 6 u6).put 7 u7).put 8 u8).put 9 u9
theorem chg1 {w w' : World} {b : Nat} (h : Chg w w' [b]) (i : Nat) (u : Value) : Chg w (w'.setCell ⟨b, i, none⟩ u) [b] := h.trans (chg_set w' ⟨b, i, none⟩ u)
theorem box4_chg (w : World) (b : Nat) (u0 u1 u2 u3 : Value) : Chg w (box4 w b u0 u1 u2 u3) [b] := chg1 (chg1 (chg1 (chg_set w ⟨b, 0, none⟩ u0) 1 u1) 2 u2) 3 u3
theorem box10_chg (w : World) (b : Nat) (u0 u1 u2 u3 u4 u5 u6 u7 u8 u9 : Value) : Chg w (box10 w b u0 u1 u2 u3 u4 u5 u6 u7 u8 u9) [b] :=
  chg1 (chg1 (chg1 (chg1 (chg1 (chg1 (chg1 (chg1 (chg1 (chg_set w ⟨b, 0, none⟩ u0) 1 u1) 2 u2) 3 u3) 4 u4) 5 u5) 6 u6) 7 u7) 8 u8) 9 u9
theorem row10_chg (w : World) (b i : Nat) (u0 u1 u2 u3 u4 u5 u6 u7 u8 u9 : Value) : Chg w (row10 w b i u0 u1 u2 u3 u4 u5 u6 u7 u8 u9) [b] :=
  chg1 (chg1 (chg1 (chg1 (chg1 (chg1 (chg1 (chg1 (chg1 (chg_set w ⟨b, i * 10, none⟩ u0) _ u1) _ u2) _ u3) _ u4) _ u5) _ u6) _ u7) _ u8) _ u9
theorem Chg.from {w w' : World} {b B : Nat} (h : Chg w w' [b]) (hB : B ≤ w.heap.size) (hb : B ≤ b) : Below B w w' := h.below hB (fun k hk => by rw [List.mem_singleton] at hk; omega)
/-- Ten cells stored into a row of inodes that is owned. -/
theorem row_stored {w : World} {base g M c : Nat} {xs : List Value} (h : w.ownsRow base 34 10 (.slice (some ⟨g, 0, none⟩) M c) M xs) (i : Nat) (A B C : List Value) (hx : xs = A ++ B ++ C) (hA : A.length = i * 10) (hB : B.length = 10) (u0 u1 u2 u3 u4 u5 u6 u7 u8 u9 : Value) :
    (row10 w g i u0 u1 u2 u3 u4 u5 u6 u7 u8 u9).ownsRow base 34 10 (.slice (some ⟨g, 0, none⟩) M c) M (A ++ [u0, u1, u2, u3, u4, u5, u6, u7, u8, u9] ++ C) := by
  have h1 := IF.set_mid A B C [u0, u1, u2, u3, u4, u5, u6, u7, u8, u9] hB.symm
  rw [hA] at h1
  rw [← h1, ← hx]
  exact ((((((((((h.stored (i * 10) u0).1.stored (i * 10 + 1) u1).1.stored (i * 10 + 2) u2).1.stored (i * 10 + 3) u3).1.stored (i * 10 + 4) u4).1.stored (i * 10 + 5) u5).1.stored (i * 10 + 6) u6).1.stored (i * 10 + 7) u7).1.stored (i * 10 + 8) u8).1.stored (i * 10 + 9) u9).1
theorem row_sl {w : World} {base : Nat} {v : Value} {l : List I} {S : List Nat} (h : IF.Own w base v l S) (h0 : 0 < l.length) : ∃ g c, v = .slice (some ⟨g, 0, none⟩) l.length c ∧ g ∈ S ∧ base ≤ g ∧ g < w.heap.size := by
  obtain ⟨es, hns, hrow, rfl, hnd, hel⟩ := h
  rcases hrow.2 with ⟨_, hz⟩ | ⟨g, cap, cur, rfl, hb, hg, _⟩
  · omega
  · exact ⟨g, cap, rfl, by simp [fpR, Value.ownBlock], hb, (Array.getElem?_eq_some_iff.1 hg).1⟩
theorem i_store {w : World} {base g M c : Nat} {l : List I} {S T : List Nat} (h : IF.Own w base (.slice (some ⟨g, 0, none⟩) M c) l S) (i : Nat) (hi : i < l.length) {n : I} {u0 u1 u2 u3 u4 u5 u6 u7 u8 u9 : Value} (hn : In.Own w base (.agg #[u0, u1, u2, u3, u4, u5, u6, u7, u8, u9]) n T) (ha : Apart T S) :
    ∃ S', IF.Own (row10 w g i u0 u1 u2 u3 u4 u5 u6 u7 u8 u9) base (.slice (some ⟨g, 0, none⟩) M c) (l.set i n) S' ∧ ∀ k ∈ S', k ∈ S ∨ k ∈ T := by
  obtain ⟨es, hns, hrow, hS, hnd, hel⟩ := h
  have hesl : es.length = l.length := by rw [← hns, IF.ns_length]
  have hM : M = l.length := by
    rcases hrow.2 with ⟨hv, _⟩ | ⟨_, _, _, hv, _⟩
    · cases hv
    · rw [Value.slice.injEq] at hv; exact hv.2.1
  subst hM
  have hie : i < es.length := by omega
  obtain ⟨e1, he1⟩ : ∃ e, e = es[i] := ⟨_, rfl⟩
  have hsp : es = es.take i ++ e1 :: es.drop (i + 1) := by rw [he1]; simp
  have hS2 : S = fpR (.slice (some ⟨g, 0, none⟩) 0 0) ++ IF.fps (es.take i ++ e1 :: es.drop (i + 1)) := by rw [← hsp]; exact hS
  have hgS : g ∈ S := by rw [hS]; simp [fpR, Value.ownBlock]
  have hgT : g ∉ T := fun hh => ha g hh hgS
  have hTg : Apart T [g] := IF.apart_one hgT
  have hel2 : ∀ x ∈ es.take i ++ e1 :: es.drop (i + 1), In.Own w base x.2.1 x.1 x.2.2 := by rw [← hsp]; exact hel
  have hcells : IF.cells es = IF.cells (es.take i) ++ IF.vcells e1.2.1 ++ IF.cells (es.drop (i + 1)) := by
    conv => lhs; rw [hsp]
    rw [IF.cells_app, List.append_assoc]; rfl
  have hA : (IF.cells (es.take i)).length = i * 10 := by
    rw [IF.cells_len (w := w) (base := base) (fun e he => hel e (List.mem_of_mem_take he)), List.length_take]; congr 1; omega
  have hB : (IF.vcells e1.2.1).length = 10 := IF.vlen (hel2 e1 (by simp))
  have hst := row_stored hrow i _ _ _ hcells hA hB u0 u1 u2 u3 u4 u5 u6 u7 u8 u9
  have hc := row10_chg w g i u0 u1 u2 u3 u4 u5 u6 u7 u8 u9
  generalize row10 w g i u0 u1 u2 u3 u4 u5 u6 u7 u8 u9 = w' at hst hc ⊢
  have he' : In.Own w' base (.agg #[u0, u1, u2, u3, u4, u5, u6, u7, u8, u9]) n T := In.own_chg hn hc hTg
  have hall := IF.own_mid (e' := (n, .agg #[u0, u1, u2, u3, u4, u5, u6, u7, u8, u9], T)) hS2 hnd hel2 (hc.more (fun b hb => by rw [List.mem_singleton] at hb; simp [hb])) he'
  have hnd2 := hnd
  rw [hS2] at hnd2
  rw [IF.fps_app, show IF.fps (e1 :: es.drop (i + 1)) = e1.2.2 ++ IF.fps (es.drop (i + 1)) from by simp [IF.fps]] at hnd2
  obtain ⟨n1, n2, n3⟩ := nodup_parts hnd2
  obtain ⟨n4, n5, n6⟩ := nodup_parts n2
  obtain ⟨n7, n8, n9⟩ := nodup_parts n5
  have hsub : ∀ k, k ∈ IF.fps (es.take i) ∨ k ∈ IF.fps (es.drop (i + 1)) → k ∈ S := fun k hk => by
    rw [hS2, IF.fps_app, show IF.fps (e1 :: es.drop (i + 1)) = e1.2.2 ++ IF.fps (es.drop (i + 1)) from by simp [IF.fps]]
    simp only [List.mem_append]
    rcases hk with hk | hk
    · exact .inr (.inl hk)
    · exact .inr (.inr (.inr hk))
  refine ⟨fpR (.slice (some ⟨g, 0, none⟩) l.length c) ++ IF.fps (es.take i ++ (n, .agg #[u0, u1, u2, u3, u4, u5, u6, u7, u8, u9], T) :: es.drop (i + 1)), ⟨es.take i ++ (n, .agg #[u0, u1, u2, u3, u4, u5, u6, u7, u8, u9], T) :: es.drop (i + 1), ?_, ?_, rfl, ?_, hall⟩, ?_⟩
  · rw [List.set_eq_take_append_cons_drop, if_pos hi, ← hns]
    simp [IF.ns, List.map_take, List.map_drop]
  · rw [List.length_set]
    have e : IF.cells (es.take i ++ (n, .agg #[u0, u1, u2, u3, u4, u5, u6, u7, u8, u9], T) :: es.drop (i + 1)) = IF.cells (es.take i) ++ [u0, u1, u2, u3, u4, u5, u6, u7, u8, u9] ++ IF.cells (es.drop (i + 1)) := by
      rw [IF.cells_app, List.append_assoc]; rfl
    rw [e]; exact hst
  · rw [IF.fps_app, show ∀ x : IF.El, IF.fps (x :: es.drop (i + 1)) = x.2.2 ++ IF.fps (es.drop (i + 1)) from fun x => by simp [IF.fps]]
    refine nodup_app (fpR_nodup _) (nodup_app n4 (nodup_app (In.own_nodup hn) n8 fun k hk hh => ha k hk (hsub k (.inr hh))) fun k hk hh => ?_) fun k hk hh => ?_
    · rcases List.mem_append.1 hh with hh | hh
      · exact ha k hh (hsub k (.inl hk))
      · exact n6 k hk (List.mem_append.2 (.inr hh))
    · have hkg : k = g := by simpa [fpR, Value.ownBlock] using hk
      subst hkg
      rcases List.mem_append.1 hh with hh | hh
      · exact n3 k (by simp [fpR, Value.ownBlock]) (List.mem_append.2 (.inl hh))
      · rcases List.mem_append.1 hh with hh | hh
        · exact hgT hh
        · exact n3 k (by simp [fpR, Value.ownBlock]) (List.mem_append.2 (.inr (List.mem_append.2 (.inr hh))))
  · intro k hk
    rw [IF.fps_app, show ∀ x : IF.El, IF.fps (x :: es.drop (i + 1)) = x.2.2 ++ IF.fps (es.drop (i + 1)) from fun x => by simp [IF.fps]] at hk
    simp only [List.mem_append] at hk
    rcases hk with hk | hk | hk | hk
    · left; rw [hS]; exact List.mem_append.2 (.inl hk)
    · exact .inl (hsub k (.inl hk))
    · exact .inr hk
    · exact .inl (hsub k (.inr hk))

/-- A file system in box b: its rows are the call's own. -/
structure FO (w : World) (lo b : Nat) (f : F) (q : Value) (gi ci gd cd : Nat) (S : List Nat) : Prop where
  box : Bk w b #[.int .i64 f.tick, q, .slice (some ⟨gi, 0, none⟩) 20 ci, .slice (some ⟨gd, 0, none⟩) 56 cd] 27
  out : b ∉ S
  own : FsF.Own w lo (.agg #[.int .i64 f.tick, q, .slice (some ⟨gi, 0, none⟩) 20 ci, .slice (some ⟨gd, 0, none⟩) 56 cd]) f S
  il : f.inodes.length = 20
  dl : f.data.length = 56
theorem sf_sl {w : World} {base : Nat} {v : Value} {l : List ByteArray} {S : List Nat} (h : SF.Own w base v l S) (h0 : 0 < l.length) : ∃ g c, v = .slice (some ⟨g, 0, none⟩) l.length c ∧ S = [g] := by
  obtain ⟨hrow, rfl⟩ := h
  rcases hrow.2 with ⟨_, hz⟩ | ⟨g, cap, cur, rfl, hb, hg, _⟩
  · omega
  · exact ⟨g, cap, rfl, rfl⟩
/-- What a value that the call owns looks like. -/
theorem own_open {w : World} {lo : Nat} {v : Value} {f : F} {S : List Nat} (h : FsF.Own w lo v f S) (hi : f.inodes.length = 20) (hd : f.data.length = 56) : ∃ (qa : Option Addr) (ql qc gi ci gd cd : Nat), v = .agg #[.int .i64 f.tick, .slice qa ql qc, .slice (some ⟨gi, 0, none⟩) 20 ci, .slice (some ⟨gd, 0, none⟩) 56 cd] ∧ ql = f.quotas.length := by
  obtain ⟨r0, r1, r2, S0, S1, S2, rfl, rfl, hnd, h0, h1, h2⟩ := h
  obtain ⟨gi, ci, rfl, _⟩ := row_sl h1 (by omega)
  obtain ⟨gd, cd, rfl, _⟩ := sf_sl h2 (by omega)
  obtain ⟨qa, qc, rfl⟩ := QF.own_form h0
  rw [hi, hd]
  exact ⟨qa, _, qc, gi, ci, gd, cd, rfl, rfl⟩
section
variable {w w' : World} {lo b gi ci gd cd : Nat} {f : F} {q : Value} {S T : List Nat}
theorem FO.parts (h : FO w lo b f q gi ci gd cd S) : ∃ S0 S1, S = S0 ++ S1 ++ [gd] ∧ S.Nodup ∧ QF.Own w lo q f.quotas S0 ∧ IF.Own w lo (.slice (some ⟨gi, 0, none⟩) 20 ci) f.inodes S1 ∧ SF.Own w lo (.slice (some ⟨gd, 0, none⟩) 56 cd) f.data [gd] := by
  obtain ⟨r0, r1, r2, S0, S1, S2, hv, rfl, hnd, h0, h1, h2⟩ := h.own
  simp only [Value.agg.injEq, Array.mk.injEq, List.cons.injEq, true_and, and_true] at hv
  obtain ⟨rfl, rfl, rfl⟩ := hv
  have : S2 = [gd] := h2.2
  subst this
  exact ⟨S0, S1, rfl, hnd, h0, h1, h2⟩
theorem FO.gi_mem (h : FO w lo b f q gi ci gd cd S) : gi ∈ S := by
  obtain ⟨S0, S1, rfl, _, _, h1, _⟩ := h.parts
  obtain ⟨g, c, e, hg, _⟩ := row_sl h1 (by rw [h.il]; decide)
  simp only [Value.slice.injEq, Option.some.injEq, Addr.mk.injEq, and_true] at e
  obtain ⟨rfl, _⟩ := e
  simp [hg]
theorem FO.gd_mem (h : FO w lo b f q gi ci gd cd S) : gd ∈ S := by
  obtain ⟨S0, S1, rfl, _⟩ := h.parts
  simp
theorem FO.lies (h : FO w lo b f q gi ci gd cd S) : Lies S lo w.heap.size := FsF.own_lies h.own
theorem FO.holds (h : FO w lo b f q gi ci gd cd S) : FsF.Holds w (.agg #[.int .i64 f.tick, q, .slice (some ⟨gi, 0, none⟩) 20 ci, .slice (some ⟨gd, 0, none⟩) 56 cd]) f := FsF.own_holds h.own
theorem FO.chg (h : FO w lo b f q gi ci gd cd S) (hc : Chg w w' T) (hb : b ∉ T) (ha : Apart S T) : FO w' lo b f q gi ci gd cd S := ⟨Bk.chg h.box hc hb, h.out, FsF.own_chg h.own hc ha, h.il, h.dl⟩
theorem FO.below (h : FO w lo b f q gi ci gd cd S) (hb : Below w.heap.size w w') : FO w' lo b f q gi ci gd cd S := ⟨h.box.all hb, h.out, FsF.own_below h.own hb, h.il, h.dl⟩
theorem FO.cells (h : FO w lo b f q gi ci gd cd S) : w.cell? ⟨b, 0, none⟩ = some (.int .i64 f.tick) ∧ w.cell? ⟨b, 1, none⟩ = some q ∧ w.cell? ⟨b, 2, none⟩ = some (.slice (some ⟨gi, 0, none⟩) 20 ci) ∧ w.cell? ⟨b, 3, none⟩ = some (.slice (some ⟨gd, 0, none⟩) 56 cd) := Bk.c4 h.box
theorem FO.gd_lt (h : FO w lo b f q gi ci gd cd S) : lo ≤ gd ∧ gd < w.heap.size := h.lies gd h.gd_mem
theorem FO.gi_lt (h : FO w lo b f q gi ci gd cd S) : lo ≤ gi ∧ gi < w.heap.size := h.lies gi h.gi_mem
/-- Block j's data, its place. -/
theorem FO.dcell (h : FO w lo b f q gi ci gd cd S) {j : Nat} (hj : j < 56) : w.cell? ⟨gd, j, none⟩ = some (.string (f.data.getD j e0)) ∧ w.frozen? ⟨gd, j, none⟩ = false := by
  obtain ⟨S0, S1, rfl, _, _, _, h2⟩ := h.parts
  have hr := h2.1
  rw [h.dl] at hr
  refine ⟨?_, hr.frozenAt j⟩
  rw [hr.cellAt j (by omega), SF.cells, List.getElem?_map, List.getElem?_eq_getElem (by rw [h.dl]; exact hj), List.getD_eq_getElem?_getD, List.getElem?_eq_getElem (by rw [h.dl]; exact hj)]; rfl
theorem FO.setD (h : FO w lo b f q gi ci gd cd S) {j : Nat} (hj : j < 56) (s : ByteArray) : FO (w.setCell ⟨gd, j, none⟩ (.string s)) lo b { f with data := f.data.set j s } q gi ci gd cd S := by
  have hgb : b ≠ gd := fun e => h.out (e ▸ h.gd_mem)
  have hout := h.out
  have hbox := h.box
  have hil := h.il
  have hdl := h.dl
  obtain ⟨S0, S1, rfl, hnd, h0, h1, h2⟩ := h.parts
  have hc := chg_set w ⟨gd, j, none⟩ (.string s)
  obtain ⟨n1, n2, n3⟩ := nodup_parts hnd
  refine ⟨Bk.chg hbox hc (by simpa using hgb), hout, ⟨_, _, _, S0, S1, [gd], rfl, rfl, hnd, QF.own_chg h0 hc ?_, IF.own_chg h1 hc ?_, ?_⟩, hil, by rw [List.length_set]; exact hdl⟩
  · exact fun k hk => n3 k (List.mem_append.2 (.inl hk))
  · exact fun k hk => n3 k (List.mem_append.2 (.inr hk))
  · refine ⟨?_, rfl⟩
    have hr := h2.1
    rw [hdl] at hr
    have := (hr.stored j (.string s)).1
    rw [List.length_set, hdl]
    rw [show SF.cells (f.data.set j s) = (SF.cells f.data).set j (.string s) from by simp [SF.cells, List.map_set]]
    exact this
/-- Inode i's cells, what they hold. -/
theorem FO.icell (h : FO w lo b f q gi ci gd cd S) {i : Nat} (hi : i < 20) : ∃ r0 r1 r2 : Value, IF.Cell w gi (i * 10) (ino f i) r0 r1 r2 ∧ IF.Parts w (ino f i) r0 r1 r2 := by
  obtain ⟨S0, S1, rfl, _, _, h1, _⟩ := h.parts
  obtain ⟨a, cap, e, _, hat⟩ := IF.own_holds h1
  obtain ⟨b', o', ea, _, r0, r1, r2, hC, hP⟩ := hat i (by rw [h.il]; exact hi)
  simp only [Value.slice.injEq] at e
  obtain ⟨rfl, _, _⟩ := e
  simp only [Option.some.injEq, Addr.mk.injEq, and_true] at ea
  obtain ⟨rfl, rfl⟩ := ea
  rw [Nat.zero_add] at hC
  exact ⟨r0, r1, r2, hC, hP⟩
theorem FO.ifree (h : FO w lo b f q gi ci gd cd S) (j : Nat) : w.frozen? ⟨gi, j, none⟩ = false := by
  obtain ⟨S0, S1, rfl, _, _, ⟨es, _, hrow, _⟩, _⟩ := h.parts
  rw [h.il] at hrow
  exact hrow.frozenAt j
theorem FO.setI (h : FO w lo b f q gi ci gd cd S) {i : Nat} (hi : i < 20) {n : I} {u0 u1 u2 u3 u4 u5 u6 u7 u8 u9 : Value} (hn : In.Own w lo (.agg #[u0, u1, u2, u3, u4, u5, u6, u7, u8, u9]) n T) (ha : Apart T S) (hbT : b ∉ T) :
    ∃ S', FO (row10 w gi i u0 u1 u2 u3 u4 u5 u6 u7 u8 u9) lo b { f with inodes := f.inodes.set i n } q gi ci gd cd S' ∧ ∀ k ∈ S', k ∈ S ∨ k ∈ T := by
  have hgi := h.gi_mem
  have hout := h.out
  have hgb : b ≠ gi := fun e => hout (e ▸ hgi)
  have hbox := h.box
  have hil := h.il
  have hdl := h.dl
  obtain ⟨S0, S1, rfl, hnd, h0, h1, h2⟩ := h.parts
  obtain ⟨n1, n2, n3⟩ := nodup_parts hnd
  obtain ⟨n4, n5, n6⟩ := nodup_parts n1
  have hg1 : gi ∈ S1 := by
    obtain ⟨g, c, e, hg, _⟩ := row_sl h1 (by rw [hil]; decide)
    simp only [Value.slice.injEq, Option.some.injEq, Addr.mk.injEq, and_true] at e
    obtain ⟨rfl, _⟩ := e
    exact hg
  obtain ⟨S', hS', hsub⟩ := i_store h1 i (by rw [hil]; exact hi) hn (fun k hk hh => ha k hk (by simp [hh]))
  have hc := row10_chg w gi i u0 u1 u2 u3 u4 u5 u6 u7 u8 u9
  generalize row10 w gi i u0 u1 u2 u3 u4 u5 u6 u7 u8 u9 = w' at hS' hc ⊢
  refine ⟨S0 ++ S' ++ [gd], ⟨Bk.chg hbox hc (by simpa using hgb), ?_, ⟨_, _, _, S0, S', [gd], rfl, rfl, ?_, QF.own_chg h0 hc ?_, hS', SF.own_chg h2 hc ?_⟩, by rw [List.length_set]; exact hil, hdl⟩, ?_⟩
  · simp only [List.mem_append, not_or] at hout ⊢
    exact ⟨⟨hout.1.1, fun hh => (hsub b hh).elim (fun x => hout.1.2 x) (fun x => hbT x)⟩, hout.2⟩
  · refine nodup_app (nodup_app n4 (IF.own_nodup hS') fun k hk hh => ?_) n2 fun k hk hh => ?_
    · rcases hsub k hh with x | x
      · exact n6 k hk x
      · exact ha k x (by simp [hk])
    · rcases List.mem_append.1 hk with hk | hk
      · exact n3 k (List.mem_append.2 (.inl hk)) hh
      · rcases hsub k hk with x | x
        · exact n3 k (List.mem_append.2 (.inr x)) hh
        · exact ha k x (List.mem_append.2 (.inr hh))
  · exact fun k hk hh => n6 k hk (by rw [List.mem_singleton] at hh; rw [hh]; exact hg1)
  · exact fun k hk hh => n3 gi (List.mem_append.2 (.inr hg1)) (by rw [List.mem_singleton] at hh; rw [← hh]; exact hk)
  · intro k hk
    simp only [List.mem_append] at hk ⊢
    rcases hk with (hk | hk) | hk
    · exact .inl (.inl (.inl hk))
    · rcases hsub k hk with x | x
      · exact .inl (.inl (.inr x))
      · exact .inr x
    · exact .inl (.inr hk)
end
end Go.Proofs.YtafmpllkehbmeaaGreatDoor.FoB
