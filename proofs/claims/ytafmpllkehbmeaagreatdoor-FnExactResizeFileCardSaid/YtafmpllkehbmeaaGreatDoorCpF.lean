/- Facts on copying a file system, inode by inode. Conditions: as each theorem types them. -/
import Derived.Test.YtafmpllkehbmeaaGreatDoorFoB
namespace Go.Proofs.YtafmpllkehbmeaaGreatDoor.CpF
open Go.ChangeShapes Go.WideShapes Go.ChangeAt Go.RowKit
open Foot Bx
open InoV (I)
open FsV (F)
open FoB
set_option linter.unusedVariables false

/-- The file system's box when its rows are cloned, the inodes' slices still another's. -/
def Pre (w : World) (f : F) (es : List IF.El) (W : World) (v0 v1 v2 : Value) : Prop :=
  Below w.heap.size w W ∧ Bk W w.heap.size #[.int .i64 f.tick, v0, v1, v2] 27 ∧
  Bk W (w.heap.size + 1) #[.int .i64 0, .slice none 0 0, .slice none 0 0, .slice none 0 0] 27 ∧
  QF.Own W (w.heap.size + 1 + 1) v0 f.quotas (fpR v0) ∧ W.ownsRow (w.heap.size + 1 + 1) 34 10 v1 f.inodes.length (IF.cells es) ∧ SF.Own W (w.heap.size + 1 + 1) v2 f.data (fpR v2) ∧ (fpR v0 ++ fpR v1 ++ fpR v2).Nodup ∧
  IF.ns es = f.inodes ∧ ∀ e ∈ es, In.Holds W e.2.1 e.1
theorem pre_mk {w W : World} {f : F} {es : List IF.El} {x1 x2 x3 v0 v1 v2 : Value} (hb : Below w.heap.size w W) (hx : Bk W w.heap.size #[.int .i64 f.tick, x1, x2, x3] 27)
    (hr : Bk W (w.heap.size + 1) #[.int .i64 0, .slice none 0 0, .slice none 0 0, .slice none 0 0] 27)
    (h0 : QF.Own W (w.heap.size + 1 + 1) v0 f.quotas (fpR v0)) (h1 : W.ownsRow (w.heap.size + 1 + 1) 34 10 v1 f.inodes.length (IF.cells es)) (h2 : SF.Own W (w.heap.size + 1 + 1) v2 f.data (fpR v2)) (hnd : (fpR v0 ++ fpR v1 ++ fpR v2).Nodup)
    (hns : IF.ns es = f.inodes) (hes : ∀ e ∈ es, In.Holds w e.2.1 e.1) :
    Pre w f es (((W.setCell ⟨w.heap.size, 1, none⟩ v0).setCell ⟨w.heap.size, 2, none⟩ v1).setCell ⟨w.heap.size, 3, none⟩ v2) v0 v1 v2 := by
  have k1 : Bk _ w.heap.size [_, _, _, _].toArray _ := Bk.put (l := [.int .i64 f.tick, x1, x2, x3]) hx 1 v0
  have k2 : Bk _ w.heap.size [_, _, _, _].toArray _ := k1.put 2 v1
  have k3 : Bk _ w.heap.size [_, _, _, _].toArray _ := k2.put 3 v2
  have hlt : ∀ i, (⟨w.heap.size, i, none⟩ : Addr).block < w.heap.size + 1 + 1 := fun i => by show w.heap.size < _; omega
  have hbel := ((hb.setCell (p := ⟨w.heap.size, 1, none⟩) (Nat.le_refl _) v0).setCell (p := ⟨w.heap.size, 2, none⟩) (Nat.le_refl _) v1).setCell (p := ⟨w.heap.size, 3, none⟩) (Nat.le_refl _) v2
  exact ⟨hbel, k3,
    ((hr.far (p := ⟨w.heap.size, 1, none⟩) (by simp) v0).far (p := ⟨w.heap.size, 2, none⟩) (by simp) v1).far (p := ⟨w.heap.size, 3, none⟩) (by simp) v2,
    QF.own_set (QF.own_set (QF.own_set h0 (hlt 1) v0) (hlt 2) v1) (hlt 3) v2, ownsRow_setCell_below (ownsRow_setCell_below (ownsRow_setCell_below h1 (hlt 1) v0) (hlt 2) v1) (hlt 3) v2, SF.own_set (SF.own_set (SF.own_set h2 (hlt 1) v0) (hlt 2) v1) (hlt 3) v2, hnd, hns, fun e he => In.holds_below (hes e he) hbel⟩
/-- The loop: the first i inodes are copied. -/
def Rel (w : World) (f : F) (es : List IF.El) (H : Nat) (v0 v1 v2 : Value) (i : Nat) (W : World) : Prop :=
  ∃ done : List IF.El, done.length = i ∧ IF.ns done = f.inodes.take i ∧ W.ownsRow (w.heap.size + 1 + 1) 34 10 v1 f.inodes.length (IF.cells done ++ IF.cells (es.drop i)) ∧ (∀ e ∈ done, In.Own W (w.heap.size + 1 + 1) e.2.1 e.1 e.2.2) ∧ (IF.fps done).Nodup ∧ (∀ k ∈ IF.fps done, H ≤ k) ∧
  Bk W w.heap.size #[.int .i64 f.tick, v0, v1, v2] 27 ∧ Bk W (w.heap.size + 1) #[.int .i64 0, .slice none 0 0, .slice none 0 0, .slice none 0 0] 27 ∧ QF.Own W (w.heap.size + 1 + 1) v0 f.quotas (fpR v0) ∧ SF.Own W (w.heap.size + 1 + 1) v2 f.data (fpR v2) ∧ Below w.heap.size w W ∧ H ≤ W.heap.size
theorem rel_start {w : World} {f : F} {es : List IF.El} {W : World} {v0 v1 v2 : Value} (h : Pre w f es W v0 v1 v2) : Rel w f es W.heap.size v0 v1 v2 0 W := by
  obtain ⟨h1, h2, h3, h4, h5, h6, h7, h8, h9⟩ := h
  exact ⟨[], rfl, by simp [IF.ns], by simpa [IF.cells] using h5, (fun e he => by cases he), by simp [IF.fps], (fun k hk => by simp [IF.fps] at hk), h2, h3, h4, h6, h1, Nat.le_refl _⟩
theorem rel_below {w : World} {f : F} {es : List IF.El} {H : Nat} {v0 v1 v2 : Value} {i : Nat} {W W' : World} (h : Rel w f es H v0 v1 v2 i W) (hb : Below W.heap.size W W') : Rel w f es H v0 v1 v2 i W' := by
  obtain ⟨done, h1, h2, h3, h4, h5, h6, h7, h8, h9, h10, h11, h12⟩ := h
  exact ⟨done, h1, h2, row_below h3 hb, fun e he => In.own_below (h4 e he) hb, h5, h6, h7.all hb, h8.all hb, QF.own_below h9 hb, SF.own_below h10 hb, h11.trans (hb.mono h11.size), Nat.le_trans h12 hb.size⟩
/-- The next one is stored. -/
theorem rel_step {w : World} {f : F} {es : List IF.El} {H g c : Nat} {v0 v2 : Value} {i : Nat} {W : World} {T : List Nat} {u0 u1 u2 u3 u4 u5 u6 u7 u8 u9 : Value} (hi : i < f.inodes.length) (hes : es.length = f.inodes.length)
    (hl : ∀ e ∈ es, (IF.vcells e.2.1).length = 10) (hnd : (fpR v0 ++ fpR (.slice (some ⟨g, 0, none⟩) f.inodes.length c) ++ fpR v2).Nodup) (hH : ∀ k ∈ fpR v0 ++ fpR (.slice (some ⟨g, 0, none⟩) f.inodes.length c) ++ fpR v2, w.heap.size + 1 + 1 ≤ k ∧ k < H)
    (hn : In.Own W (w.heap.size + 1 + 1) (.agg #[u0, u1, u2, u3, u4, u5, u6, u7, u8, u9]) (f.inodes.getD i InoV.zero) T) (hT : ∀ k ∈ T, H ≤ k) (hTn : ∃ W0 : World, Rel w f es H v0 (.slice (some ⟨g, 0, none⟩) f.inodes.length c) v2 i W0 ∧ Below W0.heap.size W0 W ∧ ∀ k ∈ T, W0.heap.size ≤ k) :
    Rel w f es H v0 (.slice (some ⟨g, 0, none⟩) f.inodes.length c) v2 (i + 1) (row10 W g i u0 u1 u2 u3 u4 u5 u6 u7 u8 u9) := by
  obtain ⟨W0, hR0, hb0, hT0⟩ := hTn
  obtain ⟨done, h1, h2, h3, h4, h5, h6, h7, h8, h9, h10, h11, h12⟩ := hR0
  have hlies : Lies (IF.fps done) (w.heap.size + 1 + 1) W0.heap.size := IF.fps_lies h4
  have hap2 : Apart (IF.fps done) T := fun k hk hh => by have := (hlies k hk).2; have := hT0 k hh; omega
  replace h3 := row_below h3 hb0
  replace h4 := fun e he => In.own_below (h4 e he) hb0
  replace h7 := h7.all hb0
  replace h8 := h8.all hb0
  replace h9 := QF.own_below h9 hb0
  replace h10 := SF.own_below h10 hb0
  replace h11 := h11.trans (hb0.mono h11.size)
  replace h12 := Nat.le_trans h12 hb0.size
  have hie : i < es.length := by omega
  have hgm := hH g (by simp [fpR, Value.ownBlock])
  have hsp : IF.cells done ++ IF.cells (es.drop i) = IF.cells done ++ IF.vcells es[i].2.1 ++ IF.cells (es.drop (i + 1)) := by
    rw [List.append_assoc, List.drop_eq_getElem_cons hie]; rfl
  have hA : (IF.cells done).length = i * 10 := by rw [IF.cells_len h4, h1]
  have hst := row_stored h3 i _ _ _ hsp hA (hl _ (List.getElem_mem hie)) u0 u1 u2 u3 u4 u5 u6 u7 u8 u9
  have hc := row10_chg W g i u0 u1 u2 u3 u4 u5 u6 u7 u8 u9
  generalize row10 W g i u0 u1 u2 u3 u4 u5 u6 u7 u8 u9 = W' at hst hc ⊢
  obtain ⟨n1, n2, n3⟩ := nodup_parts hnd
  obtain ⟨n4, n5, n6⟩ := nodup_parts n1
  have hgT : Apart T [g] := fun k hk hh => by rw [List.mem_singleton] at hh; have := hT k hk; omega
  have hgd : ∀ e ∈ done, Apart e.2.2 [g] := fun e he k hk hh => by rw [List.mem_singleton] at hh; have := h6 k (IF.mem_fps he hk); omega
  refine ⟨done ++ [(f.inodes.getD i InoV.zero, .agg #[u0, u1, u2, u3, u4, u5, u6, u7, u8, u9], T)], by simp [h1], ?_, ?_, ?_, ?_, ?_, FoB.Bk.chg h7 hc (by simp; omega), FoB.Bk.chg h8 hc (by simp; omega), QF.own_chg h9 hc ?_, SF.own_chg h10 hc ?_, h11.trans (FoB.Chg.from hc h11.size (by omega)), Nat.le_trans h12 hc.size⟩
  · rw [FsV.take_snoc f.inodes InoV.zero i hi, ← h2]; simp [IF.ns]
  · rw [IF.cells_app]
    have e : IF.cells [(f.inodes.getD i InoV.zero, .agg #[u0, u1, u2, u3, u4, u5, u6, u7, u8, u9], T)] = [u0, u1, u2, u3, u4, u5, u6, u7, u8, u9] := by simp [IF.cells, IF.vcells]
    rw [e]; exact hst
  · intro e he
    rcases List.mem_append.1 he with he | he
    · exact In.own_chg (h4 e he) hc (hgd e he)
    · rw [List.mem_singleton] at he
      subst he
      exact In.own_chg hn hc hgT
  · rw [IF.fps_app]
    refine nodup_app h5 (by simpa [IF.fps] using In.own_nodup hn) fun k hk hh => hap2 k hk (by simpa [IF.fps] using hh)
  · intro k hk
    rw [IF.fps_app] at hk
    rcases List.mem_append.1 hk with hk | hk
    · exact h6 k hk
    · exact hT k (by simpa [IF.fps] using hk)
  · exact fun k hk hh => by rw [List.mem_singleton] at hh; subst hh; exact n6 k hk (by simp [fpR, Value.ownBlock])
  · exact fun k hk hh => by rw [List.mem_singleton] at hh; subst hh; exact n3 k (by simp [fpR, Value.ownBlock]) hk
theorem rel_end {w : World} {f : F} {es : List IF.El} {H : Nat} {v0 v1 v2 : Value} {W : World} (h : Rel w f es H v0 v1 v2 f.inodes.length W) (hes : es.length = f.inodes.length) (hnd : (fpR v0 ++ fpR v1 ++ fpR v2).Nodup) (hH : ∀ k ∈ fpR v0 ++ fpR v1 ++ fpR v2, w.heap.size + 1 + 1 ≤ k ∧ k < H) :
    ∃ S, FsF.Own W (w.heap.size + 1 + 1) (.agg #[.int .i64 f.tick, v0, v1, v2]) f S := by
  obtain ⟨done, h1, h2, h3, h4, h5, h6, h7, h8, h9, h10, h11, h12⟩ := h
  rw [List.take_length] at h2
  rw [List.drop_eq_nil_of_le (by omega)] at h3
  have h3' : W.ownsRow (w.heap.size + 1 + 1) 34 10 v1 f.inodes.length (IF.cells done) := by simpa [IF.cells] using h3
  obtain ⟨n1, n2, n3⟩ := nodup_parts hnd
  obtain ⟨n4, n5, n6⟩ := nodup_parts n1
  have hlt : ∀ k, k ∈ fpR v0 ++ fpR v1 ++ fpR v2 → k ∉ IF.fps done := fun k hk hh => by have := hH k hk; have := h6 k hh; omega
  have hi : IF.Own W (w.heap.size + 1 + 1) v1 f.inodes (fpR v1 ++ IF.fps done) := ⟨done, h2, h3', rfl, nodup_app (fpR_nodup _) h5 fun k hk => hlt k (by simp [hk]), h4⟩
  exact ⟨_, _, _, _, _, _, _, rfl, rfl, nodup_app (nodup_app n4 (IF.own_nodup hi) fun k hk hh => by
    rcases List.mem_append.1 hh with hh | hh
    · exact n6 k hk hh
    · exact hlt k (by simp [hk]) hh) n2 fun k hk hh => by
    rcases List.mem_append.1 hk with hk | hk
    · exact n3 k (by simp [hk]) hh
    · rcases List.mem_append.1 hk with hk | hk
      · exact n3 k (by simp [hk]) hh
      · exact hlt k (by simp [hh]) hk, h9, hi, h10⟩
end Go.Proofs.YtafmpllkehbmeaaGreatDoor.CpF
