/- The model's copy of a file system, its inodes' loop: what stands ahead of it, between two rounds, behind it. Conditions: as each theorem types them. -/
import Derived.Test.YtafmpllkehbmeaaGreatDoorClS
namespace Go.Proofs.YtafmpllkehbmeaaGreatDoor.CoL
open Go.ChangeShapes Go.WideShapes Go.ChangeAt Go.RowKit
open Foot Bx
open InoV (I)
open FsV (F)
open FoB
set_option linter.unusedVariables false

theorem bel_set {w W : World} (h : Below w.heap.size w W) {p : Addr} (hp : w.heap.size ≤ p.block) (u : Value) : Below w.heap.size w (W.setCell p u) := h.trans ((chg_set W p u).below h.size (fun k hk => by rw [List.mem_singleton] at hk; omega))
/-- What the new file system's box and rows are while the inodes are still away. -/
def Pre0 (w0 W : World) (b : Nat) (TK : Int) (Q D : Nat) (q d : Value) (f : F) : Prop :=
  Bk W b #[.int .i64 TK, q, .slice none 0 0, d] 27 ∧ w0.heap.size ≤ b ∧ W.ownsRow w0.heap.size 93 2 q Q (Qt.cells f.quotas) ∧ W.ownsRow w0.heap.size 9 1 d D (f.data.map Value.string) ∧ Below w0.heap.size w0 W
theorem pre_mk {w0 W : World} {b : Nat} {TK : Int} {Q D : Nat} {q d : Value} {f : F} (hb : Bk W b #[.int .i64 0, .slice none 0 0, .slice none 0 0, .slice none 0 0] 27) (hlo : w0.heap.size ≤ b) (hq : W.ownsRow w0.heap.size 93 2 q Q (Qt.cells f.quotas)) (hd : W.ownsRow w0.heap.size 9 1 d D (f.data.map Value.string)) (hB : Below w0.heap.size w0 W) :
    Pre0 w0 ((((W.setCell ⟨b, 0, none⟩ (.int .i64 TK)).setCell ⟨b, 1, none⟩ q).setCell ⟨b, 2, none⟩ (.slice none 0 0)).setCell ⟨b, 3, none⟩ d) b TK Q D q d f := by
  have h4 := FoB.box4_bk hb (.int .i64 TK) q (.slice none 0 0) d
  have hc := FoB.box4_chg W b (.int .i64 TK) q (.slice none 0 0) d
  have k0 := Bk.set hb 0 (.int .i64 TK)
  have k1 := Bk.set k0 1 q
  have k2 := Bk.set k1 2 (.slice none 0 0)
  unfold FoB.box4 at h4 hc
  exact ⟨h4, hlo, FsM.row_far (FsM.row_far (FsM.row_far (FsM.row_far hq hb (by decide) _ _) k0 (by decide) _ _) k1 (by decide) _ _) k2 (by decide) _ _, FsM.row_far (FsM.row_far (FsM.row_far (FsM.row_far hd hb (by decide) _ _) k0 (by decide) _ _) k1 (by decide) _ _) k2 (by decide) _ _, hB.trans (FoB.Chg.from hc hB.size hlo)⟩

theorem row_nin {W : World} {base size n b : Nat} {e t : TypeId} {v : Value} {xs : List Value} {cs : Array Value} (h : W.ownsRow base e size v n xs) (hk : Bk W b cs t) (hne : e ≠ t) : b ∉ fpR v := by
  rcases h.2 with ⟨rfl, _⟩ | ⟨g, _, _, rfl, _, hg, _⟩
  · intro hh; cases hh
  · intro hh
    simp [fpR, Value.ownBlock] at hh
    subst hh
    have := hg.symm.trans hk
    simp only [Option.some.injEq, Obj.cells.injEq] at this
    exact hne this.2.1
theorem in_parts {W : World} {base : Nat} {v : Value} {n : I} {T : List Nat} (h : In.Own W base v n T) : ∀ k ∈ T, ∃ (e : TypeId) (size : Nat) (u : Value) (m : Nat) (xs : List Value), W.ownsRow base e size u m xs ∧ k ∈ fpR u ∧ (e = 3 ∨ e = 137) := by
  obtain ⟨t0, t1, t2, T0, T1, T2, rfl, rfl, _, o0, o1, o2⟩ := h
  intro k hk
  rcases List.mem_append.1 hk with hk | hk
  · rcases List.mem_append.1 hk with hk | hk
    · obtain ⟨⟨a, c, c', rfl, _, _, hr⟩, rfl⟩ := o0
      exact ⟨_, _, _, _, _, hr, by rwa [NiF.fpR_slice a _ _ n.blocks.length c] , .inl rfl⟩
    · exact ⟨_, _, _, _, _, o1.1, by rw [← o1.2]; exact hk, .inr rfl⟩
  · exact ⟨_, _, _, _, _, o2.1, by rw [← o2.2]; exact hk, .inr rfl⟩
theorem in_row {W : World} {base base' : Nat} {v : Value} {n : I} {T : List Nat} (h : In.Own W base v n T) {e' : TypeId} {size' m' : Nat} {v' : Value} {xs' : List Value} (hr : W.ownsRow base' e' size' v' m' xs') (h1 : 3 ≠ e') (h2 : 137 ≠ e') : Apart T (fpR v') := by
  intro k hk hk'
  obtain ⟨e, size, u, m, xs, hrow, hku, rfl | rfl⟩ := in_parts h k hk
  · exact FsM.rows_apart hrow hr h1 k hku hk'
  · exact FsM.rows_apart hrow hr h2 k hku hk'
theorem in_box {W : World} {base b : Nat} {v : Value} {n : I} {T : List Nat} {cs : Array Value} {t : TypeId} (h : In.Own W base v n T) (hk : Bk W b cs t) (h1 : 3 ≠ t) (h2 : 137 ≠ t) : b ∉ T := by
  intro hh
  obtain ⟨e, size, u, m, xs, hrow, hku, rfl | rfl⟩ := in_parts h b hh
  · exact row_nin hrow hk h1 hku
  · exact row_nin hrow hk h2 hku
theorem fps_row {W : World} {base base' : Nat} {es : List IF.El} (h : ∀ e ∈ es, In.Own W base e.2.1 e.1 e.2.2) {e' : TypeId} {size' m' : Nat} {v' : Value} {xs' : List Value} (hr : W.ownsRow base' e' size' v' m' xs') (h1 : 3 ≠ e') (h2 : 137 ≠ e') : Apart (IF.fps es) (fpR v') := by
  intro k hk hk'
  obtain ⟨e, he, hke⟩ := List.mem_flatMap.1 hk
  exact in_row (h e he) hr h1 h2 k hke hk'

/-- Between two rounds: the box, the inodes that are copied, the rows. -/
def LP (w0 : World) (b : Nat) (TK : Int) (Q D : Nat) (q d : Value) (f : F) (j : Nat) (r : Value) (es : List IF.El) (W : World) : Prop :=
  Bk W b #[.int .i64 TK, q, r, d] 27 ∧ w0.heap.size ≤ b ∧ IF.ns es = f.inodes.take j ∧ W.ownsRow w0.heap.size 34 10 r j (IF.cells es) ∧ (∀ e ∈ es, In.Own W w0.heap.size e.2.1 e.1 e.2.2) ∧ (IF.fps es).Nodup ∧ W.ownsRow w0.heap.size 93 2 q Q (Qt.cells f.quotas) ∧ W.ownsRow w0.heap.size 9 1 d D (f.data.map Value.string) ∧ Below w0.heap.size w0 W
section
variable {w0 W W' : World} {b : Nat} {TK : Int} {Q D : Nat} {q d : Value} {f : F} {j : Nat} {r : Value} {es : List IF.El}
theorem lp_zero (h : Pre0 w0 W b TK Q D q d f) : LP w0 b TK Q D q d f 0 (.slice none 0 0) [] W := by
  obtain ⟨h1, h2, h3, h4, h5⟩ := h
  exact ⟨h1, h2, by simp [IF.ns], World.ownsRow_nil _ _ _ _, (fun e he => by cases he), by simp [IF.fps], h3, h4, h5⟩
theorem lp_below (h : LP w0 b TK Q D q d f j r es W) (hb : Below W.heap.size W W') : LP w0 b TK Q D q d f j r es W' := by
  obtain ⟨h1, h2, h3, h4, h5, h6, h7, h8, h9⟩ := h
  exact ⟨h1.all hb, h2, h3, row_below h4 hb, fun e he => In.own_below (h5 e he) hb, h6, row_below h7 hb, row_below h8 hb, h9.trans (hb.mono h9.size)⟩
theorem lp_next {w2 : World} {vn v' : Value} {T : List Nat} (h : LP w0 b TK Q D q d f j r es W) (hj : j < f.inodes.length) (hn : In.Own W w0.heap.size vn (f.inodes.getD j IF.z0) T) (ha : Apart (IF.fps es) T) (hg : W.grownBy w2 r.ownBlock) (hrow : w2.ownsRow w0.heap.size 34 10 v' (j + 1) (IF.cells es ++ IF.vcells vn)) :
    LP w0 b TK Q D q d f (j + 1) v' (es ++ [(f.inodes.getD j IF.z0, vn, T)]) (w2.setCell ⟨b, 2, none⟩ v') := by
  obtain ⟨h1, h2, h3, h4, h5, h6, h7, h8, h9⟩ := h
  have hc := Chg.of_grown hg
  have b2 := FoB.Bk.chg h1 hc (row_nin h4 h1 (by decide))
  have elem : ∀ e ∈ es ++ [((f.inodes.getD j IF.z0, vn, T) : IF.El)], In.Own W w0.heap.size e.2.1 e.1 e.2.2 := fun e he => by
    rcases List.mem_append.1 he with he | he
    · exact h5 e he
    · rw [List.mem_singleton] at he; subst he; exact hn
  have elem2 : ∀ e ∈ es ++ [((f.inodes.getD j IF.z0, vn, T) : IF.El)], In.Own w2 w0.heap.size e.2.1 e.1 e.2.2 := fun e he => In.own_chg (elem e he) hc (in_row (elem e he) h4 (by decide) (by decide))
  refine ⟨Bk.put (l := [.int .i64 TK, q, r, d]) b2 2 v', h2, ?_, ?_, fun e he => In.own_chg (elem2 e he) (chg_set w2 ⟨b, 2, none⟩ v') (fun k hk hh => ?_), ?_, FsM.row_far (row_chg h7 hc (FsM.rows_apart h7 h4 (by decide))) b2 (by decide) 2 v', FsM.row_far (row_chg h8 hc (FsM.rows_apart h8 h4 (by decide))) b2 (by decide) 2 v', bel_set (h9.grown hg h9.size (fun k hk => (h4.lt k hk).1)) h2 _⟩
  · have : IF.ns (es ++ [((f.inodes.getD j IF.z0, vn, T) : IF.El)]) = IF.ns es ++ [f.inodes.getD j IF.z0] := by simp [IF.ns]
    rw [this, h3, List.take_add_one, List.getElem?_eq_getElem hj]
    simp [List.getD, List.getElem?_eq_getElem hj]
  · have : IF.cells (es ++ [((f.inodes.getD j IF.z0, vn, T) : IF.El)]) = IF.cells es ++ IF.vcells vn := by simp [IF.cells]
    rw [this]
    exact FsM.row_far hrow b2 (by decide) 2 v'
  · rw [List.mem_singleton] at hh
    subst hh
    exact in_box (elem2 e he) b2 (by decide) (by decide) hk
  · have : IF.fps (es ++ [((f.inodes.getD j IF.z0, vn, T) : IF.El)]) = IF.fps es ++ T := by simp [IF.fps]
    rw [this]
    exact nodup_app h6 (In.own_nodup hn) ha
theorem lp_end {M : Nat} (h : LP w0 b TK Q D q d f M r es W) (hT : TK = f.tick) (hQ : Q = f.quotas.length) (hM : M = f.inodes.length) (hD : D = f.data.length) : FsF.Own W w0.heap.size (.agg #[.int .i64 TK, q, r, d]) f (fpR q ++ (fpR r ++ IF.fps es) ++ fpR d) := by
  subst hT hQ hM hD
  obtain ⟨h1, h2, h3, h4, h5, h6, h7, h8, h9⟩ := h
  have a1 : Apart (IF.fps es) (fpR r) := fps_row h5 h4 (by decide) (by decide)
  have a2 : Apart (IF.fps es) (fpR q) := fps_row h5 h7 (by decide) (by decide)
  have a3 : Apart (IF.fps es) (fpR d) := fps_row h5 h8 (by decide) (by decide)
  have n1 : (fpR r ++ IF.fps es).Nodup := nodup_app (fpR_nodup _) h6 (fun k hk hh => a1 k hh hk)
  refine ⟨_, _, _, _, _, _, rfl, rfl, ?_, ⟨h7, rfl⟩, ⟨es, by rw [h3, List.take_length], h4, rfl, n1, h5⟩, ⟨h8, rfl⟩⟩
  refine nodup_app (nodup_app (fpR_nodup _) n1 (fun k hk hh => ?_)) (fpR_nodup _) (apart_app.2 ⟨FsM.rows_apart h7 h8 (by decide), apart_app.2 ⟨FsM.rows_apart h4 h8 (by decide), a3⟩⟩)
  rcases List.mem_append.1 hh with hh | hh
  · exact FsM.rows_apart h7 h4 (by decide) k hk hh
  · exact a2 k hh hk
end
end Go.Proofs.YtafmpllkehbmeaaGreatDoor.CoL
