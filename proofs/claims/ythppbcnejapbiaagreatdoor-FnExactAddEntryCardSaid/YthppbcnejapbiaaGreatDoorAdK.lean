/- Helper texts joined, one behind another (a claim has at most 60 files): what each proves, its own head says: YthppbcnejapbiaaGreatDoorCpF, YthppbcnejapbiaaGreatDoorClN, YthppbcnejapbiaaGreatDoorCpI, YthppbcnejapbiaaGreatDoorCpG, YthppbcnejapbiaaGreatDoorFsC, YthppbcnejapbiaaGreatDoorFsD, YthppbcnejapbiaaGreatDoorCoR, YthppbcnejapbiaaGreatDoorPadToImpl, YthppbcnejapbiaaGreatDoorCoI, YthppbcnejapbiaaGreatDoorCoFr. -/
import Derived.Test.YthppbcnejapbiaaGreatDoorAdF
import Derived.Deep.RegionLaw
import Derived.Deep.RegionHeld3
import Derived.Test.YthppbcnejapbiaaGreatDoorAdG
import Derived.Test.YthppbcnejapbiaaGreatDoorShelf
import Derived.Test.YthppbcnejapbiaaGreatDoorAdC

-- YthppbcnejapbiaaGreatDoorCpF
/- A part. -/
namespace Go.Proofs.YthppbcnejapbiaaGreatDoor.CpF
open Go.ChangeShapes Go.WideShapes Go.ChangeAt Go.RowKit
open Foot Bx
open InoV (I)
open FsV (F)
open FoB
set_option linter.unusedVariables false
def Pre (w : World) (f : F) (es : List IF.El) (W : World) (v0 v1 v2 : Value) : Prop :=
 Below w.heap.size w W /\ Bk W w.heap.size #[.int .i64 f.tick, v0, v1, v2] 33 /\
 Bk W (w.heap.size + 1) #[.int .i64 0, .slice none 0 0, .slice none 0 0, .slice none 0 0] 33 /\
 QF.Own W (w.heap.size + 1 + 1) v0 f.quotas (fpR v0) /\ W.ownsRow (w.heap.size + 1 + 1) 89 10 v1 f.inodes.length (IF.cells es) /\ SF.Own W (w.heap.size + 1 + 1) v2 f.data (fpR v2) /\ (fpR v0 ++ fpR v1 ++ fpR v2).Nodup /\
 IF.ns es = f.inodes /\ ∀ e ∈ es, In.Holds W e.2.1 e.1
theorem pre_mk {w W : World} {f : F} {es : List IF.El} {x1 x2 x3 v0 v1 v2 : Value} (hb : Below w.heap.size w W) (hx : Bk W w.heap.size #[.int .i64 f.tick, x1, x2, x3] 33)
  (hr : Bk W (w.heap.size + 1) #[.int .i64 0, .slice none 0 0, .slice none 0 0, .slice none 0 0] 33)
  (h0 : QF.Own W (w.heap.size + 1 + 1) v0 f.quotas (fpR v0)) (h1 : W.ownsRow (w.heap.size + 1 + 1) 89 10 v1 f.inodes.length (IF.cells es)) (h2 : SF.Own W (w.heap.size + 1 + 1) v2 f.data (fpR v2)) (hnd : (fpR v0 ++ fpR v1 ++ fpR v2).Nodup)
  (hns : IF.ns es = f.inodes) (hes : ∀ e ∈ es, In.Holds w e.2.1 e.1) :
  Pre w f es (((W.setCell ⟨w.heap.size, 1, none⟩ v0).setCell ⟨w.heap.size, 2, none⟩ v1).setCell ⟨w.heap.size, 3, none⟩ v2) v0 v1 v2 := by
 have k1 : Bk _ w.heap.size [_, _, _, _].toArray _ := Bk.put (l := [.int .i64 f.tick, x1, x2, x3]) hx 1 v0
 have k2 : Bk _ w.heap.size [_, _, _, _].toArray _ := k1.put 2 v1
 have k3 : Bk _ w.heap.size [_, _, _, _].toArray _ := k2.put 3 v2
 have hlt : ∀ i, (⟨w.heap.size, i, none⟩ : Addr).block < w.heap.size + 1 + 1 := fun i => by show w.heap.size < _; omega
 have hbel := ((hb.setCell (p := ⟨w.heap.size, 1, none⟩) (Nat.le_refl _) v0).setCell (p := ⟨w.heap.size, 2, none⟩) (Nat.le_refl _) v1).setCell (p := ⟨w.heap.size, 3, none⟩) (Nat.le_refl _) v2
 exact ⟨hbel, k3,
  ((hr.far (p := ⟨w.heap.size, 1, none⟩) (by simp) v0).far (p := ⟨w.heap.size, 2, none⟩) (by simp) v1).far (p := ⟨w.heap.size, 3, none⟩) (by simp) v2,
  QF.own_set (QF.own_set (QF.own_set h0 (hlt 1) v0) (hlt 2) v1) (hlt 3) v2, ownsRow_setCell_below (ownsRow_setCell_below (ownsRow_setCell_below h1 (hlt 1) v0) (hlt 2) v1) (hlt 3) v2, SF.own_set (SF.own_set (SF.own_set h2 (hlt 1) v0) (hlt 2) v1) (hlt 3) v2, hnd, hns, fun e he => In.holds_below (hes e he) hbel⟩
def Rel (w : World) (f : F) (es : List IF.El) (H : Nat) (v0 v1 v2 : Value) (i : Nat) (W : World) : Prop :=
 ∃ done : List IF.El, done.length = i /\ IF.ns done = f.inodes.take i /\ W.ownsRow (w.heap.size + 1 + 1) 89 10 v1 f.inodes.length (IF.cells done ++ IF.cells (es.drop i)) /\ (∀ e ∈ done, In.Own W (w.heap.size + 1 + 1) e.2.1 e.1 e.2.2) /\ (IF.fps done).Nodup /\ (∀ k ∈ IF.fps done, H <= k) /\
 Bk W w.heap.size #[.int .i64 f.tick, v0, v1, v2] 33 /\ Bk W (w.heap.size + 1) #[.int .i64 0, .slice none 0 0, .slice none 0 0, .slice none 0 0] 33 /\ QF.Own W (w.heap.size + 1 + 1) v0 f.quotas (fpR v0) /\ SF.Own W (w.heap.size + 1 + 1) v2 f.data (fpR v2) /\ Below w.heap.size w W /\ H <= W.heap.size
theorem rel_start {w : World} {f : F} {es : List IF.El} {W : World} {v0 v1 v2 : Value} (h : Pre w f es W v0 v1 v2) : Rel w f es W.heap.size v0 v1 v2 0 W := by
 obtain ⟨h1, h2, h3, h4, h5, h6, h7, h8, h9⟩ := h
 exact ⟨[], rfl, by simp [IF.ns], by simpa [IF.cells] using h5, (fun e he => by cases he), by simp [IF.fps], (fun k hk => by simp [IF.fps] at hk), h2, h3, h4, h6, h1, Nat.le_refl _⟩
theorem rel_below {w : World} {f : F} {es : List IF.El} {H : Nat} {v0 v1 v2 : Value} {i : Nat} {W W' : World} (h : Rel w f es H v0 v1 v2 i W) (hb : Below W.heap.size W W') : Rel w f es H v0 v1 v2 i W' := by
 obtain ⟨done, h1, h2, h3, h4, h5, h6, h7, h8, h9, h10, h11, h12⟩ := h
 exact ⟨done, h1, h2, row_below h3 hb, fun e he => In.own_below (h4 e he) hb, h5, h6, h7.all hb, h8.all hb, QF.own_below h9 hb, SF.own_below h10 hb, h11.trans (hb.mono h11.size), Nat.le_trans h12 hb.size⟩
theorem rel_step {w : World} {f : F} {es : List IF.El} {H g c : Nat} {v0 v2 : Value} {i : Nat} {W : World} {T : List Nat} {u0 u1 u2 u3 u4 u5 u6 u7 u8 u9 : Value} (hi : i < f.inodes.length) (hes : es.length = f.inodes.length)
  (hl : ∀ e ∈ es, (IF.vcells e.2.1).length = 10) (hnd : (fpR v0 ++ fpR (.slice (some ⟨g, 0, none⟩) f.inodes.length c) ++ fpR v2).Nodup) (hH : ∀ k ∈ fpR v0 ++ fpR (.slice (some ⟨g, 0, none⟩) f.inodes.length c) ++ fpR v2, w.heap.size + 1 + 1 <= k /\ k < H)
  (hn : In.Own W (w.heap.size + 1 + 1) (.agg #[u0, u1, u2, u3, u4, u5, u6, u7, u8, u9]) (f.inodes.getD i InoV.zero) T) (hT : ∀ k ∈ T, H <= k) (hTn : ∃ W0 : World, Rel w f es H v0 (.slice (some ⟨g, 0, none⟩) f.inodes.length c) v2 i W0 /\ Below W0.heap.size W0 W /\ ∀ k ∈ T, W0.heap.size <= k) :
  Rel w f es H v0 (.slice (some ⟨g, 0, none⟩) f.inodes.length c) v2 (i + 1) (row10 W g i u0 u1 u2 u3 u4 u5 u6 u7 u8 u9) := by
 obtain ⟨W0, hR0, hb0, hT0⟩ := hTn
 obtain ⟨done, h1, h2, h3, h4, h5, h6, h7, h8, h9, h10, h11, h12⟩ := hR0
 have hlies : Lies (IF.fps done) (w.heap.size + 1 + 1) W0.heap.size := IF.fps_lies h4
 have hap2 : Apart (IF.fps done) T := fun k hk hh => by have := (hlies k hk).2; have := hT0 k hh; omega
 replace h3 := row_below h3 hb0
 replace h4 := fun e he => In.own_below (h4 e he) hb0
 replace h7 := h7.all hb0
 replace h8 := h8.all hb0
 replace h9 := QF.own_below h9 hb0
 replace h10 := SF.own_below h10 hb0
 replace h11 := h11.trans (hb0.mono h11.size)
 replace h12 := Nat.le_trans h12 hb0.size
 have hie : i < es.length := by omega
 have hgm := hH g (by simp [fpR, Value.ownBlock])
 have hsp : IF.cells done ++ IF.cells (es.drop i) = IF.cells done ++ IF.vcells es[i].2.1 ++ IF.cells (es.drop (i + 1)) := by
  rw [List.append_assoc, List.drop_eq_getElem_cons hie]; rfl
 have hA : (IF.cells done).length = i * 10 := by rw [IF.cells_len h4, h1]
 have hst := row_stored h3 i _ _ _ hsp hA (hl _ (List.getElem_mem hie)) u0 u1 u2 u3 u4 u5 u6 u7 u8 u9
 have hc := row10_chg W g i u0 u1 u2 u3 u4 u5 u6 u7 u8 u9
 generalize row10 W g i u0 u1 u2 u3 u4 u5 u6 u7 u8 u9 = W' at hst hc ⊢
 obtain ⟨n1, n2, n3⟩ := nodup_parts hnd
 obtain ⟨n4, n5, n6⟩ := nodup_parts n1
 have hgT : Apart T [g] := fun k hk hh => by rw [List.mem_singleton] at hh; have := hT k hk; omega
 have hgd : ∀ e ∈ done, Apart e.2.2 [g] := fun e he k hk hh => by rw [List.mem_singleton] at hh; have := h6 k (IF.mem_fps he hk); omega
 refine ⟨done ++ [(f.inodes.getD i InoV.zero, .agg #[u0, u1, u2, u3, u4, u5, u6, u7, u8, u9], T)], by simp [h1], ?_, ?_, ?_, ?_, ?_, FoB.Bk.chg h7 hc (by simp; omega), FoB.Bk.chg h8 hc (by simp; omega), QF.own_chg h9 hc ?_, SF.own_chg h10 hc ?_, h11.trans (FoB.Chg.from hc h11.size (by omega)), Nat.le_trans h12 hc.size⟩
 ·rw [FsV.take_snoc f.inodes InoV.zero i hi, <- h2]; simp [IF.ns]
 ·rw [IF.cells_app]
  have e : IF.cells [(f.inodes.getD i InoV.zero, .agg #[u0, u1, u2, u3, u4, u5, u6, u7, u8, u9], T)] = [u0, u1, u2, u3, u4, u5, u6, u7, u8, u9] := by simp [IF.cells, IF.vcells]
  rw [e]; exact hst
 ·intro e he
  rcases List.mem_append.1 he with he | he
  ·exact In.own_chg (h4 e he) hc (hgd e he)
  ·rw [List.mem_singleton] at he
   subst he
   exact In.own_chg hn hc hgT
 ·rw [IF.fps_app]
  refine nodup_app h5 (by simpa [IF.fps] using In.own_nodup hn) fun k hk hh => hap2 k hk (by simpa [IF.fps] using hh)
 ·intro k hk
  rw [IF.fps_app] at hk
  rcases List.mem_append.1 hk with hk | hk
  ·exact h6 k hk
  ·exact hT k (by simpa [IF.fps] using hk)
 ·exact fun k hk hh => by rw [List.mem_singleton] at hh; subst hh; exact n6 k hk (by simp [fpR, Value.ownBlock])
 ·exact fun k hk hh => by rw [List.mem_singleton] at hh; subst hh; exact n3 k (by simp [fpR, Value.ownBlock]) hk
theorem rel_end {w : World} {f : F} {es : List IF.El} {H : Nat} {v0 v1 v2 : Value} {W : World} (h : Rel w f es H v0 v1 v2 f.inodes.length W) (hes : es.length = f.inodes.length) (hnd : (fpR v0 ++ fpR v1 ++ fpR v2).Nodup) (hH : ∀ k ∈ fpR v0 ++ fpR v1 ++ fpR v2, w.heap.size + 1 + 1 <= k /\ k < H) :
  ∃ S, FsF.Own W (w.heap.size + 1 + 1) (.agg #[.int .i64 f.tick, v0, v1, v2]) f S := by
 obtain ⟨done, h1, h2, h3, h4, h5, h6, h7, h8, h9, h10, h11, h12⟩ := h
 rw [List.take_length] at h2
 rw [List.drop_eq_nil_of_le (by omega)] at h3
 have h3' : W.ownsRow (w.heap.size + 1 + 1) 89 10 v1 f.inodes.length (IF.cells done) := by simpa [IF.cells] using h3
 obtain ⟨n1, n2, n3⟩ := nodup_parts hnd
 obtain ⟨n4, n5, n6⟩ := nodup_parts n1
 have hlt : ∀ k, k ∈ fpR v0 ++ fpR v1 ++ fpR v2 -> k ∉ IF.fps done := fun k hk hh => by have := hH k hk; have := h6 k hh; omega
 have hi : IF.Own W (w.heap.size + 1 + 1) v1 f.inodes (fpR v1 ++ IF.fps done) := ⟨done, h2, h3', rfl, nodup_app (fpR_nodup _) h5 fun k hk => hlt k (by simp [hk]), h4⟩
 exact ⟨_, _, _, _, _, _, _, rfl, rfl, nodup_app (nodup_app n4 (IF.own_nodup hi) fun k hk hh => by
  rcases List.mem_append.1 hh with hh | hh
  ·exact n6 k hk hh
  ·exact hlt k (by simp [hk]) hh) n2 fun k hk hh => by
  rcases List.mem_append.1 hk with hk | hk
  ·exact n3 k (by simp [hk]) hh
  ·rcases List.mem_append.1 hk with hk | hk
   ·exact n3 k (by simp [hk]) hh
   ·exact hlt k (by simp [hh]) hk, h9, hi, h10⟩
end Go.Proofs.YthppbcnejapbiaaGreatDoor.CpF

-- YthppbcnejapbiaaGreatDoorClN
/- A part. -/
namespace Go.Proofs.YthppbcnejapbiaaGreatDoor.ClN
set_option maxHeartbeats 400000
set_option maxRecDepth 100000
open Go.ChangeShapes Go.WideShapes Go.ChangeAt Go.RowKit
open Foot Bx
open InoV (I)
open App (SrcRow wpList_append_src)
set_option linter.unusedVariables false
theorem src_ni {w : World} {v : Value} {l : List Int} (h : NiF.Holds w v l) : SrcRow w 1 v l.length (NiF.cells l) := by
 obtain ⟨a, cap, rfl, hle, hc⟩ := h
 by_cases h0 : l = []
 ·subst h0
  cases a with
  | none => exact .inl ⟨rfl, rfl, cap, rfl⟩
  | some ad => exact .inr ⟨ad, cap, rfl, rfl, fun j u hj => by simp [NiF.cells] at hj, fun u hu => by simp [NiF.cells] at hu⟩
 ·obtain ⟨b, o, rfl, _, _⟩ := hc 0 (by cases l with | nil => exact absurd rfl h0 | cons _ _ => simp)
  refine .inr ⟨⟨b, o, none⟩, cap, rfl, by simp [NiF.cells], fun j u hj => ?_, fun u hu => ?_⟩
  ·have hjl : j < l.length := by have := (List.getElem?_eq_some_iff.1 hj).1; simpa [NiF.cells] using this
   obtain ⟨b', o', e, _, hcell⟩ := hc j hjl
   simp only [Option.some.injEq, Addr.mk.injEq, and_true] at e
   obtain ⟨rfl, rfl⟩ := e
   rw [Addr.add_lit, hcell, <- hj]
   simp [NiF.cells, List.getD, List.getElem?_eq_getElem hjl]
  ·obtain ⟨x, _, rfl⟩ := List.mem_map.1 hu; rfl
theorem src_ae {w : World} {v : Value} {ws : List AclV.At} (h : Ae.Holds w v ws) : SrcRow w 3 v ws.length (Ae.cells ws) := by
 obtain ⟨a, cap, rfl, hc⟩ := h
 by_cases h0 : ws = []
 ·subst h0
  cases a with
  | none => exact .inl ⟨rfl, rfl, cap, rfl⟩
  | some ad => exact .inr ⟨ad, cap, rfl, rfl, fun j u hj => by simp [Ae.cells] at hj, fun u hu => by simp [Ae.cells] at hu⟩
 ·obtain ⟨b, o, rfl, _, hcell⟩ := hc h0
  refine .inr ⟨⟨b, o, none⟩, cap, rfl, Ae.cells_length ws, fun j u hj => ?_, fun u hu => ?_⟩
  ·have hjl : j < ws.length * 3 := by have := (List.getElem?_eq_some_iff.1 hj).1; rwa [Ae.cells_length] at this
   obtain ⟨q0, q1, q2⟩ := Ae.cells_at ws (j / 3) (by omega)
   obtain ⟨c0, c1, c2⟩ := hcell (j / 3) (by omega)
   rw [Addr.add_lit, <- hj]
   have hm : j % 3 = 0 \/ j % 3 = 1 \/ j % 3 = 2 := by omega
   rcases hm with hm | hm | hm
   ·have e : j / 3 * 3 = j := by omega
    rw [e] at q0 c0
    rw [q0, c0]
   ·have e : j / 3 * 3 + 1 = j := by omega
    rw [e] at q1
    rw [show o + j / 3 * 3 + 1 = o + j from by omega] at c1
    rw [q1, c1]
   ·have e : j / 3 * 3 + 2 = j := by omega
    rw [e] at q2
    rw [show o + j / 3 * 3 + 2 = o + j from by omega] at c2
    rw [q2, c2]
  ·obtain ⟨x, _, hx⟩ := List.mem_flatMap.1 hu
   simp [Ae.cell1] at hx
   rcases hx with rfl | rfl | rfl <;> rfl
theorem src_is {w : World} {v : Value} {l : List I} (h : IF.Holds w v l) : ∃ es : List IF.El, IF.ns es = l /\ SrcRow w 10 v l.length (IF.cells es) /\ ∀ e ∈ es, In.Holds w e.2.1 e.1 := by
 obtain ⟨a, cap, rfl, hle, hat⟩ := h
 have hval : ∀ i, i < l.length -> ∃ y : Value, In.Holds w y (l.getD i IF.z0) /\ ∃ b o, a = some ⟨b, o, none⟩ /\ ∀ j, j < 10 -> w.cell? ⟨b, o + i * 10 + j, none⟩ = (IF.vcells y)[j]? := fun i hi => by
  obtain ⟨b, o, rfl, _, r0, r1, r2, hC, hP⟩ := hat i hi
  obtain ⟨c0, c1, c2, c3, c4, c5, c6, c7, c8, c9⟩ := hC
  refine ⟨_, IF.parts_holds hP, b, o, rfl, fun j hj => ?_⟩
  match j, hj with
  | 0, _ => exact c0
  | 1, _ => exact c1
  | 2, _ => exact c2
  | 3, _ => exact c3
  | 4, _ => exact c4
  | 5, _ => exact c5
  | 6, _ => exact c6
  | 7, _ => exact c7
  | 8, _ => exact c8
  | 9, _ => exact c9
 have hes : ∀ k, k <= l.length -> ∃ es : List IF.El, es.length = k /\ IF.ns es = l.take k /\ (∀ e ∈ es, In.Holds w e.2.1 e.1) /\ ∀ i (hi : i < es.length), ∃ b o, a = some ⟨b, o, none⟩ /\ ∀ j, j < 10 -> w.cell? ⟨b, o + i * 10 + j, none⟩ = (IF.vcells es[i].2.1)[j]? := by
  intro k
  induction k with
  | zero => intro _; exact ⟨[], rfl, by simp [IF.ns], (fun e he => by cases he), (fun i hi => by simp at hi)⟩
  | succ k ih =>
   intro hk
   obtain ⟨es, h1, h2, h3, h4⟩ := ih (by omega)
   obtain ⟨y, y1, y2⟩ := hval k (by omega)
   refine ⟨es ++ [(l.getD k IF.z0, y, [])], by simp [h1], ?_, fun e he => ?_, fun i hi => ?_⟩
   ·rw [FsV.take_snoc l IF.z0 k (by omega), <- h2]; simp [IF.ns]
   ·rcases List.mem_append.1 he with he | he
    ·exact h3 e he
    ·rw [List.mem_singleton] at he
     subst he; exact y1
   ·by_cases hik : i < es.length
    ·simp only [List.getElem_append_left hik]
     exact h4 i hik
    ·have : i = k := by simp at hi; omega
     subst this
     obtain ⟨b, o, e, hj⟩ := y2
     refine ⟨b, o, e, fun j hj' => ?_⟩
     rw [hj j hj']
     simp [List.getElem_append_right (show es.length <= i by omega), h1]
 obtain ⟨es, h1, h2, h3, h4⟩ := hes l.length (Nat.le_refl _)
 rw [List.take_length] at h2
 have hv10 : ∀ e ∈ es, (IF.vcells e.2.1).length = 10 := fun e he => by
  obtain ⟨r0, r1, r2, hv, _⟩ := h3 e he
  rw [hv]; rfl
 refine ⟨es, h2, ?_, h3⟩
 by_cases h0 : l = []
 ·subst h0
  have : es = [] := List.eq_nil_of_length_eq_zero (by simpa using h1)
  subst this
  cases a with
  | none => exact .inl ⟨rfl, rfl, cap, rfl⟩
  | some ad => exact .inr ⟨ad, cap, rfl, rfl, fun j u hj => by simp [IF.cells] at hj, fun u hu => by simp [IF.cells] at hu⟩
 ·have hpos : 0 < l.length := by cases l with | nil => exact absurd rfl h0 | cons _ _ => simp
  obtain ⟨b, o, rfl, _⟩ := h4 0 (by omega)
  have hlen : (IF.cells es).length = es.length * 10 := IF.flat_len _ 10 es hv10
  refine .inr ⟨⟨b, o, none⟩, cap, rfl, by rw [hlen, h1], fun j u hj => ?_, fun u hu => ?_⟩
  ·have hjl : j < es.length * 10 := by have := (List.getElem?_eq_some_iff.1 hj).1; omega
   obtain ⟨b', o', e, hcell⟩ := h4 (j / 10) (by omega)
   simp only [Option.some.injEq, Addr.mk.injEq, and_true] at e
   obtain ⟨rfl, rfl⟩ := e
   have := IF.flat_at (fun e : IF.El => IF.vcells e.2.1) 10 es hv10 (j / 10) (by omega) (j % 10) (by omega)
   rw [Addr.add_lit, <- hj, show o + j = o + j / 10 * 10 + j % 10 from by omega, hcell _ (by omega), <- this]
   show (IF.cells es)[j / 10 * 10 + j % 10]? = _
   rw [show j / 10 * 10 + j % 10 = j from by omega]
  ·obtain ⟨e, he, hx⟩ := List.mem_flatMap.1 hu
   obtain ⟨r0, r1, r2, hv, g0, g1, g2⟩ := h3 e he
   obtain ⟨a0, d0, rfl⟩ := NiF.form g0
   obtain ⟨a1, d1, rfl⟩ := AeF.form g1
   obtain ⟨a2, d2, rfl⟩ := AeF.form g2
   rw [hv] at hx
   simp [IF.vcells] at hx
   rcases hx with rfl | rfl | rfl | rfl | rfl | rfl | rfl | rfl | rfl | rfl <;> rfl
theorem src_below {w w' : World} {size : Nat} {x : Value} {m : Nat} {news : List Value} (h : SrcRow w size x m news) (hb : Below w.heap.size w w') : SrcRow w' size x m news :=
 h.below fun p u hp => by
  have hlt : p.block < w.heap.size := by
   rcases Nat.lt_or_ge p.block w.heap.size with h' | h'
   ·exact h'
   ·simp [World.cell?, Array.getElem?_eq_none h'] at hp
  rw [hb.cell hlt]; exact hp
theorem cloneN_any (w : World) (v : Value) (xs : List Int) (hlen : xs.length <= 1073741824) (h : NiF.Holds w v xs) :
  Calls Tryz.prog 158 #[v] w fun e w' => ∃ v', e = .returned v' /\ w'.ownsRow w.heap.size 3 1 v' xs.length (NiF.cells xs) /\ Below w.heap.size w w' := by
 obtain ⟨i0, hi, hz0, hz1, hz2⟩ := info_parts Ni.intInfo
 have q0 : ∀ (w : World) (a : Option Addr) (n c n' c' : Nat), (binOp .eql 49 (.slice a n c) (.slice none n' c')).run Tryz.prog w = .ok (.bool a.isNone) w := fun w a n c n' c' => Lib.run_eql_slice_nil w _ _ a n c n' c' Tryz.underlying49
 have hsrc := src_ni h
 obtain ⟨a, cap, rfl, hc⟩ := h
 clear hc
 cases a with
 | none =>
  have hx : xs = [] := by
   rcases hsrc with ⟨h0, _⟩ | ⟨ad, c, h0, _⟩
   ·exact List.eq_nil_of_length_eq_zero h0
   ·cases h0
  subst hx
  go_enter Tryz.func158, Tryz.ntmps158
  go_wp2
  go_ret
  exact ⟨_, rfl, World.ownsRow_nil _ _ _ _, Below.refl _ _⟩
 | some ad =>
  have HS := Lib.hid hsrc
  clear hsrc
  obtain ⟨L, hL⟩ : ∃ L, L = xs.length := ⟨_, rfl⟩
  rw [<- hL] at HS ⊢
  have HL := Lib.hid hL
  rw [<- hL] at hlen
  clear hL
  go_enter Tryz.func158, Tryz.ntmps158
  go_wp2_with (at_builtin; refine wpList_append_src rfl _ _ 49 rfl w.heap.size 3 i0 (.int .i64 0) 1 8 Tryz.underlying49 hi hz0 hz1 hz2 rfl (by decide) _ 0 [] rfl (World.ownsRow_made w #[] 0 (Nat.le_refl _) (Nat.zero_le _) rfl) L (NiF.cells xs) ?c1 ?c2 ?c3 ?c4 ?_)
  case c1 => exact HS.out.below (fun p u hp => by rw [World.cell?_alloc_some _ _ _ (by rw [hp]; rfl)]; exact hp)
  case c2 => unfold maxLen; omega
  case c3 => omega
  case c4 => simp
  intro a' c' w1 hown1 hg1
  have HO := Lib.hid hown1
  have HB := Lib.hid (show Below w.heap.size w w1 from ((Below.refl w.heap.size w).alloc (Nat.le_refl _) _).grown hg1 (by simp) (fun k hk => by simp [Value.ownBlock] at hk; omega))
  clear hown1 hg1
  go_wp2
  go_ret
  refine ⟨_, rfl, ?_, HB.out⟩
  have := HO.out
  simpa using this
theorem cloneA_any (w : World) (v : Value) (xs : List AclV.At) (hlen : xs.length <= 1073741824) (h : AeF.Holds w v xs) :
  Calls Tryz.prog 159 #[v] w fun e w' => ∃ v', e = .returned v' /\ AeF.Own w' w.heap.size v' xs (fpR v') /\ Below w.heap.size w w' := by
 obtain ⟨i0, hi, hz0, hz1, hz2⟩ := info_parts Ae.info
 have q0 : ∀ (w : World) (a : Option Addr) (n c n' c' : Nat), (binOp .eql 87 (.slice a n c) (.slice none n' c')).run Tryz.prog w = .ok (.bool a.isNone) w := fun w a n c n' c' => Lib.run_eql_slice_nil w _ _ a n c n' c' Tryz.underlying87
 have hsrc := src_ae h
 obtain ⟨a, cap, rfl, hc⟩ := h
 clear hc
 cases a with
 | none =>
  have hx : xs = [] := by
   rcases hsrc with ⟨h0, _⟩ | ⟨ad, c, h0, _⟩
   ·exact List.eq_nil_of_length_eq_zero h0
   ·cases h0
  subst hx
  go_enter Tryz.func159, Tryz.ntmps159
  go_wp2
  go_ret
  exact ⟨_, rfl, ⟨World.ownsRow_nil _ _ _ _, rfl⟩, Below.refl _ _⟩
 | some ad =>
  have HS := Lib.hid hsrc
  clear hsrc
  obtain ⟨L, hL⟩ : ∃ L, L = xs.length := ⟨_, rfl⟩
  rw [<- hL] at HS ⊢
  have HL := Lib.hid hL
  rw [<- hL] at hlen
  clear hL
  go_enter Tryz.func159, Tryz.ntmps159
  go_wp2_with (at_builtin; refine wpList_append_src rfl _ _ 87 rfl w.heap.size 161 i0 (.agg #[.int .i64 0, .int .i64 0, .int .i64 0]) 3 24 Tryz.underlying87 hi hz0 hz1 hz2 rfl (by decide) _ 0 [] rfl (World.ownsRow_made w #[] 0 (Nat.le_refl _) (Nat.zero_le _) rfl) L (Ae.cells xs) ?c1 ?c2 ?c3 ?c4 ?_)
  case c1 => exact HS.out.below (fun p u hp => by rw [World.cell?_alloc_some _ _ _ (by rw [hp]; rfl)]; exact hp)
  case c2 => unfold maxLen; omega
  case c3 => omega
  case c4 => simp
  intro a' c' w1 hown1 hg1
  have HO := Lib.hid hown1
  have HB := Lib.hid (show Below w.heap.size w w1 from ((Below.refl w.heap.size w).alloc (Nat.le_refl _) _).grown hg1 (by simp) (fun k hk => by simp [Value.ownBlock] at hk; omega))
  clear hown1 hg1
  go_wp2
  go_ret
  refine ⟨_, rfl, ⟨?_, rfl⟩, HB.out⟩
  rw [<- HL.out]
  have := HO.out
  simpa using this
theorem cloneS_any (w : World) (v : Value) (xs : List ByteArray) (hlen : xs.length <= 1073741824) (h : Strs.Holds w v xs) :
  Calls Tryz.prog 115 #[v] w fun e w' => ∃ v', e = .returned v' /\ w'.ownsRow w.heap.size 9 1 v' xs.length (xs.map Value.string) /\ Below w.heap.size w w' := by
 obtain ⟨i0, hi, hz0, hz1, hz2⟩ := info_parts Strs.strInfo
 have q0 : ∀ (w : World) (a : Option Addr) (n c n' c' : Nat), (binOp .eql 24 (.slice a n c) (.slice none n' c')).run Tryz.prog w = .ok (.bool a.isNone) w := fun w a n c n' c' => Lib.run_eql_slice_nil w _ _ a n c n' c' Tryz.underlying24
 have hsrc := App.src_strs h
 obtain ⟨a, cap, rfl, hc⟩ := h
 clear hc
 cases a with
 | none =>
  have hx : xs = [] := by
   rcases hsrc with ⟨h0, _⟩ | ⟨ad, c, h0, _⟩
   ·exact List.eq_nil_of_length_eq_zero h0
   ·cases h0
  subst hx
  go_enter Tryz.func115, Tryz.ntmps115
  go_wp2
  go_ret
  exact ⟨_, rfl, World.ownsRow_nil _ _ _ _, Below.refl _ _⟩
 | some ad =>
  have HS := Lib.hid hsrc
  clear hsrc
  generalize xs.length = L at hlen HS ⊢
  go_enter Tryz.func115, Tryz.ntmps115
  go_wp2_with (at_builtin; refine wpList_append_src rfl _ _ 24 rfl w.heap.size 9 i0 (.string ⟨#[]⟩) 1 16 Tryz.underlying24 hi hz0 hz1 hz2 rfl (by decide) _ 0 [] rfl (World.ownsRow_made w #[] 0 (Nat.le_refl _) (Nat.zero_le _) rfl) L (xs.map Value.string) ?c1 ?c2 ?c3 ?c4 ?_)
  case c1 => exact HS.out.below (fun p u hp => by rw [World.cell?_alloc_some _ _ _ (by rw [hp]; rfl)]; exact hp)
  case c2 => unfold maxLen; omega
  case c3 => omega
  case c4 => simp
  intro a' c' w1 hown1 hg1
  have HO := Lib.hid hown1
  have HB := Lib.hid (show Below w.heap.size w w1 from ((Below.refl w.heap.size w).alloc (Nat.le_refl _) _).grown hg1 (by simp) (fun k hk => by simp [Value.ownBlock] at hk; omega))
  clear hown1 hg1
  go_wp2
  go_ret
  refine ⟨_, rfl, ?_, HB.out⟩
  have := HO.out
  simpa using this
theorem cloneI_any (w : World) (v : Value) (es : List IF.El) (L : Nat) (hlen : L <= 1073741824) (h : SrcRow w 10 v L (IF.cells es)) :
  Calls Tryz.prog 114 #[v] w fun e w' => ∃ v' : Value, e = .returned v' /\ w'.ownsRow w.heap.size 89 10 v' L (IF.cells es) /\ Below w.heap.size w w' := by
 obtain ⟨i0, hi, hz0, hz1, hz2⟩ := info_parts IF.info
 have q0 : ∀ (w : World) (a : Option Addr) (n c n' c' : Nat), (binOp .eql 31 (.slice a n c) (.slice none n' c')).run Tryz.prog w = .ok (.bool a.isNone) w := fun w a n c n' c' => Lib.run_eql_slice_nil w _ _ a n c n' c' Tryz.underlying31
 rcases id h with ⟨rfl, he, c, rfl⟩ | ⟨ad, c, rfl, _⟩
 ·have HE := Lib.hid he
  clear h he
  go_enter Tryz.func114, Tryz.ntmps114
  go_wp2
  go_ret
  exact ⟨_, rfl, by rw [HE.out]; exact World.ownsRow_nil _ _ _ _, Below.refl _ _⟩
 ·have HS := Lib.hid h
  clear h
  go_enter Tryz.func114, Tryz.ntmps114
  go_wp2_with (at_builtin; refine wpList_append_src rfl _ _ 31 rfl w.heap.size 89 i0 (.agg #[.int .i64 0, .int .i64 0, .int .i64 0, .int .i64 0, .int .i64 0, .int .i64 0, .int .i64 0, .slice none 0 0, .slice none 0 0, .slice none 0 0]) 10 128 Tryz.underlying31 hi hz0 hz1 hz2 rfl (by decide) _ 0 [] rfl (World.ownsRow_made w #[] 0 (Nat.le_refl _) (Nat.zero_le _) rfl) L (IF.cells es) ?c1 ?c2 ?c3 ?c4 ?_)
  case c1 => exact HS.out.below (fun p u hp => by rw [World.cell?_alloc_some _ _ _ (by rw [hp]; rfl)]; exact hp)
  case c2 => unfold maxLen; omega
  case c3 => omega
  case c4 => simp
  intro a' c' w1 hown1 hg1
  have HO := Lib.hid hown1
  have HB := Lib.hid (show Below w.heap.size w w1 from ((Below.refl w.heap.size w).alloc (Nat.le_refl _) _).grown hg1 (by simp) (fun k hk => by simp [Value.ownBlock] at hk; omega))
  clear hown1 hg1
  go_wp2
  go_ret
  refine ⟨_, rfl, ?_, HB.out⟩
  have := HO.out
  simpa using this
end Go.Proofs.YthppbcnejapbiaaGreatDoor.ClN

-- YthppbcnejapbiaaGreatDoorCpI
/- A part. -/
namespace Go.Proofs.YthppbcnejapbiaaGreatDoor.CpI
open Go.ChangeShapes Go.WideShapes Go.ChangeAt Go.RowKit
open Foot Bx
open InoV (I)
open ClN
set_option linter.unusedVariables false
def Fin (w : World) (n : I) (W : World) (v0 v1 v2 : Value) : Prop :=
 Below w.heap.size w W /\ Bk W w.heap.size #[.int .i64 n.kind, .int .i64 n.mode, .int .i64 n.uid, .int .i64 n.gid, .int .i64 n.links, .int .i64 n.size, .int .i64 n.tick, v0, v1, v2] 89 /\
 Bk W (w.heap.size + 1) #[.int .i64 0, .int .i64 0, .int .i64 0, .int .i64 0, .int .i64 0, .int .i64 0, .int .i64 0, .slice none 0 0, .slice none 0 0, .slice none 0 0] 89 /\
 W.ownsRow (w.heap.size + 1 + 1) 3 1 v0 n.blocks.length (NiF.cells n.blocks) /\ AeF.Own W (w.heap.size + 1 + 1) v1 n.acl (fpR v1) /\ AeF.Own W (w.heap.size + 1 + 1) v2 n.dflt (fpR v2) /\ (fpR v0 ++ fpR v1 ++ fpR v2).Nodup
theorem fin_mk {w W : World} {n : I} {x7 x8 x9 v0 v1 v2 : Value} (hb : Below w.heap.size w W) (hx : Bk W w.heap.size #[.int .i64 n.kind, .int .i64 n.mode, .int .i64 n.uid, .int .i64 n.gid, .int .i64 n.links, .int .i64 n.size, .int .i64 n.tick, x7, x8, x9] 89)
  (hr : Bk W (w.heap.size + 1) #[.int .i64 0, .int .i64 0, .int .i64 0, .int .i64 0, .int .i64 0, .int .i64 0, .int .i64 0, .slice none 0 0, .slice none 0 0, .slice none 0 0] 89)
  (h0 : W.ownsRow (w.heap.size + 1 + 1) 3 1 v0 n.blocks.length (NiF.cells n.blocks)) (h1 : AeF.Own W (w.heap.size + 1 + 1) v1 n.acl (fpR v1)) (h2 : AeF.Own W (w.heap.size + 1 + 1) v2 n.dflt (fpR v2)) (hnd : (fpR v0 ++ fpR v1 ++ fpR v2).Nodup) :
  Fin w n (((W.setCell ⟨w.heap.size, 7, none⟩ v0).setCell ⟨w.heap.size, 8, none⟩ v1).setCell ⟨w.heap.size, 9, none⟩ v2) v0 v1 v2 := by
 have k1 : Bk _ w.heap.size [_, _, _, _, _, _, _, _, _, _].toArray _ := Bk.put (l := [.int .i64 n.kind, .int .i64 n.mode, .int .i64 n.uid, .int .i64 n.gid, .int .i64 n.links, .int .i64 n.size, .int .i64 n.tick, x7, x8, x9]) hx 7 v0
 have k2 : Bk _ w.heap.size [_, _, _, _, _, _, _, _, _, _].toArray _ := k1.put 8 v1
 have k3 : Bk _ w.heap.size [_, _, _, _, _, _, _, _, _, _].toArray _ := k2.put 9 v2
 have hlt : ∀ i, (⟨w.heap.size, i, none⟩ : Addr).block < w.heap.size + 1 + 1 := fun i => by show w.heap.size < _; omega
 exact ⟨((hb.setCell (p := ⟨w.heap.size, 7, none⟩) (Nat.le_refl _) v0).setCell (p := ⟨w.heap.size, 8, none⟩) (Nat.le_refl _) v1).setCell (p := ⟨w.heap.size, 9, none⟩) (Nat.le_refl _) v2, k3,
  ((hr.far (p := ⟨w.heap.size, 7, none⟩) (by simp) v0).far (p := ⟨w.heap.size, 8, none⟩) (by simp) v1).far (p := ⟨w.heap.size, 9, none⟩) (by simp) v2,
  ownsRow_setCell_below (ownsRow_setCell_below (ownsRow_setCell_below h0 (hlt 7) v0) (hlt 8) v1) (hlt 9) v2, AeF.own_set (AeF.own_set (AeF.own_set h1 (hlt 7) v0) (hlt 8) v1) (hlt 9) v2, AeF.own_set (AeF.own_set (AeF.own_set h2 (hlt 7) v0) (hlt 8) v1) (hlt 9) v2, hnd⟩
set_option maxRecDepth 100000 in
set_option maxHeartbeats 6400000 in
theorem copyT_impl (w : World) (v : Value) (n : I) (hc : In.cost n <= 1073741824) (h : In.Holds w v n) :
  Calls Tryz.prog 116 #[v] w fun e w' => ∃ y0 y1 y2 : Value, e = .returned (.agg #[.int .i64 n.kind, .int .i64 n.mode, .int .i64 n.uid, .int .i64 n.gid, .int .i64 n.links, .int .i64 n.size, .int .i64 n.tick, y0, y1, y2]) /\ w'.ownsRow w.heap.size 3 1 y0 n.blocks.length (NiF.cells n.blocks) /\ AeF.Own w' w.heap.size y1 n.acl (fpR y1) /\ AeF.Own w' w.heap.size y2 n.dflt (fpR y2) /\ (fpR y0 ++ fpR y1 ++ fpR y2).Nodup /\ Below w.heap.size w w' := by
 obtain ⟨r0, r1, r2, rfl, g0, g1, g2⟩ := h
 have hb0 := Nat.le_trans (In.le_blocks n) hc
 have hb1 := Nat.le_trans (In.le_acl n) hc
 have hb2 := Nat.le_trans (In.le_dflt n) hc
 have HC0 := Lib.hid hb0
 have HC1 := Lib.hid hb1
 have HC2 := Lib.hid hb2
 have H0 := Lib.hid g0
 have H1 := Lib.hid g1
 have H2 := Lib.hid g2
 obtain ⟨a0, d0, rfl⟩ := NiF.form g0
 obtain ⟨a1, d1, rfl⟩ := AeF.form g1
 obtain ⟨a2, d2, rfl⟩ := AeF.form g2
 clear g0 g1 g2 hb0 hb1 hb2 hc
 obtain ⟨K0, K1, K2, K3, K4, K5, K6, hK⟩ : ∃ K0 K1 K2 K3 K4 K5 K6, K0 = n.kind /\ K1 = n.mode /\ K2 = n.uid /\ K3 = n.gid /\ K4 = n.links /\ K5 = n.size /\ K6 = n.tick := ⟨_, _, _, _, _, _, _, rfl, rfl, rfl, rfl, rfl, rfl, rfl⟩
 have HK := Lib.hid hK
 obtain ⟨k0, k1, k2, k3, k4, k5, k6⟩ := hK
 rw [<- k0, <- k1, <- k2, <- k3, <- k4, <- k5, <- k6]
 clear k0 k1 k2 k3 k4 k5 k6
 obtain ⟨L0, hL0⟩ : ∃ L, L = n.blocks.length := ⟨_, rfl⟩
 obtain ⟨L1, hL1⟩ : ∃ L, L = n.acl.length := ⟨_, rfl⟩
 obtain ⟨L2, hL2⟩ : ∃ L, L = n.dflt.length := ⟨_, rfl⟩
 rw [<- hL0] at H0 ⊢
 rw [<- hL1] at H1 ⊢
 rw [<- hL2] at H2 ⊢
 have HL0 := Lib.hid hL0
 have HL1 := Lib.hid hL1
 have HL2 := Lib.hid hL2
 clear hL0 hL1 hL2
 have HB := Lib.hid (((Below.refl w.heap.size w).alloc (Nat.le_refl _) (.cells #[.int .i64 K0, .int .i64 K1, .int .i64 K2, .int .i64 K3, .int .i64 K4, .int .i64 K5, .int .i64 K6, .slice a0 L0 d0, .slice a1 L1 d1, .slice a2 L2 d2] 89)).alloc (by simp) (.cells #[.int .i64 0, .int .i64 0, .int .i64 0, .int .i64 0, .int .i64 0, .int .i64 0, .int .i64 0, .slice none 0 0, .slice none 0 0, .slice none 0 0] 89))
 have HX := Lib.hid ((new w #[.int .i64 K0, .int .i64 K1, .int .i64 K2, .int .i64 K3, .int .i64 K4, .int .i64 K5, .int .i64 K6, .slice a0 L0 d0, .slice a1 L1 d1, .slice a2 L2 d2] 89).alloc (.cells #[.int .i64 0, .int .i64 0, .int .i64 0, .int .i64 0, .int .i64 0, .int .i64 0, .int .i64 0, .slice none 0 0, .slice none 0 0, .slice none 0 0] 89))
 have HR := Lib.hid (new_at (w.alloc (.cells #[.int .i64 K0, .int .i64 K1, .int .i64 K2, .int .i64 K3, .int .i64 K4, .int .i64 K5, .int .i64 K6, .slice a0 L0 d0, .slice a1 L1 d1, .slice a2 L2 d2] 89)) #[.int .i64 0, .int .i64 0, .int .i64 0, .int .i64 0, .int .i64 0, .int .i64 0, .int .i64 0, .slice none 0 0, .slice none 0 0, .slice none 0 0] 89 (w.heap.size + 1) (by simp))
 have HCN := Lib.hid (fun (W : World) (hb : Below w.heap.size w W) => show Calls Tryz.prog 158 #[.slice a0 L0 d0] W fun e w' => ∃ v', e = .returned v' /\ w'.ownsRow W.heap.size 3 1 v' n.blocks.length (NiF.cells n.blocks) /\ Below W.heap.size W w' from cloneN_any W _ n.blocks HC0.out (NiF.holds_below H0.out hb))
 have HCA := Lib.hid (fun (W : World) (hb : Below w.heap.size w W) => show Calls Tryz.prog 159 #[.slice a1 L1 d1] W fun e w' => ∃ v', e = .returned v' /\ AeF.Own w' W.heap.size v' n.acl (fpR v') /\ Below W.heap.size W w' from cloneA_any W _ n.acl HC1.out (AeF.holds_below H1.out hb))
 have HCD := Lib.hid (fun (W : World) (hb : Below w.heap.size w W) => show Calls Tryz.prog 159 #[.slice a2 L2 d2] W fun e w' => ∃ v', e = .returned v' /\ AeF.Own w' W.heap.size v' n.dflt (fpR v') /\ Below W.heap.size W w' from cloneA_any W _ n.dflt HC2.out (AeF.holds_below H2.out hb))
 go_enter Tryz.func116, Tryz.ntmps116
 go_wp2
 generalize hW0 : (w.alloc (.cells #[.int .i64 K0, .int .i64 K1, .int .i64 K2, .int .i64 K3, .int .i64 K4, .int .i64 K5, .int .i64 K6, .slice a0 L0 d0, .slice a1 L1 d1, .slice a2 L2 d2] 89)).alloc (.cells #[.int .i64 0, .int .i64 0, .int .i64 0, .int .i64 0, .int .i64 0, .int .i64 0, .int .i64 0, .slice none 0 0, .slice none 0 0, .slice none 0 0] 89) = w0 at *
 have hsz0 : w0.heap.size = w.heap.size + 1 + 1 := by rw [<- hW0]; simp
 have HSZ := Lib.hid hsz0
 have hs0 := Nat.le_of_eq hsz0.symm
 clear hW0 hsz0
 have c7 : w0.cell? ⟨w.heap.size, 7, none⟩ = some (.slice a0 L0 d0) := HX.out.cell 7
 have c8 : w0.cell? ⟨w.heap.size, 8, none⟩ = some (.slice a1 L1 d1) := HX.out.cell 8
 have c9 : w0.cell? ⟨w.heap.size, 9, none⟩ = some (.slice a2 L2 d2) := HX.out.cell 9
 refine Code.wp_mono (Q := NoPanic fun e a W => e = .normal /\ ∃ (x3 x4 x5 x6 x7 x8 x9 x10 x11 x12 x13 x14 x15 v0 v1 v2 : Value), a = { tmps := #[.agg #[.int .i64 K0, .int .i64 K1, .int .i64 K2, .int .i64 K3, .int .i64 K4, .int .i64 K5, .int .i64 K6, .slice a0 L0 d0, .slice a1 L1 d1, .slice a2 L2 d2], .pointer (some ⟨w.heap.size, 0, none⟩), .pointer (some ⟨w.heap.size + 1, 0, none⟩), x3, x4, x5, x6, x7, x8, x9, x10, x11, x12, x13, x14, x15], defers := [] } /\ Fin w n W v0 v1 v2) ?mid ?reg
 case mid =>
  rintro e a W hq
  obtain ⟨rfl, x3, x4, x5, x6, x7, x8, x9, x10, x11, x12, x13, x14, x15, v0, v1, v2, rfl, hfin⟩ := NoPanic.imp _ _ _ hq
  clear hq
  obtain ⟨F1, F2, F3, F4, F5, F6, F7⟩ := hfin
  obtain ⟨y0, z0, rfl⟩ := Dk.slice_of F4
  obtain ⟨y1, z1, rfl⟩ := AeF.own_form F5
  obtain ⟨y2, z2, rfl⟩ := AeF.own_form F6
  have HF1 := Lib.hid F1
  have HF4 := Lib.hid F4
  have HF5 := Lib.hid F5
  have HF6 := Lib.hid F6
  have HF7 := Lib.hid F7
  rw [<- HL0.out, <- HL1.out, <- HL2.out] at F2 HF7
  rw [<- HL0.out] at HF4
  rw [<- HL1.out] at HF5
  rw [<- HL2.out] at HF6
  have HF3 := Lib.hid F3
  obtain ⟨k0, k1, k2, k3, k4, k5, k6⟩ := HK.out
  rw [<- k0, <- k1, <- k2, <- k3, <- k4, <- k5, <- k6] at F2
  clear F1 F4 F5 F6 F7 k0 k1 k2 k3 k4 k5 k6
  obtain ⟨c0, c1, c2, c3, c4, c5, c6, c7, c8, c9⟩ := Bk.c10 F2
  obtain ⟨r0, r1, r2, r3, r4, r5, r6, r7, r8, r9⟩ := Bk.c10 F3
  have f0 := F3.free 0
  have f1 := F3.free 1
  have f2 := F3.free 2
  have f3 := F3.free 3
  have f4 := F3.free 4
  have f5 := F3.free 5
  have f6 := F3.free 6
  have f7 := F3.free 7
  have f8 := F3.free 8
  have f9 := F3.free 9
  clear F2 F3
  go_wp2
  have hF := FoB.box10_bk HF3.out (.int .i64 K0) (.int .i64 K1) (.int .i64 K2) (.int .i64 K3) (.int .i64 K4) (.int .i64 K5) (.int .i64 K6) (.slice y0 L0 z0) (.slice y1 L1 z1) (.slice y2 L2 z2)
  have hC := FoB.box10_chg W (w.heap.size + 1) (.int .i64 K0) (.int .i64 K1) (.int .i64 K2) (.int .i64 K3) (.int .i64 K4) (.int .i64 K5) (.int .i64 K6) (.slice y0 L0 z0) (.slice y1 L1 z1) (.slice y2 L2 z2)
  unfold FoB.box10 at hF hC
  generalize ((((((((((W.setCell ⟨w.heap.size + 1, 0, none⟩ (.int .i64 K0)).setCell ⟨w.heap.size + 1, 1, none⟩ (.int .i64 K1)).setCell ⟨w.heap.size + 1, 2, none⟩ (.int .i64 K2)).setCell ⟨w.heap.size + 1, 3, none⟩ (.int .i64 K3)).setCell ⟨w.heap.size + 1, 4, none⟩ (.int .i64 K4)).setCell ⟨w.heap.size + 1, 5, none⟩ (.int .i64 K5)).setCell ⟨w.heap.size + 1, 6, none⟩ (.int .i64 K6)).setCell ⟨w.heap.size + 1, 7, none⟩ (.slice y0 L0 z0)).setCell ⟨w.heap.size + 1, 8, none⟩ (.slice y1 L1 z1)).setCell ⟨w.heap.size + 1, 9, none⟩ (.slice y2 L2 z2)) = w9 at hF hC ⊢
  obtain ⟨e0, e1, e2, e3, e4, e5, e6, e7, e8, e9⟩ := Bk.c10 hF
  have hnd := HF7.out
  have hout : ∀ k ∈ fpR (.slice y0 L0 z0) ++ fpR (.slice y1 L1 z1) ++ fpR (.slice y2 L2 z2), w.heap.size + 1 + 1 <= k := fun k hk => by
   rcases List.mem_append.1 hk with hk | hk
   ·rcases List.mem_append.1 hk with hk | hk
    ·exact (row_lies HF4.out k hk).1
    ·exact (AeF.own_lies HF5.out k hk).1
   ·exact (AeF.own_lies HF6.out k hk).1
  have hap : ∀ S : List Nat, (∀ k ∈ S, k ∈ fpR (.slice y0 L0 z0) ++ fpR (.slice y1 L1 z1) ++ fpR (.slice y2 L2 z2)) -> Apart S [w.heap.size + 1] := fun S hs k hk hh => by
   have := hout k (hs k hk)
   rw [List.mem_singleton] at hh; omega
  have o0 := row_mono (row_chg HF4.out hC (hap _ (fun k hk => by simp [hk]))) (show w.heap.size <= w.heap.size + 1 + 1 by omega)
  have o1 := AeF.own_mono (AeF.own_chg HF5.out hC (hap _ (fun k hk => by simp [hk]))) (show w.heap.size <= w.heap.size + 1 + 1 by omega)
  have o2 := AeF.own_mono (AeF.own_chg HF6.out hC (hap _ (fun k hk => by simp [hk]))) (show w.heap.size <= w.heap.size + 1 + 1 by omega)
  have hbel := HF1.out.trans (FoB.Chg.from hC HF1.out.size (by omega))
  obtain ⟨k0, k1, k2, k3, k4, k5, k6⟩ := HK.out
  refine bodyPost_ret (v := .agg #[.int .i64 K0, .int .i64 K1, .int .i64 K2, .int .i64 K3, .int .i64 K4, .int .i64 K5, .int .i64 K6, .slice y0 L0 z0, .slice y1 L1 z1, .slice y2 L2 z2]) (by simp [results, Tryz.results116, go_sem, e0, e1, e2, e3, e4, e5, e6, e7, e8, e9]) rfl ⟨_, _, _, by rw [k0, k1, k2, k3, k4, k5, k6], o0, o1, o2, hnd, hbel⟩
 case reg =>
  go_region_law (first
    | (go_simp; go_at_call 158; ((with_reducible refine (HCN.out _ ?_).mono ?_)); (exact HB.out.drew); rintro e w1 ⟨v0, rfl, hown0, hb1⟩; obtain ⟨va0, vc0, rfl⟩ := Dk.slice_of hown0; have HO1 := Lib.hid hown0; have HS1 := Lib.hid hb1.size; have HB1 := Lib.hid (HB.out.drew.trans (hb1.mono HB.out.drew.size)); have HX1 := Lib.hid (Bk.all (Bk.drew HX.out) hb1); have HR1 := Lib.hid (Bk.all (Bk.drew HR.out) hb1); clear hown0 hb1; have c8 : w1.cell? ⟨w.heap.size, 8, none⟩ = some (.slice a1 L1 d1) := (HX1.out.cell 8); have c9 : w1.cell? ⟨w.heap.size, 9, none⟩ = some (.slice a2 L2 d2) := (HX1.out.cell 9))
    | (go_simp; go_at_call 159; ((with_reducible refine (HCA.out _ ?_).mono ?_)); (exact HB1.out); rintro e w2 ⟨v1, rfl, hown1, hb2⟩; obtain ⟨va1, vc1, rfl⟩ := AeF.own_form hown1; have HO2 := Lib.hid hown1; have HS2 := Lib.hid hb2.size; have HO1b := Lib.hid (row_below HO1.out hb2); have HB2 := Lib.hid (HB1.out.trans (hb2.mono HB1.out.size)); have HX2 := Lib.hid (HX1.out.all hb2); have HR2 := Lib.hid (HR1.out.all hb2); clear hown1 hb2; have c9 : w2.cell? ⟨w.heap.size, 9, none⟩ = some (.slice a2 L2 d2) := (HX2.out.cell 9))
    | (go_simp; go_at_call 159; ((with_reducible refine (HCD.out _ ?_).mono ?_)); (exact HB2.out); rintro e w3 ⟨v2, rfl, hown2, hb3⟩; obtain ⟨va2, vc2, rfl⟩ := AeF.own_form hown2; have HO3 := Lib.hid hown2; have HS3 := Lib.hid hb3.size; have HO1c := Lib.hid (row_below HO1b.out hb3); have HO2b := Lib.hid (AeF.own_below HO2.out hb3); have HB3 := Lib.hid (HB2.out.trans (hb3.mono HB2.out.size)); have HX3 := Lib.hid (HX2.out.all hb3); have HR3 := Lib.hid (HR2.out.all hb3); clear hown2 hb3; have c7 : w3.cell? ⟨w.heap.size, 7, none⟩ = some (.slice a0 L0 d0) := (HX3.out.cell 7); have c8 : w3.cell? ⟨w.heap.size, 8, none⟩ = some (.slice a1 L1 d1) := (HX3.out.cell 8); have c9 : w3.cell? ⟨w.heap.size, 9, none⟩ = some (.slice a2 L2 d2) := (HX3.out.cell 9); have f7 := HX3.out.free 7; have f8 := HX3.out.free 8; have f9 := HX3.out.free 9))
  all_goals
   refine NoPanic.normal ⟨rfl, _, _, _, _, _, _, _, _, _, _, _, _, _, .slice va0 n.blocks.length vc0, .slice va1 n.acl.length vc1, .slice va2 n.dflt.length vc2, rfl, ?_⟩
   obtain ⟨rfl, rfl, rfl, rfl, rfl, rfl, rfl⟩ := HK.out
   have s1 : w0.heap.size <= w1.heap.size := HS1.out
   have s2 := HS2.out
   exact fin_mk HB3.out HX3.out HR3.out (row_mono HO1c.out hs0) (AeF.own_mono HO2b.out (by omega)) (AeF.own_mono HO3.out (by omega)) (nodup_app (nodup_app (fpR_nodup _) (fpR_nodup _) (Lies.apart (row_lies HO1.out) (AeF.own_lies HO2.out) (Nat.le_refl _))) (fpR_nodup _) (apart_app.2 ⟨Lies.apart (row_lies HO1.out) (AeF.own_lies HO3.out) s2, Lies.apart (AeF.own_lies HO2.out) (AeF.own_lies HO3.out) (Nat.le_refl _)⟩))
theorem copyI_impl (w : World) (v : Value) (n : I) (hc : In.cost n <= 1073741824) (h : In.Holds w v n) :
  Calls Tryz.prog 116 #[v] w fun e w' => ∃ v' S, e = .returned v' /\ In.Own w' w.heap.size v' n S /\ Below w.heap.size w w' :=
 (copyT_impl w v n hc h).mono fun e w' ⟨y0, y1, y2, he, h0, h1, h2, h3, h4⟩ => ⟨_, _, he, ⟨_, _, _, _, _, _, rfl, rfl, h3, NiF.own_of h0, h1, h2⟩, h4⟩
end Go.Proofs.YthppbcnejapbiaaGreatDoor.CpI

-- YthppbcnejapbiaaGreatDoorCpG
/- A part. -/
namespace Go.Proofs.YthppbcnejapbiaaGreatDoor.CpG
open Go.ChangeShapes Go.WideShapes Go.ChangeAt Go.RowKit
open Foot Bx
open InoV (I)
open FsV (F)
open FoB CpF
open Lib (hid)
set_option linter.unusedVariables false
set_option maxRecDepth 100000 in
set_option maxHeartbeats 6400000 in
theorem copy_impl (w : World) (v : Value) (f : F) (hc : FsF.cost f <= 1073741824) (hl : FsF.Lim f) (h : FsF.Holds w v f) :
  Calls Tryz.prog 64 #[v] w fun e w' => ∃ v' S, e = .returned v' /\ FsF.Own w' w.heap.size v' f S /\ Below w.heap.size w w' := by
 have HFS := Lib.hid h
 obtain ⟨r0, r1, r2, rfl, g0, g1, g2⟩ := h
 have hb0 : f.quotas.length <= 1073741824 := Nat.le_trans (FsF.le_quotas f) hc
 have hb1 : IF.cost f.inodes <= 1073741824 := Nat.le_trans (FsF.le_inodes f) hc
 have hb2 : f.data.length <= 1073741824 := Nat.le_trans (Nat.le_trans (Nat.le_add_right _ _) (FsF.le_data f)) hc
 have HC0 := Lib.hid hb0
 have HC1 := Lib.hid hb1
 have HC2 := Lib.hid hb2
 have H0 := Lib.hid g0
 have H1 := Lib.hid g1
 have H2 := Lib.hid g2
 obtain ⟨es, hns0, hsrc0, hes0⟩ := ClN.src_is g1
 have HNS := Lib.hid hns0
 have HES := Lib.hid hes0
 obtain ⟨a0, d0, rfl⟩ := QF.form g0
 obtain ⟨a1, d1, rfl⟩ := IF.form g1
 obtain ⟨a2, d2, rfl⟩ := SF.form g2
 have HSRC := Lib.hid hsrc0
 clear g0 g1 g2 hb0 hb1 hb2 hns0 hes0 hsrc0
 obtain ⟨TK, hTK⟩ : ∃ T, T = f.tick := ⟨_, rfl⟩
 rw [<- hTK] at HFS ⊢
 have HTK := Lib.hid hTK
 clear hTK
 obtain ⟨L0, hL0⟩ : ∃ L, L = f.quotas.length := ⟨_, rfl⟩
 obtain ⟨L1, hL1⟩ : ∃ L, L = f.inodes.length := ⟨_, rfl⟩
 obtain ⟨L2, hL2⟩ : ∃ L, L = f.data.length := ⟨_, rfl⟩
 rw [<- hL0] at H0 ⊢
 rw [<- hL1] at H1 HSRC ⊢
 rw [<- hL2] at H2 ⊢
 have HL0 := Lib.hid hL0
 have HL1 := Lib.hid hL1
 have HL2 := Lib.hid hL2
 clear hL0 hL1 hL2 HFS
 have HB := Lib.hid (((Below.refl w.heap.size w).alloc (Nat.le_refl _) (.cells #[.int .i64 TK, .slice a0 L0 d0, .slice a1 L1 d1, .slice a2 L2 d2] 33)).alloc (by simp) (.cells #[.int .i64 0, .slice none 0 0, .slice none 0 0, .slice none 0 0] 33))
 have HX := Lib.hid ((new w #[.int .i64 TK, .slice a0 L0 d0, .slice a1 L1 d1, .slice a2 L2 d2] 33).alloc (.cells #[.int .i64 0, .slice none 0 0, .slice none 0 0, .slice none 0 0] 33))
 have HR := Lib.hid (new_at (w.alloc (.cells #[.int .i64 TK, .slice a0 L0 d0, .slice a1 L1 d1, .slice a2 L2 d2] 33)) #[.int .i64 0, .slice none 0 0, .slice none 0 0, .slice none 0 0] 33 (w.heap.size + 1) (by simp))
 have HCQ := Lib.hid (fun (W : World) (hb : Below w.heap.size w W) => show Calls Tryz.prog 113 #[.slice a0 L0 d0] W fun e w' => ∃ v', e = .returned v' /\ QF.Own w' W.heap.size v' f.quotas (fpR v') /\ Below W.heap.size W w' from FsM.clone_any W _ f.quotas HC0.out (Qt.holds_below H0.out hb))
 have HCI := Lib.hid (fun (W : World) (hb : Below w.heap.size w W) => show Calls Tryz.prog 114 #[.slice a1 L1 d1] W fun e w' => ∃ v' : Value, e = .returned v' /\ w'.ownsRow W.heap.size 89 10 v' L1 (IF.cells es) /\ Below W.heap.size W w' from ClN.cloneI_any W _ es _ (by have h1 := HC1.out; have h2 : f.inodes.length <= IF.cost f.inodes := Nat.le_add_right _ _; have h3 := HL1.out; omega) (ClN.src_below HSRC.out hb))
 have HCS := Lib.hid (fun (W : World) (hb : Below w.heap.size w W) => show Calls Tryz.prog 115 #[.slice a2 L2 d2] W fun e w' => ∃ v', e = .returned v' /\ w'.ownsRow W.heap.size 9 1 v' f.data.length (f.data.map Value.string) /\ Below W.heap.size W w' from ClN.cloneS_any W _ f.data HC2.out (SF.holds_below H2.out hb))
 go_enter Tryz.func64, Tryz.ntmps64
 go_wp2
 generalize hW0 : (w.alloc (.cells #[.int .i64 TK, .slice a0 L0 d0, .slice a1 L1 d1, .slice a2 L2 d2] 33)).alloc (.cells #[.int .i64 0, .slice none 0 0, .slice none 0 0, .slice none 0 0] 33) = w0 at *
 have hsz0 : w0.heap.size = w.heap.size + 1 + 1 := by rw [<- hW0]; simp
 have hs0 := Nat.le_of_eq hsz0.symm
 clear hW0 hsz0
 have c1 : w0.cell? ⟨w.heap.size, 1, none⟩ = some (.slice a0 L0 d0) := HX.out.cell 1
 have c2 : w0.cell? ⟨w.heap.size, 2, none⟩ = some (.slice a1 L1 d1) := HX.out.cell 2
 have c3 : w0.cell? ⟨w.heap.size, 3, none⟩ = some (.slice a2 L2 d2) := HX.out.cell 3
 refine Code.wp_mono (Q := NoPanic fun e a W => e = .normal /\ ∃ (va0 va1 va2 : Option Addr) (vc0 vc1 vc2 : Nat) (y5 y6 y7 y8 y9 y10 y11 y12 y13 y14 y15 y16 : Value), a = { tmps := #[.agg #[.int .i64 TK, .slice a0 L0 d0, .slice a1 L1 d1, .slice a2 L2 d2], .pointer (some ⟨w.heap.size, 0, none⟩), .pointer (some ⟨w.heap.size + 1, 0, none⟩), undef, undef, y5, y6, y7, y8, y9, y10, y11, y12, y13, y14, y15, y16, undef, undef, undef, undef, undef, undef, undef, undef, undef, undef, undef, undef, undef, undef, undef, undef], defers := [] } /\ Pre w f es W (.slice va0 f.quotas.length vc0) (.slice va1 f.inodes.length vc1) (.slice va2 f.data.length vc2)) ?mid ?reg
 case mid =>
  rintro e a W hq
  obtain ⟨rfl, va0, va1, va2, vc0, vc1, vc2, y5, y6, y7, y8, y9, y10, y11, y12, y13, y14, y15, y16, rfl, hpre⟩ := NoPanic.imp _ _ _ hq
  clear hq
  obtain ⟨p1, p2, p3, p4, p5, p6, p7, p8, p9⟩ := id hpre
  have HP0 := Lib.hid hpre
  have hesl : es.length = f.inodes.length := by rw [<- HNS.out, IF.ns_length]
  have HESL := Lib.hid hesl
  have HND := Lib.hid p7
  have HHH := Lib.hid (show ∀ k ∈ fpR (.slice va0 f.quotas.length vc0) ++ fpR (.slice va1 f.inodes.length vc1) ++ fpR (.slice va2 f.data.length vc2), w.heap.size + 1 + 1 <= k /\ k < W.heap.size from fun k hk => by
   rcases List.mem_append.1 hk with hk | hk
   ·rcases List.mem_append.1 hk with hk | hk
    ·exact QF.own_lies p4 k hk
    ·exact row_lies p5 k hk
   ·exact SF.own_lies p6 k hk)
  have HBW := Lib.hid p1
  have HR0 := Lib.hid (rel_start hpre)
  have HCEL := Lib.hid (fun i (hi : i < f.inodes.length) => Nat.le_trans (IF.cost_at hi) (Nat.le_trans (Nat.le_trans (Nat.le_add_left _ _) (FsF.le_inodes f)) hc))
  obtain ⟨m0, m1, m2, m3⟩ := Bk.c4 p2
  obtain ⟨M, hM⟩ : ∃ M, M = f.inodes.length := ⟨_, rfl⟩
  have hMl : M <= 1073741824 := by
   have : f.inodes.length <= IF.cost f.inodes := Nat.le_add_right _ _
   have := Nat.le_trans (FsF.le_inodes f) hc
   omega
  rw [<- hM] at m2
  have HM := Lib.hid hM
  obtain ⟨H, hH⟩ : ∃ H, H = W.heap.size := ⟨_, rfl⟩
  rw [<- hH] at HR0 HHH
  have HWH := Lib.hid (Nat.le_of_eq hH)
  clear p1 p2 p3 p4 p5 p6 p7 p8 p9 hpre hesl hM hH m0 m1 m3 hc hl
  go_wp2
  clear m2
  go_loopw [20] (fun iv wr => ∃ i : Nat, i <= M /\ iv = .int .i64 i /\ Rel w f es H (.slice va0 f.quotas.length vc0) (.slice va1 f.inodes.length vc1) (.slice va2 f.data.length vc2) i wr) (fun iv _ => M - (intOf iv).toNat)
  case atStart => exact ⟨0, Nat.zero_le _, rfl, HR0.out⟩
  case round =>
   obtain ⟨i, hi, rfl, hrel⟩ := hrel
   have HRR := Lib.hid hrel
   by_cases hlt : i < M
   ·have hlx : i < f.inodes.length := by rw [<- HM.out]; exact hlt
    have hie : i < es.length := by rw [HESL.out]; exact hlx
    obtain ⟨done, q1, q2, q3, q4, q5, q6, q7, q8, q9, q10, q11, q12⟩ := hrel
    obtain ⟨g, rfl, hgg⟩ : ∃ g, va1 = some ⟨g, 0, none⟩ /\ w.heap.size + 1 + 1 <= g := by
     rcases q3.2 with ⟨_, hz⟩ | ⟨g, cap, cur, e, hb, _⟩
     ·omega
     ·rw [Value.slice.injEq] at e; exact ⟨g, e.1, hb⟩
    have hme := HES.out es[i] (List.getElem_mem hie)
    have HBR := Lib.hid q11
    have hszr := q11.size
    have hHr := q12
    have hne : es[i].1 = f.inodes.getD i InoV.zero := by
     rw [<- HNS.out, List.getD_eq_getElem?_getD, IF.ns, List.getElem?_map, List.getElem?_eq_getElem hie]; rfl
    have hA : (IF.cells done).length = i * 10 := by rw [IF.cells_len q4, q1]
    have hsp : IF.cells done ++ IF.cells (es.drop i) = IF.cells done ++ (IF.vcells es[i].2.1 ++ IF.cells (es.drop (i + 1))) := by
     rw [List.drop_eq_getElem_cons hie]; rfl
    rw [hsp] at q3
    have hcx := HCEL.out i hlx
    rw [show IF.z0 = InoV.zero from rfl, <- hne] at hcx
    obtain ⟨⟨n0, y0, S00⟩, hee⟩ : ∃ e, e = es[i] := ⟨_, rfl⟩
    rw [<- hee] at hme hne hcx q3
    dsimp only at hme hne hcx q3
    have HHX := Lib.hid (In.holds_below hme HBR.out)
    obtain ⟨r0, r1, r2, rfl, g0, g1, g2⟩ := hme
    obtain ⟨b0, e0, rfl⟩ := NiF.form g0
    obtain ⟨b1, e1, rfl⟩ := AeF.form g1
    obtain ⟨b2, e2, rfl⟩ := AeF.form g2
    have HROW := Lib.hid q3
    have HNE := Lib.hid hne
    have HA := Lib.hid hA
    have HLEN := Lib.hid (show i * 10 + 10 <= f.inodes.length * 10 by have := Nat.mul_le_mul_right 10 (show i + 1 <= f.inodes.length by omega); rw [Nat.succ_mul] at this; omega)
    have HX := Lib.hid q7
    have HCX := Lib.hid hcx
    clear g0 g1 g2 q1 q2 q3 q4 q5 q6 q7 q8 q9 q10 q11 q12 hsp hne hA hee hcx
    have d0 : wr.cell? ⟨g, i * 10, none⟩ = some (.int .i64 n0.kind) := by rw [HROW.out.cellAt _ (by have := HLEN.out; omega), List.getElem?_append_right (by rw [HA.out]; omega), HA.out]; rw [Nat.sub_self]; rfl
    have d1 : wr.cell? ⟨g, i * 10 + 1, none⟩ = some (.int .i64 n0.mode) := by rw [HROW.out.cellAt _ (by have := HLEN.out; omega), List.getElem?_append_right (by rw [HA.out]; omega), HA.out]; rw [Nat.add_sub_cancel_left]; rfl
    have d2 : wr.cell? ⟨g, i * 10 + 2, none⟩ = some (.int .i64 n0.uid) := by rw [HROW.out.cellAt _ (by have := HLEN.out; omega), List.getElem?_append_right (by rw [HA.out]; omega), HA.out]; rw [Nat.add_sub_cancel_left]; rfl
    have d3 : wr.cell? ⟨g, i * 10 + 3, none⟩ = some (.int .i64 n0.gid) := by rw [HROW.out.cellAt _ (by have := HLEN.out; omega), List.getElem?_append_right (by rw [HA.out]; omega), HA.out]; rw [Nat.add_sub_cancel_left]; rfl
    have d4 : wr.cell? ⟨g, i * 10 + 4, none⟩ = some (.int .i64 n0.links) := by rw [HROW.out.cellAt _ (by have := HLEN.out; omega), List.getElem?_append_right (by rw [HA.out]; omega), HA.out]; rw [Nat.add_sub_cancel_left]; rfl
    have d5 : wr.cell? ⟨g, i * 10 + 5, none⟩ = some (.int .i64 n0.size) := by rw [HROW.out.cellAt _ (by have := HLEN.out; omega), List.getElem?_append_right (by rw [HA.out]; omega), HA.out]; rw [Nat.add_sub_cancel_left]; rfl
    have d6 : wr.cell? ⟨g, i * 10 + 6, none⟩ = some (.int .i64 n0.tick) := by rw [HROW.out.cellAt _ (by have := HLEN.out; omega), List.getElem?_append_right (by rw [HA.out]; omega), HA.out]; rw [Nat.add_sub_cancel_left]; rfl
    have d7 : wr.cell? ⟨g, i * 10 + 7, none⟩ = some (.slice b0 n0.blocks.length e0) := by rw [HROW.out.cellAt _ (by have := HLEN.out; omega), List.getElem?_append_right (by rw [HA.out]; omega), HA.out]; rw [Nat.add_sub_cancel_left]; rfl
    have d8 : wr.cell? ⟨g, i * 10 + 8, none⟩ = some (.slice b1 n0.acl.length e1) := by rw [HROW.out.cellAt _ (by have := HLEN.out; omega), List.getElem?_append_right (by rw [HA.out]; omega), HA.out]; rw [Nat.add_sub_cancel_left]; rfl
    have d9 : wr.cell? ⟨g, i * 10 + 9, none⟩ = some (.slice b2 n0.dflt.length e2) := by rw [HROW.out.cellAt _ (by have := HLEN.out; omega), List.getElem?_append_right (by rw [HA.out]; omega), HA.out]; rw [Nat.add_sub_cancel_left]; rfl
    have x2 : wr.cell? ⟨w.heap.size, 2, none⟩ = some (.slice (some ⟨g, 0, none⟩) M vc1) := by rw [HM.out]; exact HX.out.cell 2
    have HAL := Lib.hid (rel_below HRR.out ((Below.refl wr.heap.size wr).alloc (Nat.le_refl _) (.cells #[.int .i64 n0.kind, .int .i64 n0.mode, .int .i64 n0.uid, .int .i64 n0.gid, .int .i64 n0.links, .int .i64 n0.size, .int .i64 n0.tick, .slice b0 n0.blocks.length e0, .slice b1 n0.acl.length e1, .slice b2 n0.dflt.length e2] 89)))
    have HBA := Lib.hid (HBR.out.alloc hszr (.cells #[.int .i64 n0.kind, .int .i64 n0.mode, .int .i64 n0.uid, .int .i64 n0.gid, .int .i64 n0.links, .int .i64 n0.size, .int .i64 n0.tick, .slice b0 n0.blocks.length e0, .slice b1 n0.acl.length e1, .slice b2 n0.dflt.length e2] 89))
    have HNB := Lib.hid (new wr #[.int .i64 n0.kind, .int .i64 n0.mode, .int .i64 n0.uid, .int .i64 n0.gid, .int .i64 n0.links, .int .i64 n0.size, .int .i64 n0.tick, .slice b0 n0.blocks.length e0, .slice b1 n0.acl.length e1, .slice b2 n0.dflt.length e2] 89)
    have HXA := Lib.hid (HX.out.alloc (.cells #[.int .i64 n0.kind, .int .i64 n0.mode, .int .i64 n0.uid, .int .i64 n0.gid, .int .i64 n0.links, .int .i64 n0.size, .int .i64 n0.tick, .slice b0 n0.blocks.length e0, .slice b1 n0.acl.length e1, .slice b2 n0.dflt.length e2] 89))
    have HHA := Lib.hid (In.holds_below HHX.out ((Below.refl wr.heap.size wr).alloc (Nat.le_refl _) (.cells #[.int .i64 n0.kind, .int .i64 n0.mode, .int .i64 n0.uid, .int .i64 n0.gid, .int .i64 n0.links, .int .i64 n0.size, .int .i64 n0.tick, .slice b0 n0.blocks.length e0, .slice b1 n0.acl.length e1, .slice b2 n0.dflt.length e2] 89)))
    have HRWA := Lib.hid (World.ownsRow.alloc HROW.out (.cells #[.int .i64 n0.kind, .int .i64 n0.mode, .int .i64 n0.uid, .int .i64 n0.gid, .int .i64 n0.links, .int .i64 n0.size, .int .i64 n0.tick, .slice b0 n0.blocks.length e0, .slice b1 n0.acl.length e1, .slice b2 n0.dflt.length e2] 89))
    have HBWA := Lib.hid ((Below.refl wr.heap.size wr).alloc (Nat.le_refl _) (.cells #[.int .i64 n0.kind, .int .i64 n0.mode, .int .i64 n0.uid, .int .i64 n0.gid, .int .i64 n0.links, .int .i64 n0.size, .int .i64 n0.tick, .slice b0 n0.blocks.length e0, .slice b1 n0.acl.length e1, .slice b2 n0.dflt.length e2] 89))
    have HVL := Lib.hid (show ∀ e ∈ es, (IF.vcells e.2.1).length = 10 from fun e he => by obtain ⟨r0, r1, r2, hv, _⟩ := HES.out e he; rw [hv]; rfl)
    go_wp2
    clear d0 d1 d2 d3 d4 d5 d6 d7 d8 d9 x2
    generalize wr.alloc (.cells #[.int .i64 n0.kind, .int .i64 n0.mode, .int .i64 n0.uid, .int .i64 n0.gid, .int .i64 n0.links, .int .i64 n0.size, .int .i64 n0.tick, .slice b0 n0.blocks.length e0, .slice b1 n0.acl.length e1, .slice b2 n0.dflt.length e2] 89) = wa at *
    have x2 : wa.cell? ⟨w.heap.size, 2, none⟩ = some (.slice (some ⟨g, 0, none⟩) M vc1) := by rw [HM.out]; exact HXA.out.cell 2
    obtain ⟨m0, m1, m2, m3, m4, m5, m6, m7, m8, m9⟩ := Bk.c10 HNB.out
    go_region_law (go_simp; go_at_call 116; ((with_reducible refine (CpI.copyI_impl _ _ n0 HCX.out ?_).mono ?_)); (exact In.holds_below HHA.out (Below.drew (Below.refl _ _))); rintro e w2 ⟨y', T, rfl, hown, hb2⟩; obtain ⟨t0, t1, t2, T0, T1, T2, rfl, hTT, hTn, ho0, ho1, ho2⟩ := id hown; obtain ⟨ya0, yc0, rfl⟩ := NiF.own_form ho0; obtain ⟨ya1, yc1, rfl⟩ := AeF.own_form ho1; obtain ⟨ya2, yc2, rfl⟩ := AeF.own_form ho2; have HOW := Lib.hid hown; have HB2 := Lib.hid hb2; have HRW2 := Lib.hid (row_below (World.ownsRow.drew HRWA.out) hb2); have HX2 := Lib.hid (Bk.all (Bk.drew HXA.out) hb2); clear hown hb2 hTT hTn ho0 ho1 ho2; have x2 : w2.cell? ⟨w.heap.size, 2, none⟩ = some (.slice (some ⟨g, 0, none⟩) M vc1) := (by rw [HM.out]; exact HX2.out.cell 2); have d0 : w2.cell? ⟨g, i * 10, none⟩ = some (.int .i64 n0.kind) := (by rw [HRW2.out.cellAt _ (by have := HLEN.out; omega), List.getElem?_append_right (by rw [HA.out]; omega), HA.out]; rw [Nat.sub_self]; rfl); have f0 := HRW2.out.frozenAt (i * 10); have d1 : w2.cell? ⟨g, i * 10 + 1, none⟩ = some (.int .i64 n0.mode) := (by rw [HRW2.out.cellAt _ (by have := HLEN.out; omega), List.getElem?_append_right (by rw [HA.out]; omega), HA.out]; rw [Nat.add_sub_cancel_left]; rfl); have f1 := HRW2.out.frozenAt (i * 10 + 1); have d2 : w2.cell? ⟨g, i * 10 + 2, none⟩ = some (.int .i64 n0.uid) := (by rw [HRW2.out.cellAt _ (by have := HLEN.out; omega), List.getElem?_append_right (by rw [HA.out]; omega), HA.out]; rw [Nat.add_sub_cancel_left]; rfl); have f2 := HRW2.out.frozenAt (i * 10 + 2); have d3 : w2.cell? ⟨g, i * 10 + 3, none⟩ = some (.int .i64 n0.gid) := (by rw [HRW2.out.cellAt _ (by have := HLEN.out; omega), List.getElem?_append_right (by rw [HA.out]; omega), HA.out]; rw [Nat.add_sub_cancel_left]; rfl); have f3 := HRW2.out.frozenAt (i * 10 + 3); have d4 : w2.cell? ⟨g, i * 10 + 4, none⟩ = some (.int .i64 n0.links) := (by rw [HRW2.out.cellAt _ (by have := HLEN.out; omega), List.getElem?_append_right (by rw [HA.out]; omega), HA.out]; rw [Nat.add_sub_cancel_left]; rfl); have f4 := HRW2.out.frozenAt (i * 10 + 4); have d5 : w2.cell? ⟨g, i * 10 + 5, none⟩ = some (.int .i64 n0.size) := (by rw [HRW2.out.cellAt _ (by have := HLEN.out; omega), List.getElem?_append_right (by rw [HA.out]; omega), HA.out]; rw [Nat.add_sub_cancel_left]; rfl); have f5 := HRW2.out.frozenAt (i * 10 + 5); have d6 : w2.cell? ⟨g, i * 10 + 6, none⟩ = some (.int .i64 n0.tick) := (by rw [HRW2.out.cellAt _ (by have := HLEN.out; omega), List.getElem?_append_right (by rw [HA.out]; omega), HA.out]; rw [Nat.add_sub_cancel_left]; rfl); have f6 := HRW2.out.frozenAt (i * 10 + 6); have d7 : w2.cell? ⟨g, i * 10 + 7, none⟩ = some (.slice b0 n0.blocks.length e0) := (by rw [HRW2.out.cellAt _ (by have := HLEN.out; omega), List.getElem?_append_right (by rw [HA.out]; omega), HA.out]; rw [Nat.add_sub_cancel_left]; rfl); have f7 := HRW2.out.frozenAt (i * 10 + 7); have d8 : w2.cell? ⟨g, i * 10 + 8, none⟩ = some (.slice b1 n0.acl.length e1) := (by rw [HRW2.out.cellAt _ (by have := HLEN.out; omega), List.getElem?_append_right (by rw [HA.out]; omega), HA.out]; rw [Nat.add_sub_cancel_left]; rfl); have f8 := HRW2.out.frozenAt (i * 10 + 8); have d9 : w2.cell? ⟨g, i * 10 + 9, none⟩ = some (.slice b2 n0.dflt.length e2) := (by rw [HRW2.out.cellAt _ (by have := HLEN.out; omega), List.getElem?_append_right (by rw [HA.out]; omega), HA.out]; rw [Nat.add_sub_cancel_left]; rfl); have f9 := HRW2.out.frozenAt (i * 10 + 9))
    all_goals
     have hs2 : wr.heap.size <= wa.heap.size := HBWA.out.size
     have hs3 : wa.heap.size <= w2.heap.size := HB2.out.size
     have hlT : Lies T wa.heap.size w2.heap.size := In.own_lies HOW.out
     have how : In.Own w2 (w.heap.size + 1 + 1) (.agg #[.int .i64 n0.kind, .int .i64 n0.mode, .int .i64 n0.uid, .int .i64 n0.gid, .int .i64 n0.links, .int .i64 n0.size, .int .i64 n0.tick, .slice ya0 n0.blocks.length yc0, .slice ya1 n0.acl.length yc1, .slice ya2 n0.dflt.length yc2]) (f.inodes.getD i InoV.zero) T := by rw [<- HNE.out]; exact In.own_mono HOW.out (by show _ <= wa.heap.size; have := HHH.out g (by simp [fpR, Value.ownBlock]); omega)
     have hstep := CpF.rel_step hlx HESL.out HVL.out HND.out HHH.out how (fun k hk => by have := (hlT k hk).1; omega) ⟨wr, HRR.out, HBWA.out.drew.trans (HB2.out.mono (by show wr.heap.size <= wa.heap.size; omega)), fun k hk => by have := (hlT k hk).1; omega⟩
     unfold row10 at hstep
     generalize ((((((((((w2.setCell ⟨g, i * 10, none⟩ (.int .i64 n0.kind)).setCell ⟨g, i * 10 + 1, none⟩ (.int .i64 n0.mode)).setCell ⟨g, i * 10 + 2, none⟩ (.int .i64 n0.uid)).setCell ⟨g, i * 10 + 3, none⟩ (.int .i64 n0.gid)).setCell ⟨g, i * 10 + 4, none⟩ (.int .i64 n0.links)).setCell ⟨g, i * 10 + 5, none⟩ (.int .i64 n0.size)).setCell ⟨g, i * 10 + 6, none⟩ (.int .i64 n0.tick)).setCell ⟨g, i * 10 + 7, none⟩ (.slice ya0 n0.blocks.length yc0)).setCell ⟨g, i * 10 + 8, none⟩ (.slice ya1 n0.acl.length yc1)).setCell ⟨g, i * 10 + 9, none⟩ (.slice ya2 n0.dflt.length yc2)) = w9 at hstep ⊢
     clear d0 d1 d2 d3 d4 d5 d6 d7 d8 d9 f0 f1 f2 f3 f4 f5 f6 f7 f8 f9 m0 m1 m2 m3 m4 m5 m6 m7 m8 m9
     have HST := Lib.hid hstep
     clear hstep how hlT
     clear x2
     go_wp2
     go_roundw
     case rel => exact ⟨i + 1, by omega, by go_num, HST.out⟩
     case measure => simp [intOf]; omega
   ·obtain rfl : i = M := by omega
    obtain ⟨S, hS⟩ := CpF.rel_end (by have h := HRR.out; rw [HM.out] at h; exact h) HESL.out HND.out HHH.out
    obtain ⟨done, q1, q2, q3, q4, q5, q6, q7, q8, q9, q10, q11, q12⟩ := hrel
    have HS := Lib.hid hS
    have HX := Lib.hid q7
    have HR := Lib.hid q8
    have HBR := Lib.hid q11
    rw [<- HTK.out] at HX HS
    obtain ⟨x0, x1, x2, x3⟩ := Bk.c4 HX.out
    obtain ⟨r0, r1, r2, r3⟩ := Bk.c4 HR.out
    have f0 := HR.out.free 0
    have f1 := HR.out.free 1
    have f2 := HR.out.free 2
    have f3 := HR.out.free 3
    clear q1 q2 q3 q4 q5 q6 q7 q8 q9 q10 q11 q12 hS
    rw [<- HM.out] at x2
    go_wp2
    have hF := FoB.box4_bk HR.out (.int .i64 TK) (.slice va0 f.quotas.length vc0) (.slice va1 i vc1) (.slice va2 f.data.length vc2)
    have hC := FoB.box4_chg wr (w.heap.size + 1) (.int .i64 TK) (.slice va0 f.quotas.length vc0) (.slice va1 i vc1) (.slice va2 f.data.length vc2)
    unfold FoB.box4 at hF hC
    generalize ((((wr.setCell ⟨w.heap.size + 1, 0, none⟩ (.int .i64 TK)).setCell ⟨w.heap.size + 1, 1, none⟩ (.slice va0 f.quotas.length vc0)).setCell ⟨w.heap.size + 1, 2, none⟩ (.slice va1 i vc1)).setCell ⟨w.heap.size + 1, 3, none⟩ (.slice va2 f.data.length vc2)) = w9 at hF hC ⊢
    obtain ⟨e0, e1, e2, e3⟩ := Bk.c4 hF
    have hS9 := FsF.own_mono (FsF.own_chg HS.out hC (fun k hk hh => by have := (FsF.own_lies HS.out k hk).1; rw [List.mem_singleton] at hh; omega)) (show w.heap.size <= w.heap.size + 1 + 1 by omega)
    rw [<- HM.out] at hS9
    exact bodyPost_ret (v := .agg #[.int .i64 TK, .slice va0 f.quotas.length vc0, .slice va1 i vc1, .slice va2 f.data.length vc2]) (by simp [results, Tryz.results64, go_sem, e0, e1, e2, e3]) rfl ⟨_, S, rfl, hS9, HBR.out.trans (FoB.Chg.from hC HBR.out.size (Nat.le_succ _))⟩
 case reg =>
  go_region_law (first
    | (go_simp; go_at_call 113; ((with_reducible refine (HCQ.out _ ?_).mono ?_)); (exact HB.out.drew); rintro e w1 ⟨v0, rfl, hown0, hb1⟩; obtain ⟨va0, vc0, rfl⟩ := QF.own_form hown0; have HO1 := Lib.hid hown0; have HS1 := Lib.hid hb1.size; have HB1 := Lib.hid (HB.out.drew.trans (hb1.mono HB.out.drew.size)); have HX1 := Lib.hid (Bk.all (Bk.drew HX.out) hb1); have HR1 := Lib.hid (Bk.all (Bk.drew HR.out) hb1); clear hown0 hb1; have c2 : w1.cell? ⟨w.heap.size, 2, none⟩ = some (.slice a1 L1 d1) := (HX1.out.cell 2); have c3 : w1.cell? ⟨w.heap.size, 3, none⟩ = some (.slice a2 L2 d2) := (HX1.out.cell 3))
    | (go_simp; go_at_call 114; ((with_reducible refine (HCI.out _ ?_).mono ?_)); (exact HB1.out); rintro e w2 ⟨v1, rfl, hown1, hb2⟩; obtain ⟨va1, vc1, rfl⟩ := Dk.slice_of hown1; have HO2 := Lib.hid hown1; have HS2 := Lib.hid hb2.size; have HO1b := Lib.hid (QF.own_below HO1.out hb2); have HB2 := Lib.hid (HB1.out.trans (hb2.mono HB1.out.size)); have HX2 := Lib.hid (HX1.out.all hb2); have HR2 := Lib.hid (HR1.out.all hb2); clear hown1 hb2; have c3 : w2.cell? ⟨w.heap.size, 3, none⟩ = some (.slice a2 L2 d2) := (HX2.out.cell 3))
    | (go_simp; go_at_call 115; ((with_reducible refine (HCS.out _ ?_).mono ?_)); (exact HB2.out); rintro e w3 ⟨v2, rfl, hown2, hb3⟩; obtain ⟨va2, vc2, rfl⟩ := Dk.slice_of hown2; have HO3 := Lib.hid hown2; have HS3 := Lib.hid hb3.size; have HO1c := Lib.hid (QF.own_below HO1b.out hb3); have HO2b := Lib.hid (row_below HO2.out hb3); have HB3 := Lib.hid (HB2.out.trans (hb3.mono HB2.out.size)); have HX3 := Lib.hid (HX2.out.all hb3); have HR3 := Lib.hid (HR2.out.all hb3); clear hown2 hb3; have c1 : w3.cell? ⟨w.heap.size, 1, none⟩ = some (.slice a0 L0 d0) := (HX3.out.cell 1); have c2 : w3.cell? ⟨w.heap.size, 2, none⟩ = some (.slice a1 L1 d1) := (HX3.out.cell 2); have c3 : w3.cell? ⟨w.heap.size, 3, none⟩ = some (.slice a2 L2 d2) := (HX3.out.cell 3); have f1 := HX3.out.free 1; have f2 := HX3.out.free 2; have f3 := HX3.out.free 3))
  all_goals
   refine NoPanic.normal ⟨rfl, va0, va1, va2, vc0, vc1, vc2, _, _, _, _, _, _, _, _, _, _, _, _, rfl, ?_⟩
   obtain rfl := HTK.out
   have s1 : w0.heap.size <= w1.heap.size := HS1.out
   have s2 := HS2.out
   have o2 := HO2b.out
   have o1 := HO2.out
   rw [HL1.out] at o1 o2 ⊢
   exact pre_mk HB3.out HX3.out HR3.out (QF.own_mono HO1c.out hs0) (row_mono o2 (by omega)) ⟨row_mono HO3.out (by omega), rfl⟩ (nodup_app (nodup_app (fpR_nodup _) (fpR_nodup _) (Lies.apart (QF.own_lies HO1.out) (row_lies o1) (Nat.le_refl _))) (fpR_nodup _) (apart_app.2 ⟨Lies.apart (QF.own_lies HO1.out) (row_lies HO3.out) s2, Lies.apart (row_lies o1) (row_lies HO3.out) (Nat.le_refl _)⟩)) HNS.out HES.out
end Go.Proofs.YthppbcnejapbiaaGreatDoor.CpG

-- YthppbcnejapbiaaGreatDoorFsC
/- A part. -/
namespace Go.Proofs.YthppbcnejapbiaaGreatDoor.FsC
set_option maxHeartbeats 3200000
set_option maxRecDepth 100000
open Go.ChangeShapes Go.WideShapes Go.ChangeAt Go.RowKit
open Foot Bx
open InoV (I usedV hasB)
open FsV (F cnt first pick useB okF)
open Dk (ret_bool)
open Strs (ret_int)
open MpB (Is)
set_option linter.unusedVariables false
abbrev poolV (a m : Nat) (q : Int) (b : Nat) : Value := .agg #[.int .i64 a, .int .i64 m, .int .i64 q, .map (some b)]
theorem count_any (w : World) (a m : Nat) (q : Int) (b N : Nat) (s : Int -> Bool) (p : Nat -> Bool) (ha : a <= 1000) (hm : m <= 1000) (hsp : ∀ k : Nat, k < m -> s ((a : Int) + k) = p (a + k)) (h : Is w b N s) :
  Calls Tryz.prog 199 #[poolV a m q b] w fun e w' => e = .returned (.int .i64 (cnt p a m : Nat)) /\ Below w.heap.size w w' := by
 have HI := Lib.hid h
 have HSP := Lib.hid hsp
 have HCS := Lib.hid (FsV.cnt_succ p a)
 have HCL := Lib.hid (FsV.cnt_le p a)
 have HB0 := Lib.hid ((Below.refl w.heap.size w).alloc (Nat.le_refl _) (.cells #[.int .i64 a, .int .i64 m, .int .i64 q, .map (some b)] 140))
 have HX0 := Lib.hid (new w #[.int .i64 a, .int .i64 m, .int .i64 q, .map (some b)] 140)
 have HI1 := Lib.hid (HI.out.alloc (.cells #[.int .i64 a, .int .i64 m, .int .i64 q, .map (some b)] 140))
 clear h hsp
 go_enter Tryz.func199, Tryz.ntmps199
 go_wp2
 generalize w.alloc (.cells #[.int .i64 a, .int .i64 m, .int .i64 q, .map (some b)] 140) = w0 at *
 go_loopw [3, 7] (fun nv kv wr => ∃ k : Nat, k <= m /\ kv = .int .i64 k /\ nv = .int .i64 (cnt p a k : Nat) /\ wr = w0) (fun _ kv _ => m - (intOf kv).toNat)
 case atStart => exact ⟨0, Nat.zero_le _, rfl, rfl, rfl⟩
 case round =>
  obtain ⟨k, hk, rfl, rfl, rfl⟩ := hrel
  obtain ⟨x0, x1, x2, x3⟩ := Bk.c4 HX0.out
  by_cases hlt : k < m
  ·have hlk := HI1.out.look (x := (a : Int) + k) (by unfold Rg; omega)
   have hcl := HCL.out k
   rw [HSP.out k hlt] at hlk
   have HST := Lib.hid (HCS.out k)
   generalize p (a + k) = A at hlk HST
   obtain ⟨C, hC⟩ : ∃ C, C = cnt p a k := ⟨_, rfl⟩
   rw [<- hC] at hcl HST ⊢
   clear hC
   cases A
   ·have HN := Lib.hid (show cnt p a (k + 1) = C by rw [HST.out]; simp)
    go_wp2
    go_roundw
    case rel => exact ⟨k + 1, by omega, by go_num, by rw [HN.out], by first | rfl | trivial⟩
    case measure => simp [intOf]; omega
   ·have HN := Lib.hid (show cnt p a (k + 1) = C + 1 by rw [HST.out]; simp)
    go_wp2
    go_roundw
    case rel => exact ⟨k + 1, by omega, by go_num, by rw [HN.out]; go_num, by first | rfl | trivial⟩
    case measure => simp [intOf]; omega
  ·obtain rfl : k = m := by omega
   go_wp2
   go_ret
   exact ⟨rfl, HB0.out⟩
theorem pick_quota {p : Nat -> Bool} {a m : Nat} {q : Int} (h : q <= (cnt p a m : Nat)) : pick p a m q = (0, 7) := by rw [pick, if_pos h]
theorem pick_some {p : Nat -> Bool} {a m k : Nat} {q : Int} (h : ¬ q <= (cnt p a m : Nat)) (hk : k < m) (hp : ∀ j, j < k -> p (a + j) = true) (hn : p (a + k) = false) : pick p a m q = (((a + k : Nat) : Int), 0) := by
 rw [pick, if_neg h, FsV.first_some p a m k hp hk hn]
theorem pick_none {p : Nat -> Bool} {a m : Nat} {q : Int} (h : ¬ q <= (cnt p a m : Nat)) (hp : ∀ j, j < m -> p (a + j) = true) : pick p a m q = (0, 8) := by
 rw [pick, if_neg h, FsV.first_none p a m m hp (Nat.le_refl _)]
def pairV (x : Int × Int) : Value := .tuple #[.int .i64 x.1, .int .i64 x.2]
theorem ret_pair {x : Int × Int} {a b : Int} (h : x = (a, b)) : Ending.returned (.tuple #[.int .i64 a, .int .i64 b]) = .returned (pairV x) := by rw [h]; rfl
theorem next_any (w : World) (a m : Nat) (q : Int) (b N : Nat) (s : Int -> Bool) (p : Nat -> Bool) (ha : a <= 1000) (hm : m <= 1000) (hsp : ∀ k : Nat, k < m -> s ((a : Int) + k) = p (a + k)) (h : Is w b N s) :
  Calls Tryz.prog 161 #[poolV a m q b] w fun e w' => e = .returned (pairV (pick p a m q)) /\ Below w.heap.size w w' := by
 have HI := Lib.hid h
 have HSP := Lib.hid hsp
 have HB0 := Lib.hid ((Below.refl w.heap.size w).alloc (Nat.le_refl _) (.cells #[.int .i64 a, .int .i64 m, .int .i64 q, .map (some b)] 140))
 have HX0 := Lib.hid (new w #[.int .i64 a, .int .i64 m, .int .i64 q, .map (some b)] 140)
 have HI1 := Lib.hid (HI.out.alloc (.cells #[.int .i64 a, .int .i64 m, .int .i64 q, .map (some b)] 140))
 obtain ⟨C, hC⟩ : ∃ C, C = cnt p a m := ⟨_, rfl⟩
 have HPQ := Lib.hid (fun (h : q <= (C : Nat)) => pick_quota (p := p) (a := a) (m := m) (q := q) (by rw [<- hC]; exact h))
 have HPS := Lib.hid (fun (h : ¬ q <= (C : Nat)) k hk hp hn => pick_some (p := p) (a := a) (m := m) (k := k) (q := q) (by rw [<- hC]; exact h) hk hp hn)
 have HPN := Lib.hid (fun (h : ¬ q <= (C : Nat)) hp => pick_none (p := p) (a := a) (m := m) (q := q) (by rw [<- hC]; exact h) hp)
 have HCN := Lib.hid (fun (W : World) (hI : Is W b N s) => show Calls Tryz.prog 199 #[poolV a m q b] W fun e w' => e = .returned (.int .i64 (C : Nat)) /\ Below W.heap.size W w' from by rw [hC]; exact count_any W a m q b N s p ha hm hsp hI)
 clear h hsp hC
 go_enter Tryz.func161, Tryz.ntmps161
 go_wp2
 generalize w.alloc (.cells #[.int .i64 a, .int .i64 m, .int .i64 q, .map (some b)] 140) = w0 at *
 have u0 := Fam.cell (W := w0) (p := ⟨w.heap.size, 0, none⟩) HX0.out.lt (show _ = some (.int .i64 a) from HX0.out.cell 0)
 have u1 := Fam.cell (W := w0) (p := ⟨w.heap.size, 1, none⟩) HX0.out.lt (show _ = some (.int .i64 m) from HX0.out.cell 1)
 have u2 := Fam.cell (W := w0) (p := ⟨w.heap.size, 2, none⟩) HX0.out.lt (show _ = some (.int .i64 q) from HX0.out.cell 2)
 have u3 := Fam.cell (W := w0) (p := ⟨w.heap.size, 3, none⟩) HX0.out.lt (show _ = some (.map (some b)) from HX0.out.cell 3)
 have HCW := Lib.hid (fun (n : Fam.Ix w0) => HCN.out (Fam.wld w0 n) (HI1.out.below (Fam.wld_below w0 n)))
 refine Fam.region (by kernel_rfl) (by kernel_rfl) ?_
 repeat (go_big_quiet_step (first | (go_at_call 199; with_reducible refine Fam.calls (HCW.out _))))
 refine wpQuiet_nil ?_
 intro _ hw'
 obtain ⟨nq, hw''⟩ := hw'
 subst hw''
 have hbq := Fam.wld_below _ nq
 generalize Fam.wld _ nq = w9 at hbq ⊢
 have HB9 := Lib.hid (HB0.out.trans (hbq.mono HB0.out.size))
 have HX9 := Lib.hid (HX0.out.all hbq)
 have HI9 := Lib.hid (HI1.out.below hbq)
 clear hbq u0 u1 u2 u3
 by_cases hq : q <= (C : Nat)
 ·have HF := Lib.hid (HPQ.out hq)
  go_wp2
  go_ret2
  exact ⟨ret_pair HF.out, HB9.out⟩
 ·have HQ := Lib.hid hq
  obtain ⟨x0, x1, x2, x3⟩ := Bk.c4 HX9.out
  go_wp2
  clear x0 x1 x2 x3 hq
  go_loopw [12] (fun kv wr => ∃ k : Nat, k <= m /\ kv = .int .i64 k /\ wr = w9 /\ ∀ j, j < k -> p (a + j) = true) (fun kv _ => m - (intOf kv).toNat)
  case atStart => exact ⟨0, Nat.zero_le _, rfl, by first | rfl | trivial, fun j hj => absurd hj (Nat.not_lt_zero _)⟩
  case round =>
   obtain ⟨k, hk, rfl, rfl, hall⟩ := hrel
   have HALL := Lib.hid hall
   clear hall
   obtain ⟨x0, x1, x2, x3⟩ := Bk.c4 HX9.out
   by_cases hlt : k < m
   ·have hlk := HI9.out.look (x := (a : Int) + k) (by unfold Rg; omega)
    rw [HSP.out k hlt] at hlk
    have HNX := Lib.hid (fun (h : p (a + k) = true) => show ∀ j, j < k + 1 -> p (a + j) = true from fun j hj => (by
      rcases Nat.lt_or_ge j k with hjk | hjk
      ·exact HALL.out j hjk
      ·rw [show j = k from by omega]; exact h))
    have HSO := Lib.hid (fun (h : p (a + k) = false) => HPS.out HQ.out k hlt HALL.out h)
    generalize p (a + k) = A at hlk HNX HSO
    cases A
    ·have HF := Lib.hid (HSO.out rfl)
     go_wp2
     go_ret2
     exact ⟨ret_pair (by rw [HF.out]; rfl), HB9.out⟩
    ·have HN := Lib.hid (HNX.out rfl)
     go_wp2
     go_roundw
     case rel => exact ⟨k + 1, by omega, by go_num, by first | rfl | trivial, HN.out⟩
     case measure => simp [intOf]; omega
   ·obtain rfl : k = m := by omega
    have HF := Lib.hid (HPN.out HQ.out HALL.out)
    go_wp2
    go_ret2
    exact ⟨ret_pair HF.out, HB9.out⟩
end Go.Proofs.YthppbcnejapbiaaGreatDoor.FsC

-- YthppbcnejapbiaaGreatDoorFsD
/- A part. -/
namespace Go.Proofs.YthppbcnejapbiaaGreatDoor.FsD
open Go.ChangeShapes Go.WideShapes Go.ChangeAt Go.RowKit
open Foot Bx
open InoV (I usedV hasB)
open FsV (F cnt first pick useB okF)
open Dk (ret_bool)
open MpB (Is)
open FsC (poolV)
set_option linter.unusedVariables false
theorem keep4 {w : World} {p : Addr} {g : Nat} {v : Value} (h : w.cell? p = some v) (hne : p.block ≠ g) (u0 u1 u2 u3 : Value) : ((((w.setCell ⟨g, 0, none⟩ u0).setCell ⟨g, 1, none⟩ u1).setCell ⟨g, 2, none⟩ u2).setCell ⟨g, 3, none⟩ u3).cell? p = some v := by
 rw [World.cell?_setCell_far _ _ _ _ (Ne.symm hne), World.cell?_setCell_far _ _ _ _ (Ne.symm hne), World.cell?_setCell_far _ _ _ _ (Ne.symm hne), World.cell?_setCell_far _ _ _ _ (Ne.symm hne)]
 exact h
set_option maxRecDepth 100000 in
set_option maxHeartbeats 3200000 in
theorem bpool_le (w : World) (v : Value) (f : F) (k : Nat) (hk : k <= 3) (hc : FsF.cost f <= 1073741824) (hl : FsF.Lim f) (hok : FsV.Half f) (h : FsF.Holds w v f) :
  Calls Tryz.prog 120 #[v, .int .i64 k] w fun e w' => ∃ b N, N <= 1073741824 /\ e = .returned (poolV (14 * k) 14 (f.quotas.getD k (0, 0)).2 b) /\ Is w' b N (hasB (FsV.allB f.inodes)) /\ w.heap.size <= b /\ Below w.heap.size w w' := by
 obtain ⟨hQ4, hI20, hD56, _, _⟩ := hok
 obtain ⟨r0, r1, r2, rfl, g0, g1, g2⟩ := h
 have G1 := Lib.hid g1
 obtain ⟨qa, qc, rfl, hQ⟩ := Qt.atL g0
 obtain ⟨ia, ic, rfl⟩ := IF.form g1
 obtain ⟨da, dc, rfl⟩ := SF.form g2
 obtain ⟨b1, o1, rfl, hb1, hC⟩ := hQ k (by omega)
 have HIU := Lib.hid (fun W v' (hv : IF.Holds W v' f.inodes) => FsU.inuse_le W v' f.inodes (Nat.le_trans (FsF.le_inodes f) hc) hl.inodes hv)
 have HL20 := Lib.hid hI20
 rw [hI20] at G1
 rw [hQ4, hI20, hD56]
 obtain ⟨T, hT⟩ : ∃ T, T = f.tick := ⟨_, rfl⟩
 rw [<- hT]
 rw [show Qt.a0 = ((0, 0) : Int × Int) from rfl] at hC
 generalize f.quotas.getD k (0, 0) = q at hC ⊢
 clear hT g0 g1 g2 hQ hQ4 hD56 hc hl
 obtain ⟨c0, c1⟩ := hC
 have hkl : (k : Int) < 4 := by omega
 have HB0 := Lib.hid (((Below.refl w.heap.size w).alloc (Nat.le_refl _) (.cells #[.int .i64 T, .slice (some ⟨b1, o1, none⟩) 4 qc, .slice ia 20 ic, .slice da 56 dc] 33)).alloc (by simp) (.cells #[.int .i64 0, .int .i64 0, .int .i64 0, .map none] 140))
 have HX0 := Lib.hid ((new w #[.int .i64 T, .slice (some ⟨b1, o1, none⟩) 4 qc, .slice ia 20 ic, .slice da 56 dc] 33).alloc (.cells #[.int .i64 0, .int .i64 0, .int .i64 0, .map none] 140))
 have HY0 := Lib.hid (new_at (w.alloc (.cells #[.int .i64 T, .slice (some ⟨b1, o1, none⟩) 4 qc, .slice ia 20 ic, .slice da 56 dc] 33)) #[.int .i64 0, .int .i64 0, .int .i64 0, .map none] 140 (w.heap.size + 1) (by simp))
 go_enter Tryz.func120, Tryz.ntmps120
 go_wp2
 have c0' := HB0.out.cell (p := ⟨b1, o1 + k * 2 + 1, none⟩) hb1
 rw [c1] at c0'
 have hlb : b1 < w.heap.size + 1 + 1 := by omega
 have hn1 : ¬ b1 = w.heap.size + 1 := by omega
 have hn2 : ¬ w.heap.size = w.heap.size + 1 := by omega
 generalize hW0 : (w.alloc (.cells #[.int .i64 T, .slice (some ⟨b1, o1, none⟩) 4 qc, .slice ia 20 ic, .slice da 56 dc] 33)).alloc (.cells #[.int .i64 0, .int .i64 0, .int .i64 0, .map none] 140) = w0 at *
 have hsz0 : w0.heap.size = w.heap.size + 1 + 1 := by rw [<- hW0]; simp
 have HSZ := Lib.hid hsz0
 have hs0 := Nat.le_of_eq hsz0.symm
 have hs1 := Nat.le_of_eq hsz0
 have x1 := HX0.out.cell 1
 have x2 := HX0.out.cell 2
 dsimp at x1 x2
 have HCALL := Lib.hid (HIU.out w0.drew _ (IF.holds_below G1.out HB0.out.drew))
 clear hW0 hsz0 c0 c1 hI20
 go_region_held3 (fun w' => w'.cell? ⟨w.heap.size, 1, none⟩ = some (.slice (some ⟨b1, o1, none⟩) 4 qc) /\ w'.cell? ⟨w.heap.size, 2, none⟩ = some (.slice ia 20 ic) /\ w'.cell? ⟨b1, o1 + k * 2 + 1, none⟩ = some (.int .i64 q.2)) (first | exact ⟨x1, x2, c0'⟩ | exact ⟨e1, e2, e3⟩ | exact ⟨hk1 _ _ _ _, hk2 _ _ _ _, hk3 _ _ _ _⟩ | go_keep)
  (first | (go_at_call 160; with_reducible refine HCALL.out.mono ?_; rintro e w1 ⟨N, hNb, rfl, his, hb⟩; have HI := Lib.hid his; have HB1 := Lib.hid (HB0.out.drew.trans (hb.mono HB0.out.drew.size)); have HY1 := Lib.hid (Bk.all (Bk.drew HY0.out) hb); have hsb := hb.size; have q1 := hb.cell (p := ⟨w.heap.size, 1, none⟩) (by simp; omega); have q2 := hb.cell (p := ⟨w.heap.size, 2, none⟩) (by simp; omega); have q3 := hb.cell (p := ⟨b1, o1 + k * 2 + 1, none⟩) (by simp; omega); obtain ⟨y0, y1, y2, y3⟩ := Bk.c4 HY1.out; have f0 := HY1.out.free 0; have f1 := HY1.out.free 1; have f2 := HY1.out.free 2; have f3 := HY1.out.free 3; have e1 : w1.cell? ⟨w.heap.size, 1, none⟩ = some (.slice (some ⟨b1, o1, none⟩) 4 qc) := (by rw [q1]; simpa using x1); have e2 : w1.cell? ⟨w.heap.size, 2, none⟩ = some (.slice ia 20 ic) := (by rw [q2]; simpa using x2); have e3 : w1.cell? ⟨b1, o1 + k * 2 + 1, none⟩ = some (.int .i64 q.2) := (by rw [q3]; simpa using c0'); clear q1 q2 q3; have hk1 := keep4 (g := w.heap.size + 1) e1 hn2; have hk2 := keep4 (g := w.heap.size + 1) e2 hn2; have hk3 := keep4 (g := w.heap.size + 1) e3 hn1))
 clear hk1 hk2 hk3 e1 e2 e3 y0 y1 y2 y3 f0 f1 f2 f3
 rename_i hHeld
 clear hHeld
 rw [show IntKind.i64.wrap ((k : Int) * 14) = ((14 * k : Nat) : Int) from by rw [IntKind.wrap_i64]; omega]
 rw [show w0.drew.heap.size = w0.heap.size from by simp] at HI
 have hI := HI.out
 have hIF := (((hI.set (a := ⟨w.heap.size + 1, 0, none⟩) (by simp; omega) (.int .i64 (14 * k : Nat))).set (a := ⟨w.heap.size + 1, 1, none⟩) (by simp; omega) (.int .i64 14)).set (a := ⟨w.heap.size + 1, 2, none⟩) (by simp; omega) (.int .i64 q.2)).set (a := ⟨w.heap.size + 1, 3, none⟩) (by simp; omega) (.map (some w0.heap.size))
 have HYF : Bk _ _ #[.int .i64 (14 * k : Nat), .int .i64 14, .int .i64 q.2, .map (some w0.heap.size)] _ := (((HY1.out.put 0 (.int .i64 (14 * k : Nat))).put 1 (.int .i64 14)).put 2 (.int .i64 q.2)).put 3 (.map (some w0.heap.size))
 have HBF := (((HB1.out.setCell (p := ⟨w.heap.size + 1, 0, none⟩) (by simp) (.int .i64 (14 * k : Nat))).setCell (p := ⟨w.heap.size + 1, 1, none⟩) (by simp) (.int .i64 14)).setCell (p := ⟨w.heap.size + 1, 2, none⟩) (by simp) (.int .i64 q.2)).setCell (p := ⟨w.heap.size + 1, 3, none⟩) (by simp) (.map (some w0.heap.size))
 generalize (((w1.setCell ⟨w.heap.size + 1, 0, none⟩ (.int .i64 (14 * k : Nat))).setCell ⟨w.heap.size + 1, 1, none⟩ (.int .i64 14)).setCell ⟨w.heap.size + 1, 2, none⟩ (.int .i64 q.2)).setCell ⟨w.heap.size + 1, 3, none⟩ (.map (some w0.heap.size)) = w9 at hIF HYF HBF ⊢
 obtain ⟨z0, z1, z2, z3⟩ := Bk.c4 HYF
 have HIF := Lib.hid hIF
 have HBF2 := Lib.hid HBF
 clear hI hIF HYF HBF
 go_wp2
 exact bodyPost_ret (v := poolV (14 * k) 14 q.2 w0.heap.size) (by simp [results, Tryz.results120, go_sem, z0, z1, z2, z3, poolV]) rfl ⟨_, _, hNb, rfl, HIF.out, by omega, HBF2.out⟩
end Go.Proofs.YthppbcnejapbiaaGreatDoor.FsD

-- YthppbcnejapbiaaGreatDoorCoR
/- A part. -/
namespace Go.Proofs.YthppbcnejapbiaaGreatDoor.CoR
open Go.ChangeShapes Go.WideShapes Go.ChangeAt Go.RowKit
open Foot Bx
open FsY FsZ FoB
open FsV (pick)
open FsC (poolV pairV)
open MpB (Is)
set_option linter.unusedVariables false
theorem ret_int {a b : Int} (h : a = b) : Ending.returned (.int .i64 a) = .returned (.int .i64 b) := by rw [h]
def Rest (a : Nat) (q : Int) (ch s0 s : Int -> Bool) (win pre : List Int) : Prop :=
 renew a q ch s0 win = (pre ++ (renew a q ch s (win.drop pre.length)).1, (renew a q ch s (win.drop pre.length)).2)
theorem rest_zero (a : Nat) (q : Int) (ch s0 : Int -> Bool) (win : List Int) : Rest a q ch s0 s0 win [] := by simp [Rest]
theorem drop_get {l : List Int} {j : Nat} (h : j < l.length) : l.drop j = l.getD j 0 :: l.drop (j + 1) := by
 rw [List.drop_eq_getElem_cons h, getD_at h]
theorem rest_skip {a : Nat} {q : Int} {ch s0 s : Int -> Bool} {win pre : List Int} (h : Rest a q ch s0 s win pre) (hj : pre.length < win.length) (hc : ch (win.getD pre.length 0) = false) : Rest a q ch s0 s win (pre ++ [win.getD pre.length 0]) := by
 unfold Rest at h ⊢
 rw [h, drop_get hj, renew_skip hc, List.length_append]; simp
theorem rest_new {a : Nat} {q : Int} {ch s0 s : Int -> Bool} {win pre : List Int} {x : Int} (h : Rest a q ch s0 s win pre) (hj : pre.length < win.length) (hc : ch (win.getD pre.length 0) = true) (hp : pk a q s = (x, 0)) : Rest a q ch s0 (more s x) win (pre ++ [x]) := by
 unfold Rest at h ⊢
 rw [h, drop_get hj, renew_new hc hp, List.length_append]; simp
theorem rest_fail {a : Nat} {q : Int} {ch s0 s : Int -> Bool} {win pre : List Int} {x c : Int} (h : Rest a q ch s0 s win pre) (hj : pre.length < win.length) (hc : ch (win.getD pre.length 0) = true) (hp : pk a q s = (x, c)) (h0 : c ≠ 0) : (renew a q ch s0 win).2 = c := by
 unfold Rest at h
 rw [h, drop_get hj, renew_fail hc hp h0]
theorem rest_end {a : Nat} {q : Int} {ch s0 s : Int -> Bool} {win pre : List Int} (h : Rest a q ch s0 s win pre) (hj : pre.length = win.length) : renew a q ch s0 win = (pre, 0) := by
 unfold Rest at h
 rw [h, hj, List.drop_length, renew_nil]; simp
def mid (l0 : List Int) (o : Nat) (pre : List Int) : List Int := l0.take o ++ pre ++ l0.drop (o + pre.length)
theorem mid_zero (l0 : List Int) (o : Nat) : mid l0 o [] = l0 := by simp [mid]
theorem mid_len {l0 pre : List Int} {o : Nat} (h : o + pre.length <= l0.length) : (mid l0 o pre).length = l0.length := by
 simp only [mid, List.length_append, List.length_take, List.length_drop]; omega
theorem mid_at {l0 pre : List Int} {o : Nat} (h : o + pre.length < l0.length) : (mid l0 o pre)[o + pre.length]? = some (l0.getD (o + pre.length) 0) := by
 rw [mid, List.getElem?_append_right (by rw [List.length_append, List.length_take]; omega), List.length_append, List.length_take, List.getElem?_drop, show o + pre.length + (o + pre.length - (min o l0.length + pre.length)) = o + pre.length from by omega, List.getElem?_eq_getElem h, getD_at h]
theorem mid_set {l0 pre : List Int} {o : Nat} (x : Int) (h : o + pre.length < l0.length) : (mid l0 o pre).set (o + pre.length) x = mid l0 o (pre ++ [x]) := by
 have h1 : (l0.take o ++ pre).length = o + pre.length := by rw [List.length_append, List.length_take]; omega
 rw [mid, mid, List.set_append_right _ _ (by omega), h1, Nat.sub_self, List.drop_eq_getElem_cons h, List.set_cons_zero, List.length_append]
 simp [List.append_assoc]; rfl
theorem mid_skip {l0 pre : List Int} {o : Nat} (h : o + pre.length < l0.length) : mid l0 o pre = mid l0 o (pre ++ [l0.getD (o + pre.length) 0]) := by
 rw [<- mid_set _ h]
 refine (List.ext_getElem? fun j => ?_)
 rw [List.getElem?_set]
 split
 ·rename_i e
  subst e
  rw [mid_at h, if_pos (by rw [mid_len (by omega)]; exact h)]
 ·rfl
set_option maxRecDepth 100000 in
set_option maxHeartbeats 6400000 in
theorem renewH_impl (w : World) (a : Nat) (q : Int) (b N : Nat) (s0 : Int -> Bool) (g o len n c mc lo : Nat) (l0 : List Int) (av : Option Addr)
  (ha : a <= 1000) (hN : N <= 1073741824) (hlen : len <= 1000) (hfit : o + len <= n) (hav : 0 < len -> av = some ⟨g, o, none⟩) (hs : Is w b N s0) (hrow : w.ownsRow lo 3 1 (.slice (some ⟨g, 0, none⟩) n c) n (NiF.cells l0)) (hgb : g ≠ b) :
  Calls Tryz.prog 121 #[poolV a 14 q b, .slice av len mc, .func (.func 122) #[] #[]] w fun e w' => ∃ l' : List Int, e = .returned (.int .i64 (renew a q isHole s0 ((l0.drop o).take len)).2) /\ ((renew a q isHole s0 ((l0.drop o).take len)).2 = 0 -> l' = l0.take o ++ (renew a q isHole s0 ((l0.drop o).take len)).1 ++ l0.drop (o + len)) /\ w'.ownsRow lo 3 1 (.slice (some ⟨g, 0, none⟩) n c) n (NiF.cells l') /\ Chg w w' [g, b] := by
 have hF := fun (x : Int) (W : World) => CoN.hole_impl x W
 obtain ⟨ch, hch⟩ : ∃ ch, ch = isHole := ⟨_, rfl⟩
 rw [<- hch] at hF ⊢
 clear hch
 have hl0 : l0.length = n := by have := hrow.1; simpa [NiF.cells] using this
 obtain ⟨win, hwin⟩ : ∃ win, win = (l0.drop o).take len := ⟨_, rfl⟩
 have hwl : win.length = len := by rw [hwin, List.length_take, List.length_drop]; omega
 have hwat : ∀ j, j < len -> win.getD j 0 = l0.getD (o + j) 0 := fun j hj => by
  rw [getD_at (by omega), getD_at (by omega)]
  simp [hwin]
 rw [<- hwin]
 have HWL := Lib.hid hwl
 have HWA := Lib.hid hwat
 have HL0 := Lib.hid hl0
 have HF := Lib.hid hF
 have HAV := Lib.hid hav
 have HGB := Lib.hid hgb
 have HB0 := Lib.hid ((Below.refl w.heap.size w).alloc (Nat.le_refl _) (.cells #[.int .i64 a, .int .i64 14, .int .i64 q, .map (some b)] 140))
 have HX0 := Lib.hid (new w #[.int .i64 a, .int .i64 14, .int .i64 q, .map (some b)] 140)
 have HI0 := Lib.hid (hs.alloc (.cells #[.int .i64 a, .int .i64 14, .int .i64 q, .map (some b)] 140))
 have HR0 := Lib.hid (World.ownsRow.alloc hrow (.cells #[.int .i64 a, .int .i64 14, .int .i64 q, .map (some b)] 140))
 have hglt : g < w.heap.size := (hrow.lt g rfl).2
 have hblt : b < w.heap.size := hs.lt
 clear hwl hwat hwin hl0 hF hav hs hrow hgb
 go_enter Tryz.func121, Tryz.ntmps121
 go_wp2
 have HC0 := Lib.hid (FoB.chg_alloc w (.cells #[.int .i64 a, .int .i64 14, .int .i64 q, .map (some b)] 140) [g, b])
 generalize w.alloc (.cells #[.int .i64 a, .int .i64 14, .int .i64 q, .map (some b)] 140) = w0 at *
 go_loopw [13] (fun iv wr => ∃ (j M : Nat) (pre : List Int) (s : Int -> Bool), j <= len /\ iv = .int .i64 j /\ pre.length = j /\ M <= N + j /\ Is wr b M s /\ Rest a q ch s0 s win pre /\ wr.ownsRow lo 3 1 (.slice (some ⟨g, 0, none⟩) n c) n (NiF.cells (mid l0 o pre)) /\ Bk wr w.heap.size #[.int .i64 a, .int .i64 14, .int .i64 q, .map (some b)] 140 /\ Chg w wr [g, b]) (fun iv _ => len - (intOf iv).toNat)
 case atStart => exact ⟨0, N, [], s0, Nat.zero_le _, rfl, rfl, Nat.le_refl _, HI0.out, rest_zero _ _ _ _ _, by rw [mid_zero]; exact HR0.out, HX0.out, HC0.out⟩
 case round =>
  obtain ⟨j, M, pre, s, hj, rfl, hpl, hM, his, hrest, hrw, hx, hc⟩ := hrel
  have HI := Lib.hid his
  have HRE := Lib.hid hrest
  have HRW := Lib.hid hrw
  have HX := Lib.hid hx
  have HC := Lib.hid hc
  have HPL := Lib.hid hpl
  have hsz := hc.size
  clear his hrest hrw hx hc hpl HI0 HR0 HX0 HC0 HB0
  by_cases hlt : j < len
  ·obtain rfl := HAV.out (by omega)
   have hjl : o + pre.length < l0.length := by rw [HL0.out, HPL.out]; omega
   have cg : wr.cell? ⟨g, o + j, none⟩ = some (.int .i64 (win.getD j 0)) := by
    rw [HRW.out.cellAt (o + j) (by omega), NiF.cells, List.getElem?_map, HWA.out j hlt, <- HPL.out, mid_at hjl]; rfl
   have fg := HRW.out.frozenAt (o + j)
   have hpw : pre.length < win.length := by rw [HPL.out, HWL.out]; exact hlt
   have HSK := Lib.hid (fun hc => rest_skip HRE.out hpw hc)
   have HNW := Lib.hid (fun x hc hp => rest_new (x := x) HRE.out hpw hc hp)
   have HFL := Lib.hid (fun x cc hc hp h0 => rest_fail (x := x) (c := cc) HRE.out hpw hc hp h0)
   have HMS := Lib.hid (mid_skip hjl)
   have HME := Lib.hid (fun x => mid_set x hjl)
   rw [HPL.out, <- HWA.out j hlt] at HMS
   rw [HPL.out] at HSK HNW HFL HME
   clear hjl hpw
   generalize win.getD j 0 = e1 at cg HSK HNW HFL HMS
   go_wp2_with fail
   refine (HF.out e1 _).mono ?_
   rintro e w1 ⟨rfl, rfl⟩
   cases hce : ch e1
   ·have HN := Lib.hid (HSK.out hce)
    clear hce cg fg
    go_wp2
    go_roundw
    case rel => exact ⟨j + 1, M, pre ++ [e1], s, by omega, by go_num, by simp [HPL.out], by omega, HI.out, HN.out, by rw [<- HMS.out]; exact HRW.out, HX.out, HC.out⟩
    case measure => simp [intOf]; omega
   ·have HCE := Lib.hid hce
    clear hce cg
    obtain ⟨x0, x1, x2, x3⟩ := Bk.c4 HX.out
    have HNX := Lib.hid (FsC.next_any wr a 14 q b M s (fun k => s (k : Int)) ha (by omega) (fun k _ => by push_cast; rfl) HI.out)
    obtain ⟨⟨x, cc⟩, hp⟩ : ∃ p, pk a q s = p := ⟨_, rfl⟩
    rw [show pick (fun k => s (k : Int)) a 14 q = (x, cc) from hp] at HNX
    have HP := Lib.hid hp
    clear hp
    unfold pairV at HNX
    go_wp2_with fail
    refine HNX.out.mono ?_
    rintro e w2 ⟨rfl, hb⟩
    have HX2 := Lib.hid (HX.out.all hb)
    have HI2 := Lib.hid (HI.out.below hb)
    have HRW2 := Lib.hid (row_below HRW.out hb)
    have HC2 := Lib.hid (HC.out.trans (Foot.Chg.of_below hb (Nat.le_refl _) [g, b]))
    clear hb x0 x1 x2 x3 fg
    obtain ⟨x0, x1, x2, x3⟩ := Bk.c4 HX2.out
    by_cases h0 : cc = 0
    ·subst h0
     obtain ⟨k', hk', hxk, _⟩ := pick_ok (p := fun k => s (k : Int)) (a := a) (m := 14) (q := q) (by rw [show pick (fun k => s (k : Int)) a 14 q = (x, 0) from HP.out])
     rw [show pick (fun k => s (k : Int)) a 14 q = (x, 0) from HP.out] at hxk
     dsimp only at hxk
     obtain ⟨xn, rfl, hxn⟩ : ∃ xn : Nat, x = xn /\ xn <= 2000 := ⟨a + k', hxk, by omega⟩
     have HN := Lib.hid (HNW.out _ HCE.out HP.out)
     clear hxk
     go_wp2_with (at_mapUpdate; refine MpB.wpList_put _ rfl _ _ _ rfl b M s rfl HI2.out ?c1 (xn : Int) rfl rfl ?c2 ?_)
     case c1 => unfold maxLen; omega
     case c2 => unfold Rg; omega
     intro w5 his5 hg5
     have HI5 := Lib.hid his5
     have HX5 := Lib.hid (FoB.Bk.chg HX2.out (Foot.Chg.of_grown hg5) (by simp; omega))
     have HRW5 := Lib.hid (row_chg HRW2.out (Foot.Chg.of_grown hg5) (fun k hk hh => by
      have e1 : k = g := by simpa [fpR, Value.ownBlock] using hk
      have e2 : k = b := by simpa using hh
      exact HGB.out (by rw [<- e1, e2])))
     have HC5 := Lib.hid (HC2.out.trans ((Foot.Chg.of_grown hg5).more (fun k hk => by simp at hk; simp [hk])))
     have cg5 : ∃ u, w5.cell? ⟨g, o + j, none⟩ = some u := by
      rw [HRW5.out.cellAt (o + j) (by omega)]
      exact ⟨_, List.getElem?_eq_getElem (by have := HRW5.out.1; omega)⟩
     obtain ⟨u5, cg5⟩ := cg5
     have fg5 := HRW5.out.frozenAt (o + j)
     clear his5 hg5 x0 x1 x2 x3
     go_wp2
     have hst := (HRW5.out.stored (o + j) (.int .i64 xn)).1
     have hC9 := FoB.chg_set w5 ⟨g, o + j, none⟩ (.int .i64 (xn : Int))
     have hI9 := HI5.out.set (a := ⟨g, o + j, none⟩) (fun e => HGB.out e.symm) (.int .i64 (xn : Int))
     rw [show (NiF.cells (mid l0 o pre)).set (o + j) (.int .i64 (xn : Int)) = NiF.cells ((mid l0 o pre).set (o + j) xn) from by simp [NiF.cells, List.map_set], HME.out] at hst
     generalize w5.setCell ⟨g, o + j, none⟩ (.int .i64 (xn : Int)) = w9 at hst hC9 hI9 ⊢
     have HI9 := Lib.hid hI9
     have HST := Lib.hid hst
     have HX9 := Lib.hid (FoB.Bk.chg HX5.out hC9 (by simp; omega))
     have HC9 := Lib.hid (HC5.out.trans (hC9.more (fun k hk => by simp at hk; simp [hk])))
     clear hI9 hst hC9 cg5 fg5
     go_wp2
     go_roundw
     case rel => exact ⟨j + 1, M + 1, pre ++ [(xn : Int)], more s xn, by omega, by go_num, by simp [HPL.out], by omega, HI9.out, HN.out, HST.out, HX9.out, HC9.out⟩
     case measure => simp [intOf]; omega
    ·have HV := Lib.hid (HFL.out x cc HCE.out HP.out h0)
     have z1 : (cc != 0) = true := by simpa using h0
     have z2 : (cc == 0) = false := by simpa using h0
     have HZ := Lib.hid h0
     clear h0 x0 x1 x2 x3
     go_wp2
     go_ret
     exact ⟨mid l0 o pre, ret_int HV.out.symm, fun h => absurd (HV.out.symm.trans h) HZ.out, HRW2.out, HC2.out⟩
  ·obtain rfl : j = len := by omega
   have HE := Lib.hid (rest_end HRE.out (by rw [HPL.out, HWL.out]))
   go_wp2
   go_ret
   exact ⟨mid l0 o pre, ret_int (by rw [HE.out]), fun _ => by rw [HE.out, mid, HPL.out], HRW.out, HC.out⟩
end Go.Proofs.YthppbcnejapbiaaGreatDoor.CoR

-- YthppbcnejapbiaaGreatDoorPadToImpl
/- A part. -/
namespace Go.Proofs.YthppbcnejapbiaaGreatDoor.PadTo
open Go.ChangeShapes Go.WideShapes Go.ChangeAt Go.RowKit
open RowG
set_option linter.unusedVariables false
theorem rep_data (c : Nat) : (Lib.repeatL [0] c : List UInt8) = List.replicate c 0 := by
 induction c with
 | zero => rfl
 | succ c ih => simp [Lib.repeatL, ih, List.replicate_succ]
theorem pad_eq (s : ByteArray) (c : Nat) : s ++ (⟨(Lib.repeatL (ByteArray.mk #[0]).data.toList c).toArray⟩ : ByteArray) = ⟨(zend s c).toArray⟩ := by
 apply ByteArray.ext
 apply Array.toList_inj.1
 rw [ByteArray.data_append, Array.toList_append]
 have : (ByteArray.mk #[0]).data.toList = [0] := rfl
 rw [this, rep_data]
 simp [zend]
theorem repsize (c : Nat) (h : c <= 100000) : (⟨(Lib.repeatL (ByteArray.mk #[0]).data.toList c).toArray⟩ : ByteArray).size <= 100000 := by
 have : (ByteArray.mk #[0]).data.toList = [0] := rfl
 rw [this, rep_data]
 simpa [ByteArray.size] using h
set_option maxRecDepth 100000 in
set_option maxHeartbeats 400000 in
theorem impl_any (s : ByteArray) (n : Int) (w : World) (hs : s.size <= 1048576) (hlo : -9223372036854775808 <= n) :
  Calls Tryz.prog 124 #[.string s, .int .i64 n] w fun e w' => e = .returned (.string (padB s n)) /\ Below w.heap.size w w' := by
 have HLO := Lib.hid hlo
 clear hlo
 by_cases hn : 100000 < n
 ·rw [padB_big s n hn]
  go_enter Tryz.func124, Tryz.ntmps124
  go_wp2
  go_ret
  exact ⟨rfl, Below.refl _ _⟩
 ·by_cases hle : n <= s.size
  ·rw [padB_id s n hn hle]
   go_enter Tryz.func124, Tryz.ntmps124
   go_wp2
   go_ret
   exact ⟨rfl, Below.refl _ _⟩
  ·obtain ⟨c, hc⟩ : ∃ c : Nat, n = s.size + c := ⟨(n - s.size).toNat, by omega⟩
   have HP := Lib.hid (padB_at s n c hn (by omega))
   have HQ := Lib.hid (pad_eq s c)
   have hcs : c <= 100000 := by omega
   have HR := repsize c hcs
   subst hc
   have hone : (ByteArray.mk #[0]).size * c <= 140737488355328 := by
    have : (ByteArray.mk #[0]).size = 1 := rfl
    rw [this]; omega
   have hc0 : 0 < c := by omega
   have HO := Lib.hid hone
   clear hone
   go_enter Tryz.func124, Tryz.ntmps124
   go_wp2_with fail
   rw [show ((s.size : Int) + (c : Int) - (s.size : Int)) = c from by omega]
   refine (Tryz.strings_Repeat (ByteArray.mk #[0]) c w (by omega) HO.out).mono ?_
   rintro e w1 ⟨rfl, hb1⟩
   go_wp2
   go_ret
   exact ⟨ret_str (by rw [HP.out, <- HQ.out]), hb1⟩
end Go.Proofs.YthppbcnejapbiaaGreatDoor.PadTo

-- YthppbcnejapbiaaGreatDoorCoI
/- A part. -/
namespace Go.Proofs.YthppbcnejapbiaaGreatDoor.CoI
open Go.ChangeShapes Go.WideShapes Go.ChangeAt Go.RowKit
open Foot Bx
open InoV (I usedV)
open FsV (F okF e0 z32)
open FsY FsZ FoB CoN
open RowG (cellsB cellsB_length)
set_option linter.unusedVariables false
def Base (w : World) (lo : Nat) (n : I) (a0 : Option Addr) (d0 : Nat) (a1 : Option Addr) (d1 : Nat) (a2 : Option Addr) (d2 : Nat) (f : F) (q : Value) (gi ci gd cd : Nat) (S : List Nat) (W : World) : Prop :=
 FO W lo w.heap.size f q gi ci gd cd S /\ Bk W (w.heap.size + 1) #[.int .i64 n.kind, .int .i64 n.mode, .int .i64 n.uid, .int .i64 n.gid, .int .i64 n.links, .int .i64 n.size, .int .i64 n.tick, .slice a0 n.blocks.length d0, .slice a1 n.acl.length d1, .slice a2 n.dflt.length d2] 89 /\ Bk W (w.heap.size + 1 + 1) #[.int .i64 0, .slice none 0 0, .slice none 0 0, .slice none 0 0] 33 /\ w.heap.size + 1 ∉ S /\ w.heap.size + 1 + 1 ∉ S /\ w.heap.size < gd /\ w.heap.size < gi /\ Below w.heap.size w W
section
variable {w W W' : World} {lo : Nat} {n : I} {a0 a1 a2 : Option Addr} {d0 d1 d2 : Nat} {f : F} {q : Value} {gi ci gd cd : Nat} {S : List Nat}
theorem base_below (h : Base w lo n a0 d0 a1 d1 a2 d2 f q gi ci gd cd S W) (hb : Below W.heap.size W W') : Base w lo n a0 d0 a1 d1 a2 d2 f q gi ci gd cd S W' := by
 obtain ⟨h1, h2, h3, h4, h5, h6, h7, h8⟩ := h
 exact ⟨h1.below hb, h2.all hb, h3.all hb, h4, h5, h6, h7, h8.trans (hb.mono h8.size)⟩
theorem base_setD (h : Base w lo n a0 d0 a1 d1 a2 d2 f q gi ci gd cd S W) {j : Nat} (hj : j < 56) (s : ByteArray) : Base w lo n a0 d0 a1 d1 a2 d2 { f with data := f.data.set j s } q gi ci gd cd S (W.setCell ⟨gd, j, none⟩ (.string s)) := by
 obtain ⟨h1, h2, h3, h4, h5, h6, h7, h8⟩ := h
 have hc := chg_set W ⟨gd, j, none⟩ (.string s)
 have hg := h1.gd_mem
 exact ⟨h1.setD hj s, FoB.Bk.chg h2 hc (fun e => h4 (by simp at e; rw [e]; exact hg)), FoB.Bk.chg h3 hc (fun e => h5 (by simp at e; rw [e]; exact hg)), h4, h5, h6, h7, h8.trans (FoB.Chg.from hc h8.size (by show w.heap.size <= gd; omega))⟩
end
set_option maxRecDepth 100000 in
set_option maxHeartbeats 12800000 in
theorem with_impl (w : World) (lo : Nat) (v vn cv : Value) (f : F) (i : Nat) (n : I) (c : List UInt8) (g : Nat) (T : List Nat) (hg : GoodF f i) (hlo : lo <= w.heap.size) (hc : FsF.cost f <= 1073741824) (hl : FsF.Lim f)
  (hin : Inr n.blocks) (h8 : n.blocks.length <= 8) (hcv : 0 < n.blocks.length -> cv = .slice (some ⟨g, 0, none⟩) 256 256 /\ c.length = 256 /\ Bk w g (cellsB c).toArray 5) (hcs : ∃ ca cl cc, cv = .slice ca cl cc) (h : FsF.Holds w v f) (hn : In.Own w lo vn n T) :
  Calls Tryz.prog 123 #[v, .int .i64 i, vn, cv] w fun e w' => ∃ v' S, e = .returned v' /\ FsF.Own w' lo v' (withV f i n c) S /\ (∀ k ∈ S, k ∈ T \/ w.heap.size <= k) /\ Below w.heap.size w w' := by
 have HFS := Lib.hid h
 have HCC := Lib.hid hc
 have HLM := Lib.hid hl
 have HG := Lib.hid hg
 have HN := Lib.hid hn
 have HIR := Lib.hid hin
 have HCV := Lib.hid hcv
 have hi20 := hg.lt
 obtain ⟨r0, r1, r2, rfl, g0, g1, g2⟩ := h
 have hM20 : f.inodes.length = 20 := (FsV.parts_of (FsV.ok_parts hg.ok).2.1).2.1
 have hD56 : f.data.length = 56 := hg.dlen
 have HM20 := Lib.hid hM20
 have HD56 := Lib.hid hD56
 obtain ⟨qa, qc, rfl⟩ := QF.form g0
 obtain ⟨ia, ic, rfl⟩ := IF.form g1
 obtain ⟨da, dc, rfl⟩ := SF.form g2
 obtain ⟨t0, t1, t2, T0, T1, T2, rfl, hTT, hTn, o0, o1, o2⟩ := hn
 obtain ⟨a0, d0, rfl⟩ := NiF.own_form o0
 obtain ⟨a1, d1, rfl⟩ := AeF.own_form o1
 obtain ⟨a2, d2, rfl⟩ := AeF.own_form o2
 obtain ⟨ab, db, eb, _, hBL⟩ := NiF.own_holds o0
 rw [Value.slice.injEq] at eb
 obtain ⟨rfl, eb2, rfl⟩ := eb
 have HBL := Lib.hid hBL
 have hTlt : ∀ k ∈ T, k < w.heap.size := fun k hk => (In.own_lies HN.out k hk).2
 have HTL := Lib.hid hTlt
 rw [hM20, hD56] at HFS ⊢
 obtain ⟨TK, hT⟩ : ∃ T, T = f.tick := ⟨_, rfl⟩
 obtain ⟨Q, hQ⟩ : ∃ Q, Q = f.quotas.length := ⟨_, rfl⟩
 rw [<- hT, <- hQ] at HFS ⊢
 clear hT hQ g0 g1 g2 hM20 hD56 hTT hTn o0 o1 o2 eb2 hBL hTlt hg hc hl hin hcv
 obtain ⟨L, hL⟩ : ∃ L, L = n.blocks.length := ⟨_, rfl⟩
 rw [<- hL] at HBL h8
 have HL := Lib.hid hL
 clear hL
 have HB0 := Lib.hid ((((Below.refl w.heap.size w).alloc (Nat.le_refl _) (.cells #[.int .i64 TK, .slice qa Q qc, .slice ia 20 ic, .slice da 56 dc] 33)).alloc (by simp) (.cells #[.int .i64 n.kind, .int .i64 n.mode, .int .i64 n.uid, .int .i64 n.gid, .int .i64 n.links, .int .i64 n.size, .int .i64 n.tick, .slice a0 n.blocks.length d0, .slice a1 n.acl.length d1, .slice a2 n.dflt.length d2] 89)).alloc (by simp; omega) (.cells #[.int .i64 0, .slice none 0 0, .slice none 0 0, .slice none 0 0] 33))
 have HX0 := Lib.hid (((new w #[.int .i64 TK, .slice qa Q qc, .slice ia 20 ic, .slice da 56 dc] 33).alloc (.cells #[.int .i64 n.kind, .int .i64 n.mode, .int .i64 n.uid, .int .i64 n.gid, .int .i64 n.links, .int .i64 n.size, .int .i64 n.tick, .slice a0 n.blocks.length d0, .slice a1 n.acl.length d1, .slice a2 n.dflt.length d2] 89)).alloc (.cells #[.int .i64 0, .slice none 0 0, .slice none 0 0, .slice none 0 0] 33))
 have HY0 := Lib.hid ((new_at (w.alloc (.cells #[.int .i64 TK, .slice qa Q qc, .slice ia 20 ic, .slice da 56 dc] 33)) #[.int .i64 n.kind, .int .i64 n.mode, .int .i64 n.uid, .int .i64 n.gid, .int .i64 n.links, .int .i64 n.size, .int .i64 n.tick, .slice a0 n.blocks.length d0, .slice a1 n.acl.length d1, .slice a2 n.dflt.length d2] 89 (w.heap.size + 1) (by simp)).alloc (.cells #[.int .i64 0, .slice none 0 0, .slice none 0 0, .slice none 0 0] 33))
 have HR0 := Lib.hid (new_at ((w.alloc (.cells #[.int .i64 TK, .slice qa Q qc, .slice ia 20 ic, .slice da 56 dc] 33)).alloc (.cells #[.int .i64 n.kind, .int .i64 n.mode, .int .i64 n.uid, .int .i64 n.gid, .int .i64 n.links, .int .i64 n.size, .int .i64 n.tick, .slice a0 n.blocks.length d0, .slice a1 n.acl.length d1, .slice a2 n.dflt.length d2] 89)) #[.int .i64 0, .slice none 0 0, .slice none 0 0, .slice none 0 0] 33 (w.heap.size + 1 + 1) (by simp))
 have hs0 : w.heap.size + 1 + 1 + 1 <= (((w.alloc (.cells #[.int .i64 TK, .slice qa Q qc, .slice ia 20 ic, .slice da 56 dc] 33)).alloc (.cells #[.int .i64 n.kind, .int .i64 n.mode, .int .i64 n.uid, .int .i64 n.gid, .int .i64 n.links, .int .i64 n.size, .int .i64 n.tick, .slice a0 n.blocks.length d0, .slice a1 n.acl.length d1, .slice a2 n.dflt.length d2] 89)).alloc (.cells #[.int .i64 0, .slice none 0 0, .slice none 0 0, .slice none 0 0] 33)).heap.size := by simp
 have HCP := Lib.hid (fun (W : World) (hb : Below w.heap.size w W) => CpG.copy_impl W _ f HCC.out HLM.out (FsF.holds_below HFS.out hb))
 obtain ⟨ca, cl, cc, hcs2⟩ := hcs
 have HCS := Lib.hid hcs2
 rw [hcs2]
 clear hcs2
 go_enter Tryz.func123, Tryz.ntmps123
 go_wp2_with fail
 generalize (((w.alloc (.cells #[.int .i64 TK, .slice qa Q qc, .slice ia 20 ic, .slice da 56 dc] 33)).alloc (.cells #[.int .i64 n.kind, .int .i64 n.mode, .int .i64 n.uid, .int .i64 n.gid, .int .i64 n.links, .int .i64 n.size, .int .i64 n.tick, .slice a0 n.blocks.length d0, .slice a1 n.acl.length d1, .slice a2 n.dflt.length d2] 89)).alloc (.cells #[.int .i64 0, .slice none 0 0, .slice none 0 0, .slice none 0 0] 33)) = w0 at *
 refine (HCP.out _ HB0.out).mono ?_
 rintro e w1 ⟨y, S, rfl, hown, hb⟩
 obtain ⟨qa', ql', qc', gi, ci, gd, cd, rfl, rfl⟩ := own_open hown HM20.out HD56.out
 have HX1 := Lib.hid (HX0.out.all hb)
 have HY1 := Lib.hid (HY0.out.all hb)
 have HR1 := Lib.hid (HR0.out.all hb)
 have HB1 := Lib.hid (HB0.out.trans (hb.mono HB0.out.size))
 have HSL := Lib.hid (show ∀ k ∈ S, w.heap.size + 1 + 1 + 1 <= k from fun k hk => Nat.le_trans hs0 (FsF.own_lies hown k hk).1)
 have HOW := Lib.hid (FsF.own_mono hown (Nat.le_trans hlo (show w.heap.size <= w0.heap.size by omega)))
 clear hb hown
 obtain ⟨x0, x1, x2, x3⟩ := Bk.c4 HX1.out
 have f0 := HX1.out.free 0
 have f1 := HX1.out.free 1
 have f2 := HX1.out.free 2
 have f3 := HX1.out.free 3
 have hbx := FoB.box4_bk HX1.out (.int .i64 f.tick) (.slice qa' f.quotas.length qc') (.slice (some ⟨gi, 0, none⟩) 20 ci) (.slice (some ⟨gd, 0, none⟩) 56 cd)
 have hbc := FoB.box4_chg w1 w.heap.size (.int .i64 f.tick) (.slice qa' f.quotas.length qc') (.slice (some ⟨gi, 0, none⟩) 20 ci) (.slice (some ⟨gd, 0, none⟩) 56 cd)
 have HB3 := Lib.hid (show Base w lo n a0 d0 a1 d1 a2 d2 f (.slice qa' f.quotas.length qc') gi ci gd cd S (FoB.box4 w1 w.heap.size (.int .i64 f.tick) (.slice qa' f.quotas.length qc') (.slice (some ⟨gi, 0, none⟩) 20 ci) (.slice (some ⟨gd, 0, none⟩) 56 cd)) from by
  have hnS : ∀ k, k <= w.heap.size + 1 + 1 -> k ∉ S := fun k hk hh => by have := HSL.out k hh; omega
  have hfo : FO (FoB.box4 w1 w.heap.size (.int .i64 f.tick) (.slice qa' f.quotas.length qc') (.slice (some ⟨gi, 0, none⟩) 20 ci) (.slice (some ⟨gd, 0, none⟩) 56 cd)) lo w.heap.size f (.slice qa' f.quotas.length qc') gi ci gd cd S := ⟨hbx, hnS _ (by omega), FsF.own_chg HOW.out hbc (fun k hk hh => by rw [List.mem_singleton] at hh; subst hh; exact hnS _ (by omega) hk), HM20.out, HD56.out⟩
  exact ⟨hfo, FoB.Bk.chg HY1.out hbc (by simp), FoB.Bk.chg HR1.out hbc (by simp; omega), hnS _ (by omega), hnS _ (by omega), by have := HSL.out gd hfo.gd_mem; omega, by have := HSL.out gi hfo.gi_mem; omega, HB1.out.trans (FoB.Chg.from hbc HB1.out.size (Nat.le_refl _))⟩)
 have HBC := Lib.hid hbc
 clear hbx hbc
 unfold FoB.box4 at HB3 HBC
 have hfo1 : FO w1 lo w.heap.size f (.slice qa' f.quotas.length qc') gi ci gd cd S -> True := fun _ => trivial
 obtain ⟨rr0, rr1, rr2, hCl, hPt⟩ : ∃ r0 r1 r2 : Value, IF.Cell w1 gi (i * 10) (ino f i) r0 r1 r2 /\ IF.Parts w1 (ino f i) r0 r1 r2 := by
  obtain ⟨u0, u1, u2, e, h0, h1, h2⟩ := FsF.own_holds HOW.out
  simp only [Value.agg.injEq, Array.mk.injEq, List.cons.injEq, true_and, and_true] at e
  obtain ⟨rfl, rfl, rfl⟩ := e
  obtain ⟨a', cap', e', _, hat⟩ := h1
  obtain ⟨b', o', ea, _, r0, r1, r2, hC, hP⟩ := hat i (by rw [HM20.out]; exact hi20)
  simp only [Value.slice.injEq] at e'
  obtain ⟨rfl, _, _⟩ := e'
  simp only [Option.some.injEq, Addr.mk.injEq, and_true] at ea
  obtain ⟨rfl, rfl⟩ := ea
  rw [Nat.zero_add] at hC
  exact ⟨r0, r1, r2, hC, hP⟩
 obtain ⟨p0, p1, p2⟩ := id hPt
 obtain ⟨ya0, yd0, rfl⟩ := NiF.form p0
 obtain ⟨ya1, yd1, rfl⟩ := AeF.form p1
 obtain ⟨ya2, yd2, rfl⟩ := AeF.form p2
 have HPT := Lib.hid (IF.parts_holds hPt)
 obtain ⟨m0, m1, m2, m3, m4, m5, m6, m7, m8, m9⟩ := hCl
 have hgx : ¬ gi = w.heap.size := by have := HB3.out.2.2.2.2.2.2.1; omega
 have hgy : ¬ w.heap.size = gi := fun e => hgx e.symm
 have hi0 : (0 : Int) <= i := by omega
 have hi1 : (i : Int) < 20 := by omega
 clear p0 p1 p2 hPt hfo1
 have HP3 := Lib.hid (show In.Holds ((((w1.setCell ⟨w.heap.size, 0, none⟩ (.int .i64 f.tick)).setCell ⟨w.heap.size, 1, none⟩ (.slice qa' f.quotas.length qc')).setCell ⟨w.heap.size, 2, none⟩ (.slice (some ⟨gi, 0, none⟩) 20 ci)).setCell ⟨w.heap.size, 3, none⟩ (.slice (some ⟨gd, 0, none⟩) 56 cd)) (.agg #[.int .i64 (ino f i).kind, .int .i64 (ino f i).mode, .int .i64 (ino f i).uid, .int .i64 (ino f i).gid, .int .i64 (ino f i).links, .int .i64 (ino f i).size, .int .i64 (ino f i).tick, .slice ya0 (ino f i).blocks.length yd0, .slice ya1 (ino f i).acl.length yd1, .slice ya2 (ino f i).dflt.length yd2]) (ino f i) from by
  obtain ⟨s0, s1, s2, hC3, hP3⟩ := HB3.out.1.icell hi20
  have hlt := HB3.out.1.gi_lt
  have hgl : gi < w1.heap.size := by have h1 := hlt.2; simpa using h1
  have q7 := hC3.2.2.2.2.2.2.2.1
  have q8 := hC3.2.2.2.2.2.2.2.2.1
  have q9 := hC3.2.2.2.2.2.2.2.2.2
  rw [HBC.out.cell (p := ⟨gi, i * 10 + 7, none⟩) hgl (by simp; exact hgx), m7] at q7
  rw [HBC.out.cell (p := ⟨gi, i * 10 + 8, none⟩) hgl (by simp; exact hgx), m8] at q8
  rw [HBC.out.cell (p := ⟨gi, i * 10 + 9, none⟩) hgl (by simp; exact hgx), m9] at q9
  cases q7; cases q8; cases q9
  exact IF.parts_holds hP3)
 go_wp2_with fail
 clear m0 m1 m2 m3 m4 m5 m6 m7 m8 m9 x0 x1 x2 x3 f0 f1 f2 f3 hgx hgy HBC
 generalize ((((w1.setCell ⟨w.heap.size, 0, none⟩ (.int .i64 f.tick)).setCell ⟨w.heap.size, 1, none⟩ (.slice qa' f.quotas.length qc')).setCell ⟨w.heap.size, 2, none⟩ (.slice (some ⟨gi, 0, none⟩) 20 ci)).setCell ⟨w.heap.size, 3, none⟩ (.slice (some ⟨gd, 0, none⟩) 56 cd)) = w2 at HB3 HP3 ⊢
 refine (InEq.used_impl _ _ (ino f i) (by have := HG.out.size.2.2.2; omega) HP3.out).mono ?_
 rintro e w3 ⟨yu, SU, rfl, hown, hb⟩
 obtain ⟨ua, uc, rfl⟩ := NiF.own_form hown
 obtain ⟨ab', db', eb', _, hUC⟩ := NiF.own_holds hown
 rw [Value.slice.injEq] at eb'
 obtain ⟨rfl, eb3, rfl⟩ := eb'
 have HUN := Lib.hid (show ∀ k, (fpR (.slice ua (usedV (ino f i).blocks).length uc)).contains k = true -> True from fun _ _ => trivial)
 obtain ⟨U, hU⟩ : ∃ U, U = usedV (ino f i).blocks := ⟨_, rfl⟩
 rw [<- hU] at hUC hown ⊢
 obtain ⟨UL, hUL⟩ : ∃ UL, UL = U.length := ⟨_, rfl⟩
 have hUL8 : UL <= 8 := by rw [hUL, hU]; exact Nat.le_trans (InEq.used_len _) HG.out.size.2.2.2
 rw [<- hUL] at hUC hown ⊢
 have HUB := Lib.hid (show ∀ b ∈ U, 0 <= b /\ b <= 55 from fun b hb' => (FsV.own_facts HG.out.ok).2 b (HG.out.used (by rw [<- hU]; exact hb')))
 have HUO := Lib.hid hown
 have HU := Lib.hid hU
 have HULL := Lib.hid hUL
 have HUS := Lib.hid (NiF.own_lies hown)
 have HB4 := Lib.hid (base_below HB3.out hb)
 have HW2 := Lib.hid (HB3.out.1.lies)
 have hgw2 : gd < w2.heap.size := HB3.out.1.gd_lt.2
 have HGW := Lib.hid hgw2
 clear hb hown hUC hU hUL eb3 HUN HB3 HP3 HPT hgw2
 obtain ⟨Q0, hQ0⟩ : ∃ Q0, Q0 = Value.slice qa' f.quotas.length qc' := ⟨_, rfl⟩
 rw [<- hQ0] at HB4
 have HQ0 := Lib.hid hQ0
 clear hQ0
 go_wp2
 go_loopw [22] (fun jv wr => ∃ (j : Nat) (d : List ByteArray), j <= UL /\ jv = .int .i64 j /\ zeroD d (U.drop j) = zeroD f.data U /\ NiF.Own wr w2.heap.size (.slice ua UL uc) U SU /\ Base w lo n a0 d0 a1 d1 a2 d2 { f with data := d } Q0 gi ci gd cd S wr) (fun jv _ => UL - (intOf jv).toNat)
 case atStart => exact ⟨0, f.data, Nat.zero_le _, rfl, rfl, HUO.out, HB4.out⟩
 case round =>
  obtain ⟨j, d, hj, rfl, hzd, hown, hbase⟩ := hrel
  have HZD := Lib.hid hzd
  have HOWU := Lib.hid hown
  have HBA := Lib.hid hbase
  obtain ⟨b1, b2, b3, _, _, _, _, b8⟩ := hbase
  have HBW := Lib.hid b8
  obtain ⟨x0, x1, x2, x3⟩ := b1.cells
  clear hzd b3 b8 HB4 HUO
  by_cases hlt : j < UL
  ·have hjl : j < U.length := by rw [<- HULL.out]; exact hlt
   obtain ⟨av, cv', ev, _, hat⟩ := NiF.own_holds hown
   rw [Value.slice.injEq] at ev
   obtain ⟨rfl, ev9, rfl⟩ := ev
   obtain ⟨bb, ob, rfl, hbb, cb⟩ := hat j hjl
   clear ev9
   have hub := HUB.out _ (FsV.mem_getD (z := 0) hjl)
   have HDG := Lib.hid (CoR.drop_get hjl)
   clear hown hat b1 b2 hbb
   generalize U.getD j 0 = b at cb hub HDG
   obtain ⟨k, rfl⟩ : ∃ k : Nat, b = k := ⟨b.toNat, by omega⟩
   have hk : k < 56 := by omega
   have hk0 : (0 : Int) <= k := by omega
   have hk1 : (k : Int) < 56 := by omega
   go_wp2
   go_region_law (go_simp; go_at_call 124; ((with_reducible refine (PadTo.impl_any ⟨#[]⟩ 32 _ (by decide) (by decide)).mono ?_)); rintro e w5 ⟨rfl, hb⟩; rw [show PadTo.padB ⟨#[]⟩ 32 = z32 from rfl]; have HBB := Lib.hid (base_below HBA.out ((Below.refl wr.heap.size wr).drew.trans hb)); have HOB := Lib.hid (NiF.own_below HOWU.out ((Below.refl wr.heap.size wr).drew.trans hb)); clear hb; obtain ⟨x0, x1, x2, x3⟩ := HBB.out.1.cells; obtain ⟨cd5, fd5⟩ := HBB.out.1.dcell hk)
   all_goals
    have hBD := base_setD HBB.out hk z32
    have hgd := HBB.out.1.gd_mem
    have hOB := NiF.own_chg HOB.out (chg_set w5 ⟨gd, k, none⟩ (.string z32)) (fun x hx hh => by have h1 := (HUS.out x hx).1; have h2 := HGW.out; simp at hh; omega)
    generalize w5.setCell ⟨gd, k, none⟩ (.string z32) = w9 at hBD hOB ⊢
    have HBD := Lib.hid hBD
    have HOD := Lib.hid hOB
    have HZN := Lib.hid (show zeroD (d.set k z32) (U.drop (j + 1)) = zeroD f.data U from by rw [<- HZD.out, HDG.out, zeroD_cons]; rfl)
    clear hBD hOB hgd cd5 fd5 cb x0 x1 x2 x3
    go_wp2
    go_roundw
    case rel => exact ⟨j + 1, _, by omega, by go_num, HZN.out, HOD.out, HBD.out⟩
    case measure => simp [intOf]; omega
  ·obtain rfl : j = UL := by omega
   have HDE := Lib.hid (show d = zeroD f.data U from by
    have h1 := HZD.out
    rw [HULL.out, List.drop_length] at h1; exact h1)
   clear hown b1 b2 x0 x1 x2 x3
   have hln : ∀ x ∈ S, w.heap.size + 1 + 1 + 1 <= x := HSL.out
   obtain ⟨b1, b2, b3, b4, b5, b6, b7, b8⟩ := HBA.out
   have hown2 := In.own_below HN.out HBW.out
   obtain ⟨S2, hFO2, hsub⟩ := b1.setI hi20 hown2 (fun x hx hh => by have h1 := HTL.out x hx; have h2 := hln x hh; omega) (fun hh => by have := HTL.out _ hh; omega)
   have hgi := b1.gi_lt
   have hgiS := b1.gi_mem
   have hC7 := row10_chg wr gi i (.int .i64 n.kind) (.int .i64 n.mode) (.int .i64 n.uid) (.int .i64 n.gid) (.int .i64 n.links) (.int .i64 n.size) (.int .i64 n.tick) (.slice a0 n.blocks.length d0) (.slice a1 n.acl.length d1) (.slice a2 n.dflt.length d2)
   have hS2 : ∀ k, w.heap.size <= k -> k ∉ S -> k ∉ S2 := fun k hk hn hh => (hsub k hh).elim hn (fun ht => by have := HTL.out k ht; omega)
   have HBN := Lib.hid (show Base w lo n a0 d0 a1 d1 a2 d2 { f with inodes := f.inodes.set i n, data := zeroD f.data U } Q0 gi ci gd cd S2 (row10 wr gi i (.int .i64 n.kind) (.int .i64 n.mode) (.int .i64 n.uid) (.int .i64 n.gid) (.int .i64 n.links) (.int .i64 n.size) (.int .i64 n.tick) (.slice a0 n.blocks.length d0) (.slice a1 n.acl.length d1) (.slice a2 n.dflt.length d2)) from by
    rw [<- HDE.out]
    exact ⟨hFO2, FoB.Bk.chg b2 hC7 (fun e => b4 (by simp at e; rw [e]; exact hgiS)), FoB.Bk.chg b3 hC7 (fun e => b5 (by simp at e; rw [e]; exact hgiS)), hS2 _ (by omega) b4, hS2 _ (by omega) b5, b6, b7, b8.trans (FoB.Chg.from hC7 b8.size (by omega))⟩)
   unfold row10 at HBN
   obtain ⟨x0, x1, x2, x3⟩ := b1.cells
   obtain ⟨y0, y1, y2, y3, y4, y5, y6, y7, y8, y9⟩ := Bk.c10 b2
   obtain ⟨r0, r1, r2, hC, hP⟩ := b1.icell hi20
   obtain ⟨m0, m1, m2, m3, m4, m5, m6, m7, m8, m9⟩ := hC
   have q0 := HBA.out.1.ifree (i * 10)
   have q1 := HBA.out.1.ifree (i * 10 + 1)
   have q2 := HBA.out.1.ifree (i * 10 + 2)
   have q3 := HBA.out.1.ifree (i * 10 + 3)
   have q4 := HBA.out.1.ifree (i * 10 + 4)
   have q5 := HBA.out.1.ifree (i * 10 + 5)
   have q6 := HBA.out.1.ifree (i * 10 + 6)
   have q7 := HBA.out.1.ifree (i * 10 + 7)
   have q8 := HBA.out.1.ifree (i * 10 + 8)
   have q9 := HBA.out.1.ifree (i * 10 + 9)
   have hgy1 : ¬ gi = w.heap.size + 1 := fun e => b4 (by rw [<- e]; exact hgiS)
   have hgy0 : ¬ w.heap.size + 1 = gi := fun e => hgy1 e.symm
   have hgz1 : ¬ gi = w.heap.size := by omega
   have hgz0 : ¬ w.heap.size = gi := by omega
   have HSUB := Lib.hid (show ∀ k ∈ S2, k ∈ T \/ w.heap.size <= k from fun k hk => (hsub k hk).elim (fun hh => .inr (by have := hln k hh; omega)) .inl)
   clear b1 b2 b3 b4 b5 b6 b7 b8 hown2 hFO2 hsub hgi hgiS hC7 hS2 hP hln
   go_wp2_with fail
   clear x0 x1 x2 x3 y0 y1 y2 y3 y4 y5 y6 y7 y8 y9 m0 m1 m2 m3 m4 m5 m6 m7 m8 m9 q0 q1 q2 q3 q4 q5 q6 q7 q8 q9 hgy1 hgy0 hgz1 hgz0 HBA HZD HOWU
   generalize ((((((((((wr.setCell ⟨gi, i * 10, none⟩ (.int .i64 n.kind)).setCell ⟨gi, i * 10 + 1, none⟩ (.int .i64 n.mode)).setCell ⟨gi, i * 10 + 2, none⟩ (.int .i64 n.uid)).setCell ⟨gi, i * 10 + 3, none⟩ (.int .i64 n.gid)).setCell ⟨gi, i * 10 + 4, none⟩ (.int .i64 n.links)).setCell ⟨gi, i * 10 + 5, none⟩ (.int .i64 n.size)).setCell ⟨gi, i * 10 + 6, none⟩ (.int .i64 n.tick)).setCell ⟨gi, i * 10 + 7, none⟩ (.slice a0 n.blocks.length d0)).setCell ⟨gi, i * 10 + 8, none⟩ (.slice a1 n.acl.length d1)).setCell ⟨gi, i * 10 + 9, none⟩ (.slice a2 n.dflt.length d2)) = w4 at HBN ⊢
   obtain ⟨DF, hDF⟩ : ∃ DF, DF = putD c 0 n.blocks (zeroD f.data U) := ⟨_, rfl⟩
   have HDF := Lib.hid hDF
   clear hDF
   have hL8 : n.blocks.length <= 8 := by rw [<- HL.out]; exact h8
   obtain ⟨NB, hNB⟩ : ∃ NB, NB = n.blocks.length := ⟨_, rfl⟩
   rw [<- hNB] at hL8 ⊢
   have HNB := Lib.hid hNB
   clear hNB
   go_loopw [40] (fun jv wr => ∃ (j : Nat) (d : List ByteArray), j <= NB /\ jv = .int .i64 j /\ putD c j (n.blocks.drop j) d = DF /\ Base w lo n a0 d0 a1 d1 a2 d2 { f with inodes := f.inodes.set i n, data := d } Q0 gi ci gd cd S2 wr) (fun jv _ => NB - (intOf jv).toNat)
   case atStart => exact ⟨0, _, Nat.zero_le _, rfl, HDF.out.symm, HBN.out⟩
   case round =>
    obtain ⟨j, d, hj, rfl, hpd, hbase⟩ := hrel
    have HPD := Lib.hid hpd
    have HBA := Lib.hid hbase
    obtain ⟨b1, b2, b3, _, _, _, _, b8⟩ := hbase
    have HBW := Lib.hid b8
    obtain ⟨x0, x1, x2, x3⟩ := b1.cells
    clear hpd HBN
    by_cases hlt : j < NB
    ·have hjl : j < n.blocks.length := by rw [<- HNB.out]; exact hlt
     have hj8 : j < 8 := by omega
     obtain ⟨bb, ob, rfl, hbb, cb⟩ := HBL.out j (by rw [HL.out]; exact hjl)
     have cb2 := HBW.out.cell (p := ⟨bb, ob + j, none⟩) hbb
     rw [cb] at cb2
     have hir := HIR.out _ (FsV.mem_getD (z := 0) hjl)
     have HDG := Lib.hid (CoR.drop_get hjl)
     obtain ⟨ecv, hc256, hbk⟩ := HCV.out (by omega)
     rw [HCS.out, Value.slice.injEq] at ecv
     obtain ⟨rfl, rfl, rfl⟩ := ecv
     have hglt : g < w.heap.size := hbk.lt
     have HBK := Lib.hid (hbk.below HBW.out hglt)
     have HC256 := Lib.hid hc256
     clear cb hbb b1 b2 b3 b8 hc256 hbk
     generalize n.blocks.getD j 0 = b at cb2 hir HDG
     by_cases hm : b = -1
     ·subst hm
      have HN2 := Lib.hid (show putD c (j + 1) (n.blocks.drop (j + 1)) d = DF from by rw [<- HPD.out, HDG.out, putD, if_pos rfl])
      clear x0 x1 x2 x3
      go_wp2_with fail
      refine (block_impl (-1) _).mono ?_
      rintro e w1 ⟨rfl, rfl⟩
      rw [show isBlock (-1) = false from rfl]
      clear cb2
      go_wp2
      go_roundw
      case rel => exact ⟨j + 1, d, by omega, by go_num, HN2.out, HBA.out⟩
      case measure => simp [intOf]; omega
     ·obtain ⟨k, rfl⟩ : ∃ k : Nat, b = k := ⟨b.toNat, by omega⟩
      have hk : k < 56 := by omega
      have hk0 : (0 : Int) <= k := by omega
      have hk1 : (k : Int) < 56 := by omega
      have HN2 := Lib.hid (show putD c (j + 1) (n.blocks.drop (j + 1)) (d.set k (blkAt c j)) = DF from by rw [<- HPD.out, HDG.out, putD, if_neg hm]; rfl)
      have HIB := Lib.hid (show isBlock ((k : Nat) : Int) = true by unfold isBlock; simp)
      obtain ⟨cdk, fdk⟩ := HBA.out.1.dcell hk
      clear hm hir HDG
      go_wp2_with fail
      refine (block_impl ((k : Nat) : Int) _).mono ?_
      rintro e w1 ⟨rfl, rfl⟩
      rw [HIB.out]
      clear cb2
      have hcv1 := back_run (a := j * 32) (n := 32) (cap := 32) (Bk.drew HBK.out) (by rw [HC256.out]; omega)
      rw [show (⟨((c.drop (j * 32)).take 32).toArray⟩ : ByteArray) = blkAt c j from by rw [blkAt, Nat.mul_comm]] at hcv1
      go_wp2
      go_region_law (go_simp; go_at_call 145; ((with_reducible refine (blockIn_impl g j hj8 _).mono ?_)); rintro e w5 ⟨rfl, rfl⟩)
      all_goals
       have hBD := base_below (base_setD HBA.out hk (blkAt c j)) (Below.refl _ _).drew
       generalize (wr.setCell ⟨gd, k, none⟩ (.string (blkAt c j))).drew = w9 at hBD ⊢
       have HBD := Lib.hid hBD
       clear hBD hcv1 cdk fdk x0 x1 x2 x3
       go_wp2
       go_roundw
       case rel => exact ⟨j + 1, _, by omega, by go_num, HN2.out, HBD.out⟩
       case measure => simp [intOf]; omega
    ·obtain rfl : j = NB := by omega
     have HDE2 := Lib.hid (show d = DF from by
      have h1 := HPD.out
      rw [HNB.out, List.drop_length] at h1; exact h1)
     obtain ⟨y0, y1, y2, y3⟩ := Bk.c4 b3
     have f0 := b3.free 0
     have f1 := b3.free 1
     have f2 := b3.free 2
     have f3 := b3.free 3
     rw [HQ0.out] at x1
     clear b1 b2 b8
     have HB3 := Lib.hid b3
     clear b3
     go_wp2
     have hF := FoB.box4_bk HB3.out (.int .i64 f.tick) (.slice qa' f.quotas.length qc') (.slice (some ⟨gi, 0, none⟩) 20 ci) (.slice (some ⟨gd, 0, none⟩) 56 cd)
     have hC := FoB.box4_chg wr (w.heap.size + 1 + 1) (.int .i64 f.tick) (.slice qa' f.quotas.length qc') (.slice (some ⟨gi, 0, none⟩) 20 ci) (.slice (some ⟨gd, 0, none⟩) 56 cd)
     unfold FoB.box4 at hF hC
     generalize ((((wr.setCell ⟨w.heap.size + 1 + 1, 0, none⟩ (.int .i64 f.tick)).setCell ⟨w.heap.size + 1 + 1, 1, none⟩ (.slice qa' f.quotas.length qc')).setCell ⟨w.heap.size + 1 + 1, 2, none⟩ (.slice (some ⟨gi, 0, none⟩) 20 ci)).setCell ⟨w.heap.size + 1 + 1, 3, none⟩ (.slice (some ⟨gd, 0, none⟩) 56 cd)) = w9 at hF hC ⊢
     obtain ⟨e0, e1, e2, e3⟩ := Bk.c4 hF
     have hb5 := HBA.out.2.2.2.2.1
     have hown := FsF.own_chg HBA.out.1.own hC (fun x hx hh => by rw [List.mem_singleton] at hh; subst hh; exact hb5 hx)
     have hres : FsF.Own w9 lo (.agg #[.int .i64 f.tick, .slice qa' f.quotas.length qc', .slice (some ⟨gi, 0, none⟩) 20 ci, .slice (some ⟨gd, 0, none⟩) 56 cd]) (withV f i n c) S2 := by
      have hv : withV f i n c = { f with inodes := f.inodes.set i n, data := d } := by rw [withV, HDE2.out, HDF.out, HU.out]
      rw [hv, <- HQ0.out]
      exact hown
     have hbl := HBW.out.trans (FoB.Chg.from hC HBW.out.size (by omega))
     refine bodyPost_ret (v := .agg #[.int .i64 f.tick, .slice qa' f.quotas.length qc', .slice (some ⟨gi, 0, none⟩) 20 ci, .slice (some ⟨gd, 0, none⟩) 56 cd]) (by simp [results, Tryz.results123, go_sem, e0, e1, e2, e3]) rfl ?_
     first
      | exact ⟨_, S2, rfl, hres, HSUB.out, hbl⟩
      | exact ⟨_, rfl, ⟨S2, hres, HSUB.out⟩, hbl⟩
      | exact ⟨_, rfl, S2, hres, HSUB.out, hbl⟩
end Go.Proofs.YthppbcnejapbiaaGreatDoor.CoI

-- YthppbcnejapbiaaGreatDoorCoFr
/- A part. -/
namespace Go.Proofs.YthppbcnejapbiaaGreatDoor.CoFr
open Go.ChangeShapes Go.WideShapes Go.ChangeAt Go.RowKit
open Foot Bx
open InoV (I usedV needV)
open FsV (F okF e0 z32)
open FsY FsZ FoB CoN
open RowG (cellsB cellsB_length)
set_option linter.unusedVariables false
theorem good_of {f : F} {i : Int} (h : hasObjB f i = true) : ∃ k : Nat, i = k /\ GoodF f k := by
 unfold hasObjB at h
 simp only [Bool.and_eq_true, decide_eq_true_eq] at h
 obtain ⟨⟨⟨h0, h19⟩, hok⟩, _⟩ := h
 exact ⟨i.toNat, by omega, hok, by omega⟩
end Go.Proofs.YthppbcnejapbiaaGreatDoor.CoFr
