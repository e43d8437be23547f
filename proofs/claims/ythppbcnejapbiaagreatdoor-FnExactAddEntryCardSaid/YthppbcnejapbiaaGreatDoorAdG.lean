/- Helper texts joined, one behind another (a claim has at most 60 files): what each proves, its own head says: YthppbcnejapbiaaGreatDoorCoN, YthppbcnejapbiaaGreatDoorFsZ, YthppbcnejapbiaaGreatDoorFsZw, YthppbcnejapbiaaGreatDoorPadTo, YthppbcnejapbiaaGreatDoorFsZr, YthppbcnejapbiaaGreatDoorCoC. -/
import Derived.Test.YthppbcnejapbiaaGreatDoorAdF
import Derived.Lib.BufferWrite
import Derived.Lib.SliceRun
import Derived.Shelf.Spec.SlicesInsert
import Derived.Test.YthppbcnejapbiaaGreatDoorRowG
import Derived.BigQuiet
import Derived.Deep.RegionLaw
import Derived.Deep.RegionHeld3

-- YthppbcnejapbiaaGreatDoorCoN
/- A part. -/
namespace Go.Proofs.YthppbcnejapbiaaGreatDoor.CoN
set_option maxHeartbeats 1600000
set_option maxRecDepth 100000
open Go.ChangeShapes Go.WideShapes Go.ChangeAt Go.RowKit
open Foot Bx
open InoV (I)
open FsV (F okF e0)
open FsY
open Dk (ret_bool)
open RowG (cellsB cellsB_length)
set_option linter.unusedVariables false
theorem cellsB_splice (c : List UInt8) (a : Nat) (s : ByteArray) : (((cellsB c).toArray).toList.take a ++ Lib.byteCells s.data.toList ++ ((cellsB c).toArray).toList.drop (a + s.size)).toArray = (cellsB (splice c a s.data.toList)).toArray := by
 have h : s.data.toList.length = s.size := by simp
 rw [splice, RowG.cellsB_append, RowG.cellsB_append, h]
 simp [cellsB, List.map_take, List.map_drop, Lib.byteCells]
theorem copy_run (w : World) (g a n cap : Nat) (s : ByteArray) (c : List UInt8) (ty : TypeId) (hg : Bk w g (cellsB c).toArray 5) (hle : s.size <= n) (hfit : a + s.size <= c.length) :
  (Builtin.copy_ #[118, 9] ty #[.slice (some ⟨g, a, none⟩) n cap, .string s]).run Tryz.prog w = .ok (goInt s.size) (w.setRow g (cellsB (splice c a s.data.toList)).toArray) := by
 obtain ⟨i0, hi, hz0, hz1, hz2⟩ := info_parts RowG.byteInfo
 rw [Lib.run_copy_row_string w 118 9 ty 5 g a n cap s (cellsB c).toArray 5 Tryz.underlying118 (by rw [hi]; simp [hz1]) hg hle (by simpa [cellsB_length] using hfit), cellsB_splice]
theorem row_set {w : World} {g : Nat} {cs cs' : Array Value} {t : TypeId} (h : Bk w g cs t) : Bk (w.setRow g cs') g cs' t := setRow_heap w g cs cs' t (0, 0) h
theorem row_chg (w : World) (g : Nat) (cs : Array Value) : Chg w (w.setRow g cs) [g] := ⟨rfl, rfl, rfl, by simp [World.setRow], fun k _ hk => setRow_other w g k cs (fun e => hk (by simp [e]))⟩
theorem byte_at {w : World} {g : Nat} {c : List UInt8} (h : Bk w g (cellsB c).toArray 5) (j : Nat) (hj : j < c.length) : w.cell? ⟨g, j, none⟩ = some (.int .u8 (c[j].toNat : Int)) := by
 rw [h.cell]; simp [cellsB, List.getElem?_eq_getElem hj]
theorem back_run {w : World} {g a n cap : Nat} {c : List UInt8} (h : Bk w g (cellsB c).toArray 5) (hn : a + n <= c.length) :
  Sem.run Tryz.prog (convert 118 9 (.slice (some ⟨g, a, none⟩) n cap)) w = .ok (.string ⟨((c.drop a).take n).toArray⟩) w := by
 have hl : ((c.drop a).take n).length = n := by rw [List.length_take, List.length_drop]; omega
 have := run_convert_bytes_back w 118 9 5 ⟨g, a, none⟩ cap ((c.drop a).take n) Tryz.underlying118 Tryz.underlying5 Tryz.underlying9 (fun j hj => by
  rw [hl] at hj
  rw [Addr.add_lit, byte_at h (a + j) (by omega)]
  simp [List.getElem_take, List.getElem_drop])
 rwa [hl] at this
theorem zero_row : (cellsB (Z 256)).toArray = madeCells #[.int .u8 0] 256 := by kernel_rfl
theorem make_run (W : World) : (Instr.makeSlice 118 (.int .i64 256) (.int .i64 256)).run Tryz.prog W = .ok (.slice (some ⟨W.heap.size, 0, none⟩) 256 256) (W.alloc (.cells (cellsB (Z 256)).toArray 5)) := by
 obtain ⟨i0, hi, hz0, hz1, hz2⟩ := info_parts RowG.byteInfo
 have := run_make (P := Tryz.prog) W 118 5 i0 _ Tryz.underlying118 hi hz0 .i64 .i64 256 256 (by decide) (by decide) (by rw [hz2]; decide) (by decide)
 rw [hz1] at this
 rw [zero_row]
 exact this
theorem hole_impl (b : Int) (w : World) : Calls Tryz.prog 122 #[.int .i64 b] w fun e w' => e = .returned (.bool (isHole b)) /\ w = w' := by
 go_enter Tryz.func122, Tryz.ntmps122
 go_wp2
 go_ret
 exact ⟨ret_bool (by unfold isHole; rfl), rfl⟩
theorem block_impl (b : Int) (w : World) : Calls Tryz.prog 144 #[.int .i64 b] w fun e w' => e = .returned (.bool (isBlock b)) /\ w = w' := by
 go_enter Tryz.func144, Tryz.ntmps144
 go_wp2
 go_ret
 exact ⟨ret_bool (by unfold isBlock; rfl), rfl⟩
theorem blockIn_impl (g k : Nat) (hk : k < 8) (w : World) : Calls Tryz.prog 145 #[.slice (some ⟨g, 0, none⟩) 256 256, .int .i64 k] w fun e w' => e = .returned (.slice (some ⟨g, k * 32, none⟩) 32 32) /\ w = w' := by
 have hk0 : (0 : Int) <= k := by omega
 have hk1 : (k : Int) < 8 := by omega
 go_enter Tryz.func145, Tryz.ntmps145
 go_wp2
 go_ret
 refine ⟨?_, rfl⟩
 show Ending.returned (Value.slice (some ⟨g, k * 32, none⟩) ((k + 1) * 32 - k * 32) ((k + 1) * 32 - k * 32)) = _
 rw [show (k + 1) * 32 - k * 32 = 32 from by omega]
theorem has_impl (w : World) (v : Value) (f : F) (i : Int) (hc : FsF.cost f <= 1073741824) (hl : FsF.Lim f) (hv : InOk.Vars w) (h : FsF.Holds w v f) :
  Calls Tryz.prog 80 #[v, .int .i64 i] w fun e w' => e = .returned (.bool (hasObjB f i)) /\ Below w.heap.size w w' := by
 have HFS := Lib.hid h
 have HCC := Lib.hid hc
 have HLM := Lib.hid hl
 have HV := Lib.hid hv
 obtain ⟨r0, r1, r2, rfl, g0, g1, g2⟩ := h
 have HI1 := Lib.hid g1
 obtain ⟨qa, qc, rfl⟩ := QF.form g0
 obtain ⟨ia, ic, rfl⟩ := IF.form g1
 obtain ⟨da, dc, rfl⟩ := SF.form g2
 clear g0 g1 g2 hc hl hv
 obtain ⟨T, hT⟩ : ∃ T, T = f.tick := ⟨_, rfl⟩
 obtain ⟨Q, hQ⟩ : ∃ Q, Q = f.quotas.length := ⟨_, rfl⟩
 obtain ⟨M, hM⟩ : ∃ M, M = f.inodes.length := ⟨_, rfl⟩
 obtain ⟨D, hD⟩ : ∃ D, D = f.data.length := ⟨_, rfl⟩
 rw [<- hT, <- hQ, <- hM, <- hD] at HFS ⊢
 rw [<- hM] at HI1
 have HM := Lib.hid hM
 clear hT hQ hM hD
 have HB0 := Lib.hid ((Below.refl w.heap.size w).alloc (Nat.le_refl _) (.cells #[.int .i64 T, .slice qa Q qc, .slice ia M ic, .slice da D dc] 33))
 have HX0 := Lib.hid (new w #[.int .i64 T, .slice qa Q qc, .slice ia M ic, .slice da D dc] 33)
 by_cases hA : 0 <= i
 ·by_cases hB : i <= 19
  ·obtain ⟨k, rfl⟩ : ∃ k : Nat, i = k := ⟨i.toNat, by omega⟩
   have hk : k < 20 := by omega
   have q0 : decide ((0 : Int) <= k) = true := decide_eq_true hA
   have q1 : decide ((k : Int) < 20) = true := decide_eq_true (by omega)
   have HVV := Lib.hid (show hasObjB f k = (okF f && !decide ((ino f k).kind = 0)) from by unfold hasObjB; rw [decide_eq_true hA, decide_eq_true hB]; rfl)
   clear hA hB
   obtain ⟨C, hC⟩ : ∃ C, C = okF f := ⟨_, rfl⟩
   have HIS := Lib.hid (fun W v (hw : InOk.Vars W) (hF : FsF.Holds W v f) => show Calls Tryz.prog 75 #[v] W fun e w' => e = .returned (.bool C) /\ Below W.heap.size W w' from by rw [hC]; exact FsE.is_impl W v f HCC.out HLM.out hw hF)
   have HCE := Lib.hid hC
   cases C
   ·have HF := Lib.hid (show hasObjB f k = false from by rw [HVV.out, <- hC]; rfl)
    clear hC
    go_enter Tryz.func80, Tryz.ntmps80
    go_wp2_with fail
    refine (HIS.out _ _ (HV.out.all HB0.out) (FsF.holds_below HFS.out HB0.out)).mono ?_
    rintro e w1 ⟨rfl, hb⟩
    have HB1 := Lib.hid (HB0.out.trans (hb.mono HB0.out.size))
    clear hb
    go_wp2
    go_ret
    exact ⟨ret_bool HF.out.symm, HB1.out⟩
   ·have hM20 : M = 20 := by rw [HM.out]; exact (FsV.parts_of (FsV.ok_parts hC.symm).2.1).2.1
    clear hC
    subst hM20
    obtain ⟨a9, c9, e9, l9, hat⟩ := HI1.out
    rw [Value.slice.injEq] at e9
    obtain ⟨rfl, e8, rfl⟩ := e9
    clear e8 l9
    obtain ⟨b, o, rfl, hb, r0, r1, r2, hCl, hP⟩ := hat k (by rw [<- HM.out]; exact hk)
    have hc0 := hCl.1
    rw [show f.inodes.getD k IF.z0 = ino f k from rfl] at hc0
    have HHB := Lib.hid hb
    clear hat hCl hP hb
    obtain ⟨K, hK⟩ : ∃ K, K = (ino f k).kind := ⟨_, rfl⟩
    rw [<- hK] at hc0 HVV
    clear hK
    have HC0 := Lib.hid hc0
    clear hc0
    go_enter Tryz.func80, Tryz.ntmps80
    go_wp2_with fail
    refine (HIS.out _ _ (HV.out.all HB0.out) (FsF.holds_below HFS.out HB0.out)).mono ?_
    rintro e w1 ⟨rfl, hb⟩
    have HB1 := Lib.hid (HB0.out.trans (hb.mono HB0.out.size))
    have HX1 := Lib.hid (HX0.out.all hb)
    clear hb
    obtain ⟨x0, x1, x2, x3⟩ := Bk.c4 HX1.out
    have c0 := HB1.out.cell (p := ⟨b, o + k * 10, none⟩) HHB.out
    rw [HC0.out] at c0
    by_cases hz : K = 0
    ·have HF := Lib.hid (show hasObjB f k = false from by rw [HVV.out, <- HCE.out, decide_eq_true hz]; rfl)
     subst hz
     go_wp2
     go_ret
     exact ⟨ret_bool HF.out.symm, HB1.out⟩
    ·have HF := Lib.hid (show hasObjB f k = true from by rw [HVV.out, <- HCE.out, decide_eq_false hz]; rfl)
     have z1 : (K != 0) = true := by simpa using hz
     have z2 : (K == 0) = false := by simpa using hz
     clear hz
     go_wp2
     go_ret
     exact ⟨ret_bool HF.out.symm, HB1.out⟩
  ·have HF := Lib.hid (show hasObjB f i = false from by unfold hasObjB; rw [decide_eq_false hB, Bool.and_false]; rfl)
   have q0 : decide ((0 : Int) <= i) = true := decide_eq_true hA
   have q1 : decide (i < 20) = false := decide_eq_false (by omega)
   clear hA hB
   go_enter Tryz.func80, Tryz.ntmps80
   go_wp2
   go_ret
   exact ⟨ret_bool HF.out.symm, HB0.out⟩
 ·have HF := Lib.hid (show hasObjB f i = false from by unfold hasObjB; rw [decide_eq_false hA]; rfl)
  have q0 : decide ((0 : Int) <= i) = false := decide_eq_false hA
  clear hA
  go_enter Tryz.func80, Tryz.ntmps80
  go_wp2
  go_ret
  exact ⟨ret_bool HF.out.symm, HB0.out⟩
end Go.Proofs.YthppbcnejapbiaaGreatDoor.CoN

-- YthppbcnejapbiaaGreatDoorFsZ
/- A part. -/
namespace Go.Proofs.YthppbcnejapbiaaGreatDoor.FsZ
open InoV (I okI usedV hasB needV)
open FsV FsX FsY
set_option linter.unusedVariables false
theorem first_congr {p q : Nat -> Bool} {a m : Nat} (h : ∀ k, k < m -> p (a + k) = q (a + k)) : first p a m = first q a m := by
 unfold first
 induction m with
 | zero => rfl
 | succ m ih =>
  rw [List.range_succ, List.find?_append, List.find?_append, ih fun k hk => h k (by omega)]
  simp [h m (by omega)]
theorem cnt_congr {p q : Nat -> Bool} {a m : Nat} (h : ∀ k, k < m -> p (a + k) = q (a + k)) : cnt p a m = cnt q a m := by
 induction m with
 | zero => rfl
 | succ m ih => rw [cnt_succ, cnt_succ, ih fun k hk => h k (by omega), h m (by omega)]
theorem pick_congr {p q : Nat -> Bool} {a m : Nat} {z : Int} (h : ∀ k, k < m -> p (a + k) = q (a + k)) : pick p a m z = pick q a m z := by
 rw [pick, pick, first_congr h, cnt_congr h]
theorem pick_ok {p : Nat -> Bool} {a m : Nat} {q : Int} (h : (pick p a m q).2 = 0) : ∃ k, k < m /\ (pick p a m q).1 = ((a + k : Nat) : Int) /\ p (a + k) = false := by
 unfold pick at h ⊢
 by_cases h1 : q <= (cnt p a m : Nat)
 ·rw [if_pos h1] at h; cases h
 ·rw [if_neg h1] at h ⊢
  cases hf : first p a m with
  | none => rw [hf] at h; cases h
  | some k =>
   obtain ⟨h1, i, hi, h2, _⟩ := List.find?_eq_some_iff_getElem.1 hf
   rw [List.getElem_range] at h2
   subst h2
   exact ⟨i, by simpa using hi, rfl, by simpa using h1⟩
def more (s : Int -> Bool) (x : Int) : Int -> Bool := fun z => decide (z = x) || s z
def pk (a : Nat) (q : Int) (s : Int -> Bool) : Int × Int := pick (fun k => s (k : Int)) a 14 q
theorem renew_nil (a : Nat) (q : Int) (ch s : Int -> Bool) : renew a q ch s [] = ([], 0) := rfl
theorem renew_skip {a : Nat} {q : Int} {ch s : Int -> Bool} {b : Int} {r : List Int} (h : ch b = false) : renew a q ch s (b :: r) = (b :: (renew a q ch s r).1, (renew a q ch s r).2) := by
 rw [renew, h]; rfl
theorem renew_new {a : Nat} {q : Int} {ch s : Int -> Bool} {b x : Int} {r : List Int} (h : ch b = true) (hp : pk a q s = (x, 0)) : renew a q ch s (b :: r) = (x :: (renew a q ch (more s x) r).1, (renew a q ch (more s x) r).2) := by
 unfold pk at hp
 rw [renew, if_pos h, hp, if_pos rfl]; rfl
theorem renew_fail {a : Nat} {q : Int} {ch s : Int -> Bool} {b x c : Int} {r : List Int} (h : ch b = true) (hp : pk a q s = (x, c)) (hc : c ≠ 0) : renew a q ch s (b :: r) = (b :: r, c) := by
 unfold pk at hp
 rw [renew, if_pos h, hp, if_neg hc]
theorem renew_len (a : Nat) (q : Int) (ch : Int -> Bool) : ∀ (bs : List Int) (s : Int -> Bool), (renew a q ch s bs).1.length = bs.length := by
 intro bs
 induction bs with
 | nil => intro s; rfl
 | cons b r ih =>
  intro s
  rw [renew]
  split
  ·split
   ·simp [ih]
   ·rfl
  ·simp [ih]
theorem renew_facts (a : Nat) (q : Int) (ch : Int -> Bool) : ∀ (bs : List Int) (s : Int -> Bool), (renew a q ch s bs).2 = 0 ->
  (∀ t (h : t < bs.length) (h' : t < (renew a q ch s bs).1.length), (ch bs[t] = false -> (renew a q ch s bs).1[t] = bs[t]) /\ (ch bs[t] = true -> ∃ k, k < 14 /\ (renew a q ch s bs).1[t] = ((a + k : Nat) : Int) /\ s ((a + k : Nat) : Int) = false)) /\
  ∀ t t' (h : t < bs.length) (h' : t' < bs.length) (g : t < (renew a q ch s bs).1.length) (g' : t' < (renew a q ch s bs).1.length), t < t' -> ch bs[t] = true -> ch bs[t'] = true -> (renew a q ch s bs).1[t] ≠ (renew a q ch s bs).1[t'] := by
 intro bs
 induction bs with
 | nil => intro s _; exact ⟨fun t h => by simp at h, fun t t' h => by simp at h⟩
 | cons b r ih =>
  intro s h0
  by_cases hc : ch b = true
  ·obtain ⟨⟨x, c⟩, hp⟩ : ∃ y, pk a q s = y := ⟨_, rfl⟩
   by_cases hc0 : c = 0
   ·subst hc0
    have e := renew_new (r := r) hc hp
    rw [e] at h0
    simp only [e]
    obtain ⟨i1, i2⟩ := ih (more s x) h0
    obtain ⟨k, hk, hx, hs⟩ := pick_ok (p := fun k => s (k : Int)) (a := a) (m := 14) (q := q) (by rw [show pick (fun k => s (k : Int)) a 14 q = (x, 0) from hp])
    rw [show pick (fun k => s (k : Int)) a 14 q = (x, 0) from hp] at hx
    dsimp only at hx hs
    refine ⟨fun t h h' => ?_, fun t t' h h' g g' hlt e1 e2 => ?_⟩
    ·cases t with
     | zero => exact ⟨fun hh => by simp [hc] at hh, fun _ => ⟨k, hk, hx, hs⟩⟩
     | succ t =>
      obtain ⟨j1, j2⟩ := i1 t (by simpa using h) (by simpa using h')
      refine ⟨fun hh => j1 (by simpa using hh), fun hh => ?_⟩
      obtain ⟨k', hk', hx', hs'⟩ := j2 (by simpa using hh)
      refine ⟨k', hk', by simpa using hx', ?_⟩
      simp only [more, Bool.or_eq_false_iff] at hs'
      exact hs'.2
    ·cases t' with
     | zero => omega
     | succ t' =>
      cases t with
      | zero =>
       obtain ⟨k', hk', hx', hs'⟩ := (i1 t' (by simpa using h') (by simpa using g')).2 (by simpa using e2)
       simp only [more, Bool.or_eq_false_iff, decide_eq_false_iff_not] at hs'
       simp only [List.getElem_cons_zero, List.getElem_cons_succ]
       rw [hx']
       exact fun hh => hs'.1 hh.symm
      | succ t => exact i2 t t' (by simpa using h) (by simpa using h') (by simpa using g) (by simpa using g') (by omega) (by simpa using e1) (by simpa using e2)
   ·rw [renew_fail hc hp hc0] at h0
    exact absurd h0 hc0
  ·have hc' : ch b = false := by simpa using hc
   have e := renew_skip (a := a) (q := q) (s := s) (r := r) hc'
   rw [e] at h0
   simp only [e]
   obtain ⟨i1, i2⟩ := ih s h0
   refine ⟨fun t h h' => ?_, fun t t' h h' g g' hlt e1 e2 => ?_⟩
   ·cases t with
    | zero => exact ⟨fun _ => rfl, fun hh => by simp [hc'] at hh⟩
    | succ t => exact i1 t (by simpa using h) (by simpa using h')
   ·cases t' with
    | zero => omega
    | succ t' =>
     cases t with
     | zero => simp [hc'] at e1
     | succ t => exact i2 t t' (by simpa using h) (by simpa using h') (by simpa using g) (by simpa using g') (by omega) (by simpa using e1) (by simpa using e2)
def segO (a k : Nat) : Nat := max a (32 * k) - 32 * k
def segS (a : Nat) (s : List UInt8) (k : Nat) : List UInt8 := (s.take (min (a + s.length) (32 * k + 32) - a)).drop (max a (32 * k) - a)
def putB (blk : ByteArray) (o : Nat) (s : List UInt8) : ByteArray := ⟨(splice blk.data.toList o s).toArray⟩
def segD (a : Nat) (s : List UInt8) : Nat -> List Int -> List ByteArray -> List ByteArray
 | _, [], d => d
 | k, b :: r, d => segD a s (k + 1) r (d.set b.toNat (putB (dat d b) (segO a k) (segS a s k)))
theorem segD_out (a : Nat) (s : List UInt8) (bs : List Int) : ∀ k (d : List ByteArray), (∀ b ∈ bs, 0 <= b /\ b <= 55) -> d.length = 56 -> ∀ j : Nat, (j : Int) ∉ bs -> (segD a s k bs d).getD j e0 = d.getD j e0 := by
 induction bs with
 | nil => intro k d _ _ j _; rfl
 | cons b r ih =>
  intro k d hb hd j hj
  have hb0 := hb b (by simp)
  rw [List.mem_cons, not_or] at hj
  rw [segD, ih _ _ (fun x hx => hb x (by simp [hx])) (by simp [hd]) j hj.2, getD_set _ _ _ _ _ (by omega), if_neg (by omega)]
theorem segD_in (a : Nat) (s : List UInt8) (bs : List Int) : ∀ k (d : List ByteArray), (∀ b ∈ bs, 0 <= b /\ b <= 55) -> bs.Nodup -> d.length = 56 -> ∀ t j : Nat, bs[t]? = some (j : Int) -> (segD a s k bs d).getD j e0 = putB (d.getD j e0) (segO a (k + t)) (segS a s (k + t)) := by
 induction bs with
 | nil => intro k d _ _ _ t j h; simp at h
 | cons b r ih =>
  intro k d hb hp hd t j h
  have hb0 := hb b (by simp)
  rw [List.nodup_cons] at hp
  rw [segD]
  cases t with
  | zero =>
   simp at h
   subst h
   rw [segD_out a s r _ _ (fun x hx => hb x (by simp [hx])) (by simp [hd]) j hp.1, getD_set _ _ _ _ _ (by omega), if_pos (by omega), Nat.add_zero]
   rfl
  | succ t =>
   rw [List.getElem?_cons_succ] at h
   have hjr : (j : Int) ∈ r := List.mem_of_getElem? h
   have hne : ¬ b.toNat = j := fun e => hp.1 (by rw [show b = (j : Int) from by omega]; exact hjr)
   rw [ih _ _ (fun x hx => hb x (by simp [hx])) hp.2 (by simp [hd]) t j h, getD_set _ _ _ _ _ (by omega), if_neg hne, show k + 1 + t = k + (t + 1) from by omega]
theorem segD_len (a : Nat) (s : List UInt8) (bs : List Int) : ∀ k d, (segD a s k bs d).length = d.length := by
 induction bs with
 | nil => intro k d; rfl
 | cons b r ih => intro k d; rw [segD, ih, List.length_set]
structure GoodF (f : F) (i : Nat) : Prop where
 ok : okF f = true
 lt : i < 20
theorem GoodF.mem {f : F} {i : Nat} (h : GoodF f i) : ino f i ∈ f.inodes := mem_getD (by have := (parts_of (ok_parts h.ok).2.1).2.1; have := h.lt; omega)
theorem GoodF.inode {f : F} {i : Nat} (h : GoodF f i) : okI (ino f i) = true := (parts_of (ok_parts h.ok).2.1).2.2.2.2.1 _ h.mem
theorem GoodF.dlen {f : F} {i : Nat} (h : GoodF f i) : f.data.length = 56 := (parts_of (ok_parts h.ok).2.1).2.2.1
theorem GoodF.dsz {f : F} {i : Nat} (h : GoodF f i) : ∀ s ∈ f.data, s.size = 32 := (parts_of (ok_parts h.ok).2.1).2.2.2.2.2
theorem GoodF.dis {f : F} {i : Nat} (h : GoodF f i) : Dis (ino f i).blocks := dis_of (InoV.ok_blocks h.inode).1
theorem GoodF.used {f : F} {i : Nat} (h : GoodF f i) {b : Int} (hb : b ∈ usedV (ino f i).blocks) : b ∈ allB f.inodes := mem_all.2 ⟨_, h.mem, hb⟩
theorem GoodF.inr {f : F} {i : Nat} (h : GoodF f i) : Inr (ino f i).blocks := fun b hb => by
 by_cases e : b = -1
 ·exact .inl e
 ·exact .inr ((own_facts h.ok).2 b (h.used (List.mem_filter.2 ⟨hb, by simpa using e⟩)))
theorem GoodF.own {f : F} {i : Nat} (h : GoodF f i) {b : Int} (hb : b ∈ usedV (ino f i).blocks) : ownerV b = (ino f i).uid := ((own_iff _).1 (ok_parts h.ok).2.2.2.1).1 _ h.mem b hb
theorem z32_of {s : ByteArray} (h : s.size = 32) (hz : zB s = true) : s = z32 := by
 apply ByteArray.ext
 apply Array.toList_inj.1
 show s.data.toList = List.replicate 32 0
 unfold zB at hz
 rw [List.all_eq_true] at hz
 refine List.eq_replicate_iff.2 ⟨by simpa using h, fun b hb => by simpa using hz b hb⟩
theorem GoodF.free {f : F} {i : Nat} (h : GoodF f i) {j : Nat} (hj : j < 56) (hb : (j : Int) ∉ allB f.inodes) : f.data.getD j e0 = z32 := by
 have := ((else_iff f).1 (ok_parts h.ok).2.2.2.2).1 j hj
 rcases this with h1 | h1
 ·exact absurd h1 hb
 ·exact z32_of (h.dsz _ (mem_getD (by rw [h.dlen]; exact hj))) h1
theorem GoodF.uid {f : F} {i : Nat} (h : GoodF f i) : 0 <= (ino f i).uid /\ (ino f i).uid <= 3 := uid_in (ok_parts h.ok).2.1 h.mem
theorem GoodF.size {f : F} {i : Nat} (h : GoodF f i) : 0 <= (ino f i).size /\ (ino f i).size <= 256 /\ ((ino f i).blocks.length : Int) = needV (ino f i).size /\ (ino f i).blocks.length <= 8 := by
 have h1 := InoV.ok_nums h.inode
 have h2 := (InoV.ok_blocks h.inode).2
 omega
theorem getD_m {bs : List Int} {t : Nat} : bs.getD t (-1) = if h : t < bs.length then bs[t] else -1 := by
 rw [List.getD_eq_getElem?_getD]
 split
 ·rw [List.getElem?_eq_getElem (by assumption)]; rfl
 ·rw [List.getElem?_eq_none (by omega)]; rfl
theorem holes_len (bs : List Int) (m : Nat) : (holes bs m).length = m := by
 simp only [holes, List.length_take, List.length_append, List.length_replicate]; omega
theorem holes_at (bs : List Int) (m t : Nat) (h : t < m) : (holes bs m)[t]? = some (bs.getD t (-1)) := by
 rw [holes, List.getElem?_take, if_pos h, getD_m]
 split
 ·rw [List.getElem?_append_left (by assumption), List.getElem?_eq_getElem (by assumption)]
 ·rw [List.getElem?_append_right (by omega), List.getElem?_replicate, if_pos (by omega)]
end Go.Proofs.YthppbcnejapbiaaGreatDoor.FsZ

-- YthppbcnejapbiaaGreatDoorFsZw
/- A part. -/
namespace Go.Proofs.YthppbcnejapbiaaGreatDoor.FsZw
open InoV (I okI usedV hasB needV)
open FsV FsX FsY FsZ
set_option linter.unusedVariables false
structure WrOk (f : F) (n : I) (a l : Nat) : Prop where
 len : (wrB f n a l).length = (wrI n a l).blocks.length
 need : ((wrI n a l).blocks.length : Int) = needV (max (((a + l : Nat) : Int)) n.size)
 at_ : ∀ t (h : t < (wrB f n a l).length), ((wrB f n a l)[t] = n.blocks.getD t (-1) /\ (n.blocks.getD t (-1) ≠ -1 \/ ¬ (a / 32 <= t /\ t < lastB a l))) \/ (n.blocks.getD t (-1) = -1 /\ a / 32 <= t /\ t < lastB a l /\ ∃ k, k < 14 /\ (wrB f n a l)[t] = ((14 * n.uid.toNat + k : Nat) : Int) /\ hasB (allB f.inodes) ((14 * n.uid.toNat + k : Nat) : Int) = false)
 new : ∀ t t' (h : t < (wrB f n a l).length) (h' : t' < (wrB f n a l).length), t < t' -> n.blocks.getD t (-1) = -1 -> n.blocks.getD t' (-1) = -1 -> (wrB f n a l)[t] ≠ -1 -> (wrB f n a l)[t] ≠ (wrB f n a l)[t']
theorem need_mono {x y : Int} (h : x <= y) : needV x <= needV y := by unfold needV; split <;> split <;> omega
theorem need_nn (x : Int) : 0 <= needV x := by unfold needV; split <;> omega
theorem lastB_le (n : I) (a l : Nat) : lastB a l <= (wrI n a l).blocks.length := by
 rw [wrI, sized]
 show _ <= (holes n.blocks _).length
 rw [holes_len, lastB]
 have := need_mono (show ((a + l : Nat) : Int) <= max ((a + l : Nat) : Int) n.size from Int.le_max_left _ _)
 omega
theorem first_lt {a l : Nat} (hl : 0 < l) : a / 32 < lastB a l := by
 unfold lastB needV
 rw [if_neg (by omega)]; omega
theorem last_lo {a l : Nat} (hl : 0 < l) : 32 * (lastB a l) < a + l + 32 /\ a + l <= 32 * lastB a l := by
 unfold lastB needV
 rw [if_neg (by omega)]; omega
theorem wr_of {f : F} {n : I} {a l : Nat} (hl : 0 < l) (h0 : (wrR f n a l).2 = 0) : WrOk f n a l := by
 have hL := lastB_le n a l
 have hF := first_lt (a := a) hl
 obtain ⟨N, hN⟩ : ∃ N, N = (wrI n a l).blocks := ⟨_, rfl⟩
 rw [<- hN] at hL
 have hNat : ∀ t (h : t < N.length), N[t] = n.blocks.getD t (-1) := fun t h => by
  have h1 : t < (needV (max ((a + l : Nat) : Int) n.size)).toNat := by rw [hN] at h; simpa [wrI, sized, holes_len] using h
  have := holes_at n.blocks _ t h1
  rw [show holes n.blocks (needV (max ((a + l : Nat) : Int) n.size)).toNat = N from by rw [hN]; rfl, List.getElem?_eq_getElem h] at this
  simpa using this
 have hneed : (N.length : Int) = needV (max (((a + l : Nat) : Int)) n.size) := by
  rw [hN]
  have := need_nn (max (((a + l : Nat) : Int)) n.size)
  simp only [wrI, sized, holes_len]; omega
 obtain ⟨M, hM⟩ : ∃ M, M = (N.take (lastB a l)).drop (a / 32) := ⟨_, rfl⟩
 have hMl : M.length = lastB a l - a / 32 := by rw [hM, List.length_drop, List.length_take]; omega
 have hRe : wrR f n a l = renew (14 * n.uid.toNat) (quo f n.uid.toNat) isHole (hasB (allB f.inodes)) M := by rw [wrR, <- hN, hM]
 have hRl : (wrR f n a l).1.length = lastB a l - a / 32 := by rw [hRe, renew_len, hMl]
 have hMat : ∀ t (h : t < M.length), M[t] = n.blocks.getD (a / 32 + t) (-1) := fun t h => by
  have : a / 32 + t < N.length := by omega
  rw [<- hNat _ this]
  simp [hM]
 rw [hRe] at h0
 obtain ⟨r1, r2⟩ := renew_facts _ _ _ _ _ h0
 rw [<- hRe] at r1 r2
 have hBlen : (wrB f n a l).length = N.length := by
  simp only [wrB, <- hN, List.length_append, List.length_take, List.length_drop, hRl]; omega
 have hBat : ∀ t (h : t < (wrB f n a l).length), (t < a / 32 \/ lastB a l <= t) /\ (wrB f n a l)[t] = n.blocks.getD t (-1) \/ ∃ (h1 : a / 32 <= t) (h2 : t < lastB a l) (h3 : t - a / 32 < (wrR f n a l).1.length), (wrB f n a l)[t] = (wrR f n a l).1[t - a / 32] := fun t h => by
  have htN : t < N.length := by omega
  have h1 : (N.take (a / 32)).length = a / 32 := by rw [List.length_take]; omega
  simp only [wrB, <- hN]
  by_cases c1 : t < a / 32
  ·refine .inl ⟨.inl c1, ?_⟩
   rw [<- hNat t htN, List.getElem_append_left (by rw [List.length_append]; omega), List.getElem_append_left (by omega), List.getElem_take]
  ·by_cases c2 : t < lastB a l
   ·refine .inr ⟨by omega, c2, by omega, ?_⟩
    rw [List.getElem_append_left (by rw [List.length_append]; omega), List.getElem_append_right (by omega)]
    simp only [h1]
   ·refine .inl ⟨.inr (by omega), ?_⟩
    rw [<- hNat t htN, List.getElem_append_right (by rw [List.length_append]; omega), List.getElem_drop]
    simp only [List.length_append, h1, hRl]
    congr 1; omega
 refine ⟨by rw [hBlen, hN], by rw [<- hN]; exact hneed, fun t h => ?_, fun t t' h h' hlt e1 e2 hne => ?_⟩
 ·rcases hBat t h with ⟨hc, e⟩ | ⟨h1, h2, h3, e⟩
  ·exact .inl ⟨e, .inr (by omega)⟩
  ·obtain ⟨j1, j2⟩ := r1 (t - a / 32) (by omega) h3
   have hm := hMat (t - a / 32) (by omega)
   rw [show a / 32 + (t - a / 32) = t from by omega] at hm
   by_cases hh : n.blocks.getD t (-1) = -1
   ·refine .inr ⟨hh, h1, h2, ?_⟩
    rw [e]
    exact j2 (by rw [hm, hh]; rfl)
   ·refine .inl ⟨?_, .inl hh⟩
    rw [e, j1 (by rw [hm]; simpa [isHole] using hh), hm]
 ·have c1 : a / 32 <= t /\ t < lastB a l := by
   rcases hBat t h with ⟨hc, e⟩ | ⟨h1, h2, h3, e⟩
   ·rw [e] at hne; exact absurd e1 hne
   ·exact ⟨h1, h2⟩
  rcases hBat t h with ⟨hc, e⟩ | ⟨h1, h2, h3, e⟩
  ·omega
  rcases hBat t' h' with ⟨hc', e'⟩ | ⟨h1', h2', h3', e'⟩
  ·rw [e', e2]; exact hne
  ·rw [e, e']
   have hm := hMat (t - a / 32) (by omega)
   have hm' := hMat (t' - a / 32) (by omega)
   rw [show a / 32 + (t - a / 32) = t from by omega] at hm
   rw [show a / 32 + (t' - a / 32) = t' from by omega] at hm'
   exact r2 _ _ (by omega) (by omega) h3 h3' (by omega) (by rw [hm, e1]; rfl) (by rw [hm', e2]; rfl)
theorem getD_hit {bs : List Int} {t : Nat} (h : bs.getD t (-1) ≠ -1) : ∃ h' : t < bs.length, bs[t] = bs.getD t (-1) := by
 rw [getD_m] at h ⊢
 split at h
 ·exact ⟨(by assumption), by rw [dif_pos (by assumption)]⟩
 ·exact absurd rfl h
theorem used_at {bs : List Int} {t : Nat} (h : bs.getD t (-1) ≠ -1) : bs.getD t (-1) ∈ usedV bs := by
 obtain ⟨h', e⟩ := getD_hit h
 rw [usedV, List.mem_filter, <- e]
 exact ⟨List.getElem_mem h', by rw [e]; simpa using h⟩
theorem WrOk.inr {f : F} {i a l : Nat} (w : WrOk f (ino f i) a l) (g : GoodF f i) : Inr (wrB f (ino f i) a l) := fun b hb => by
 obtain ⟨t, ht, rfl⟩ := List.mem_iff_getElem.1 hb
 have hu := g.uid
 rcases w.at_ t ht with ⟨e, _⟩ | ⟨_, _, _, k, hk, e, _⟩
 ·rw [e]
  by_cases h : (ino f i).blocks.getD t (-1) = -1
  ·exact .inl h
  ·exact .inr ((own_facts g.ok).2 _ (g.used (used_at h)))
 ·rw [e]; omega
theorem WrOk.dis {f : F} {i a l : Nat} (w : WrOk f (ino f i) a l) (g : GoodF f i) : Dis (wrB f (ino f i) a l) := by
 rw [dis_iff]
 intro t t' h h' hlt hne e
 have hold : ∀ s, (ino f i).blocks.getD s (-1) ≠ -1 -> hasB (allB f.inodes) ((ino f i).blocks.getD s (-1)) = true := fun s hs => has_mem.2 (g.used (used_at hs))
 by_cases c1 : (ino f i).blocks.getD t (-1) = -1
 ·by_cases c2 : (ino f i).blocks.getD t' (-1) = -1
  ·exact w.new t t' h h' hlt c1 c2 hne e
  ·rcases w.at_ t h with ⟨e1, _⟩ | ⟨_, _, _, k, hk, e1, hf⟩
   ·rw [e1] at hne; exact hne c1
   ·rcases w.at_ t' h' with ⟨e2, _⟩ | ⟨c, _⟩
    ·have := hold t' c2
     rw [<- e2, <- e, e1, hf] at this; cases this
    ·exact c2 c
 ·rcases w.at_ t h with ⟨e1, _⟩ | ⟨c, _⟩
  ·by_cases c2 : (ino f i).blocks.getD t' (-1) = -1
   ·rcases w.at_ t' h' with ⟨e2, _⟩ | ⟨_, _, _, k, hk, e2, hf⟩
    ·rw [e, e2] at hne; exact hne c2
    ·have := hold t c1
     rw [<- e1, e, e2, hf] at this; cases this
   ·rcases w.at_ t' h' with ⟨e2, _⟩ | ⟨c, _⟩
    ·obtain ⟨q1, q2⟩ := getD_hit c1
     obtain ⟨p1, p2⟩ := getD_hit c2
     exact dis_iff.1 g.dis t t' q1 p1 hlt (by rw [q2]; exact c1) (by rw [q2, p2, <- e1, <- e2]; exact e)
    ·exact c2 c
  ·exact c1 c
theorem WrOk.old {f : F} {i a l : Nat} (w : WrOk f (ino f i) a l) (g : GoodF f i) {t j : Nat} (ht : t < (wrB f (ino f i) a l).length) (e : (wrB f (ino f i) a l)[t] = (j : Int)) : j < 56 /\ (f.data.getD j e0).data.toList = one f.data ((ino f i).blocks.getD t (-1)) /\ (f.data.getD j e0).size = 32 := by
 have hj : j < 56 := by
  have := w.inr g _ (List.getElem_mem ht)
  rw [e] at this; omega
 refine ⟨hj, ?_, g.dsz _ (mem_getD (by rw [g.dlen]; exact hj))⟩
 rcases w.at_ t ht with ⟨e1, _⟩ | ⟨c, _, _, k, hk, e1, hf⟩
 ·rw [<- e1, e, one, if_neg (by omega)]; rfl
 ·rw [c, one, if_pos rfl]
  have : (j : Int) ∉ allB f.inodes := fun hh => by
   rw [<- e, e1, <- has_mem, hf] at hh; cases hh
  rw [g.free hj this]; rfl
theorem one_getD_len {f : F} {i : Nat} (g : GoodF f i) (t : Nat) : (one f.data ((ino f i).blocks.getD t (-1))).length = 32 := by
 refine one_len g.dsz g.dlen ?_
 by_cases h : (ino f i).blocks.getD t (-1) = -1
 ·exact .inl h
 ·exact .inr ((own_facts g.ok).2 _ (g.used (used_at h)))
theorem seg_at {a l t x : Nat} {s : List UInt8} (hs : s.length = l) (h1 : a / 32 <= t) (h2 : t < lastB a l) (hl : 0 < l) : (segS a s t).length = min (a + l) (32 * t + 32) - max a (32 * t) /\ (segS a s t)[x]? = if x < (segS a s t).length then s[max a (32 * t) - a + x]? else none := by
 have hb := last_lo (a := a) hl
 have e1 : (segS a s t).length = min (a + l) (32 * t + 32) - max a (32 * t) := by
  rw [segS, List.length_drop, List.length_take]; omega
 refine ⟨e1, ?_⟩
 split
 ·rw [segS, List.getElem?_drop, List.getElem?_take, if_pos (by omega)]
 ·exact List.getElem?_eq_none (by omega)
theorem write_eq {f : F} {i a : Nat} {s : List UInt8} (g : GoodF f i) (hl : 0 < s.length) (hm : a + s.length <= 256) (h0 : (wrR f (ino f i) a s.length).2 = 0) :
  putD (splice (content f.data (ino f i).blocks) a s) 0 (wrB f (ino f i) a s.length) (zeroD f.data (usedV (ino f i).blocks)) = segD a s (a / 32) (wrR f (ino f i) a s.length).1 f.data := by
 have w := wr_of (a := a) hl h0
 have hsz := g.size
 have hL := lastB_le (ino f i) a s.length
 have hF := first_lt (a := a) hl
 have hb := last_lo (a := a) hl
 have hclen := content_len g.dsz g.dlen g.inr hsz.2.2.2
 have hBl : (wrB f (ino f i) a s.length).length <= 8 := by
  have h1 := w.len
  have h2 := w.need
  have h3 := need_mono (show max (((a + s.length : Nat) : Int)) (ino f i).size <= 256 by omega)
  have h4 : needV 256 = 8 := rfl
  omega
 have hinr := w.inr g
 have hdis := w.dis g
 have hRl : (wrR f (ino f i) a s.length).1.length = lastB a s.length - a / 32 := by
  rw [wrR, renew_len, List.length_drop, List.length_take]; omega
 have hlen := w.len
 have hRB : ∀ t (h : t < (wrR f (ino f i) a s.length).1.length), ∃ h' : a / 32 + t < (wrB f (ino f i) a s.length).length, (wrB f (ino f i) a s.length)[a / 32 + t] = (wrR f (ino f i) a s.length).1[t] := fun t h => by
  have h' : a / 32 + t < (wrB f (ino f i) a s.length).length := by omega
  refine ⟨h', ?_⟩
  have h1 : ((wrI (ino f i) a s.length).blocks.take (a / 32)).length = a / 32 := by rw [List.length_take]; omega
  simp only [wrB]
  rw [List.getElem_append_left (by rw [List.length_append]; omega), List.getElem_append_right (by omega)]
  simp only [h1, Nat.add_sub_cancel_left]
 have hRb : ∀ b ∈ (wrR f (ino f i) a s.length).1, 0 <= b /\ b <= 55 := fun b hb' => by
  obtain ⟨t, ht, rfl⟩ := List.mem_iff_getElem.1 hb'
  obtain ⟨h', e⟩ := hRB t ht
  have hi := hinr _ (List.getElem_mem h')
  rw [e] at hi
  rcases hi with hi | hi
  ·exfalso
   rcases w.at_ _ h' with ⟨e1, c | c⟩ | ⟨_, _, _, k, hk, e1, _⟩
   ·rw [<- e1, e] at c; exact c hi
   ·omega
   ·rw [e] at e1; omega
  ·exact hi
 have hRn : (wrR f (ino f i) a s.length).1.Nodup := by
  rw [List.Nodup, List.pairwise_iff_getElem]
  intro t t' h h' hlt e
  obtain ⟨q, qe⟩ := hRB t h
  obtain ⟨q', qe'⟩ := hRB t' h'
  have := hRb _ (List.getElem_mem h)
  exact dis_iff.1 hdis _ _ q q' (by omega) (by rw [qe]; omega) (by rw [qe, qe']; exact e)
 have hdl := g.dlen
 refine ext_getD (by rw [putD_len, zeroD_len, segD_len]) fun j hj => ?_
 have hj56 : j < 56 := by rw [putD_len, zeroD_len] at hj; omega
 have hzlen : (zeroD f.data (usedV (ino f i).blocks)).length = 56 := by rw [zeroD_len]; exact hdl
 by_cases hjB : (j : Int) ∈ wrB f (ino f i) a s.length
 ·obtain ⟨t, ht, e⟩ := List.mem_iff_getElem.1 hjB
  obtain ⟨_, hold, h32⟩ := w.old g ht e
  have hone := one_getD_len g t
  rw [putD_in _ _ 0 _ hinr hdis hzlen t j (by rw [List.getElem?_eq_getElem ht, e]), Nat.zero_add]
  have hC : ∀ x, x < 32 -> (content f.data (ino f i).blocks)[32 * t + x]? = (f.data.getD j e0).data.toList[x]? := fun x hx => by
   rw [content_at g.dsz hdl g.inr hsz.2.2.2 t (by omega) x hx, hold]
  by_cases hin : a / 32 <= t /\ t < lastB a s.length
  ·obtain ⟨hi1, hi2⟩ := hin
   have hRt : (wrR f (ino f i) a s.length).1[t - a / 32]? = some (j : Int) := by
    obtain ⟨h', e'⟩ := hRB (t - a / 32) (by omega)
    rw [List.getElem?_eq_getElem (by omega), <- e']
    simp only [show a / 32 + (t - a / 32) = t from by omega, e]
   rw [segD_in a s _ _ _ hRb hRn hdl (t - a / 32) j hRt, show a / 32 + (t - a / 32) = t from by omega]
   obtain ⟨sl, _⟩ := seg_at (x := 0) (s := s) rfl hi1 hi2 hl
   have hfit : segO a t + (segS a s t).length <= (f.data.getD j e0).data.toList.length := by
    rw [hold, hone, sl, segO]; omega
   refine blk_ext ?_ fun x hx => ?_
   ·show (splice _ _ _).toArray.size = 32
    rw [List.size_toArray, splice_len hfit, hold, hone]
   ·show _ = (splice (f.data.getD j e0).data.toList (segO a t) (segS a s t))[x]?
    rw [splice_at (by rw [hclen]; omega), splice_at hfit, hC x hx]
    obtain ⟨_, sx⟩ := seg_at (x := x - segO a t) (s := s) rfl hi1 hi2 hl
    by_cases c1 : x < segO a t
    ·rw [if_pos (show 32 * t + x < a by unfold segO at c1; omega), if_pos c1]
    ·rw [if_neg (show ¬ 32 * t + x < a by unfold segO at c1; omega), if_neg c1]
     by_cases c2 : x < segO a t + (segS a s t).length
     ·rw [if_pos (show 32 * t + x < a + s.length by rw [sl] at c2; unfold segO at c1 c2; omega), if_pos c2, sx, if_pos (by omega)]
      congr 1
      unfold segO at c1 ⊢; omega
     ·rw [if_neg (show ¬ 32 * t + x < a + s.length by rw [sl] at c2; unfold segO at c1 c2; omega), if_neg c2]
  ·have hjR : (j : Int) ∉ (wrR f (ino f i) a s.length).1 := fun hh => by
    obtain ⟨t', ht', e'⟩ := List.mem_iff_getElem.1 hh
    obtain ⟨q, qe⟩ := hRB t' ht'
    have hne : a / 32 + t' ≠ t := by omega
    rcases Nat.lt_or_ge (a / 32 + t') t with c | c
    ·exact dis_iff.1 hdis _ _ q ht c (by rw [qe, e']; omega) (by rw [qe, e', e])
    ·exact dis_iff.1 hdis _ _ ht q (by omega) (by rw [e]; omega) (by rw [qe, e', e])
   rw [segD_out a s _ _ _ hRb hdl j hjR]
   refine blk_ext h32 fun x hx => ?_
   rw [splice_at (by rw [hclen]; omega), hC x hx]
   by_cases c1 : 32 * t + x < a
   ·rw [if_pos c1]
   ·rw [if_neg c1, if_neg (by omega)]
 ·have hjR : (j : Int) ∉ (wrR f (ino f i) a s.length).1 := fun hh => by
   obtain ⟨t', ht', e'⟩ := List.mem_iff_getElem.1 hh
   obtain ⟨q, qe⟩ := hRB t' ht'
   exact hjB (by rw [<- e', <- qe]; exact List.getElem_mem q)
  have hjU : (j : Int) ∉ usedV (ino f i).blocks := fun hh => by
   obtain ⟨t, ht, e⟩ := List.mem_iff_getElem.1 (List.mem_filter.1 hh).1
   have hgd : (ino f i).blocks.getD t (-1) = (j : Int) := by rw [getD_m, dif_pos ht, e]
   have h1 := w.need
   have h3 := need_mono (show (ino f i).size <= max (((a + s.length : Nat) : Int)) (ino f i).size from Int.le_max_right _ _)
   have ht' : t < (wrB f (ino f i) a s.length).length := by omega
   rcases w.at_ t ht' with ⟨e1, _⟩ | ⟨c, _⟩
   ·exact hjB (by rw [<- hgd, <- e1]; exact List.getElem_mem ht')
   ·rw [hgd] at c; omega
  rw [segD_out a s _ _ _ hRb hdl j hjR, putD_out _ _ 0 _ hinr hzlen j hjB, zeroD_get _ _ (fun b hb' => (own_facts g.ok).2 b (g.used hb')) hdl, if_neg hjU]
end Go.Proofs.YthppbcnejapbiaaGreatDoor.FsZw

-- YthppbcnejapbiaaGreatDoorPadTo
/- A part. -/
namespace Go.Proofs.YthppbcnejapbiaaGreatDoor.PadTo
open Go.ChangeShapes Go.WideShapes Go.ChangeAt Go.RowKit
open RowG
set_option linter.unusedVariables false
theorem ret_str {a b : ByteArray} (h : a = b) : Ending.returned (.string a) = .returned (.string b) := by rw [h]
def zend (s : ByteArray) (k : Nat) : List UInt8 := s.data.toList ++ List.replicate k 0
theorem zend_zero (s : ByteArray) : zend s 0 = s.data.toList := by simp [zend]
theorem zend_succ (s : ByteArray) (k : Nat) : zend s (k + 1) = zend s k ++ [0] := by simp [zend, List.replicate_succ']
def padB (s : ByteArray) (n : Int) : ByteArray := if 100000 < n then ⟨#[]⟩ else ⟨(zend s (n.toNat - s.size)).toArray⟩
theorem padB_big (s : ByteArray) (n : Int) (h : 100000 < n) : padB s n = ⟨#[]⟩ := by rw [padB, if_pos h]
theorem padB_at (s : ByteArray) (n : Int) (k : Nat) (h : ¬ 100000 < n) (hk : k = n.toNat - s.size) : padB s n = ⟨(zend s k).toArray⟩ := by rw [padB, if_neg h, hk]
theorem padB_id (s : ByteArray) (n : Int) (h : ¬ 100000 < n) (hk : n <= s.size) : padB s n = s := by
 rw [padB_at s n 0 h (by omega), zend_zero]
theorem own_step {w' : World} {base : Nat} {E : TypeId} {v : Value} {s : ByteArray} {k : Nat} (h : OwnG w' base E v (s.size + k + 1) (cellsB (zend s k) ++ [.int .u8 0])) : OwnG w' base E v (s.size + (k + 1)) (cellsB (zend s (k + 1))) := by
 rw [zend_succ, cellsB_append]
 exact h
set_option maxRecDepth 100000 in
set_option maxHeartbeats 400000 in
theorem spec_any (s : ByteArray) (n : Int) (w : World) (hs : s.size <= 1048576) :
  Calls Tryz.prog 149 #[.string s, .int .i64 n] w fun e w' => e = .returned (.string (padB s n)) /\ Below w.heap.size w w' := by
 by_cases hn : 100000 < n
 ·rw [padB_big s n hn]
  go_enter Tryz.func149, Tryz.ntmps149
  go_wp2
  go_ret
  exact ⟨rfl, Below.refl _ _⟩
 ·obtain ⟨i0, hi, hz0, hz1, hz2⟩ := info_parts byteInfo
  have hkc := Lib.run_convert_string_bytes (P := Tryz.prog) w 9 118 5 s Tryz.underlying9 Tryz.underlying118 Tryz.underlying5
  have hby := bytes_own w 5 s (by unfold maxLen; omega)
  go_enter Tryz.func149, Tryz.ntmps149
  go_wp2_with fail
  generalize Lib.bytesWorld w 5 s = w1 at hby ⊢
  obtain ⟨hown, hb⟩ := hby
  have HOWN := Lib.hid hown
  have HB := Lib.hid hb
  clear hown hb hkc
  go_loopw [5] (fun v wr => ∃ k : Nat, k <= n.toNat - s.size /\ OwnG wr w.heap.size 5 v (s.size + k) (cellsB (zend s k)) /\ Below w.heap.size w wr) (fun v _ => n.toNat - (match v with | .slice _ l _ => l | _ => 0))
  case atStart => exact ⟨0, by omega, by rw [zend_zero]; exact HOWN.out, HB.out⟩
  case round =>
   clear HOWN HB
   obtain ⟨k, hk, hown, hb⟩ := hrel
   obtain ⟨g, cap, rfl, hg, hlt⟩ := hown.slice
   have HOWN := Lib.hid hown
   have HB := Lib.hid hb
   have hsz := hb.size
   clear hown hb
   by_cases hlt : k < n.toNat - s.size
   ·have h1 : ((s.size + k : Nat) : Int) < n := by omega
    go_wp2_with (first | (at_builtin; refine wpList_append_one _ rfl _ _ 118 rfl w.heap.size 5 i0 (.int .u8 0) 1 Tryz.underlying118 hi hz0 hz1 hz2 rfl _ _ _ rfl (HOWN.out.alloc _) ⟨wr.heap.size, 0, none⟩ 1 (.int .u8 0) rfl ?c1 ?c2 ?c3 ?c4 ?c5 ?_))
    case c1 => exact cell_one_new _ _ _
    case c2 => simp [Value.oneCell']
    case c3 => unfold maxLen; omega
    case c4 => omega
    case c5 => simp; omega
    intro v' w1 hown1 hg1
    have HOWN1 := Lib.hid (own_step hown1)
    have HB1 := Lib.hid ((HB.out.alloc hsz _).grown hg1 (by simp; omega) (fun k hk => (HOWN.out.lt k hk).1))
    obtain ⟨g', cap', rfl, _, _⟩ := hown1.slice
    clear hown1 hg1
    go_wp2_with fail
    go_roundw
    case rel => exact ⟨k + 1, by omega, HOWN1.out, HB1.out⟩
    case measure => simp only []; omega
   ·obtain rfl : k = n.toNat - s.size := by omega
    have hbk := back HOWN.out
    have h1 : n <= ((s.size + (n.toNat - s.size) : Nat) : Int) := by omega
    go_wp2_with fail
    go_ret
    exact ⟨ret_str (padB_at s n _ (by omega) rfl).symm, HB.out⟩
end Go.Proofs.YthppbcnejapbiaaGreatDoor.PadTo

-- YthppbcnejapbiaaGreatDoorFsZr
/- A part. -/
namespace Go.Proofs.YthppbcnejapbiaaGreatDoor.FsZr
open InoV (I okI usedV hasB needV)
open FsV FsX FsY FsZ FsZw
set_option linter.unusedVariables false
theorem get_Z (m j : Nat) : (Z m)[j]? = if j < m then some 0 else none := by
 rw [Z, List.getElem?_replicate]
theorem beyond_zero {f : F} {i : Nat} (g : GoodF f i) {j : Nat} (h1 : (ino f i).size <= j) (h2 : j < 256) : (content f.data (ino f i).blocks)[j]? = some 0 := by
 have hsz := g.size
 have e : j = 32 * (j / 32) + j % 32 := by omega
 rw [e, content_at g.dsz g.dlen g.inr hsz.2.2.2 (j / 32) (by omega) (j % 32) (by omega)]
 by_cases hh : (ino f i).blocks.getD (j / 32) (-1) = -1
 ·rw [hh, one, if_pos rfl, get_Z, if_pos (by omega)]
 ·obtain ⟨hlt, eb⟩ := getD_hit hh
  have hneed : j / 32 + 1 = (ino f i).blocks.length := by
   have h3 := hsz.2.2.1
   unfold needV at h3
   split at h3
   ·omega
   ·omega
  have hz := ((else_iff f).1 (ok_parts g.ok).2.2.2.2).2 _ g.mem
  unfold beyond at hz
  have hgd : (ino f i).blocks.getD ((ino f i).blocks.length - 1) 0 = (ino f i).blocks.getD (j / 32) (-1) := by
   rw [show (ino f i).blocks.length - 1 = j / 32 from by omega, getD_at hlt, eb]
  rw [if_neg (by omega), hgd, if_neg hh] at hz
  have hs := g.dsz (dat f.data ((ino f i).blocks.getD (j / 32) (-1))) (mem_getD (by
   have := (own_facts g.ok).2 _ (g.used (used_at hh))
   rw [g.dlen]; omega))
  rw [one, if_neg hh]
  have hlen : (dat f.data ((ino f i).blocks.getD (j / 32) (-1))).data.toList.length = 32 := by simpa using hs
  unfold zB at hz
  rw [List.all_eq_true] at hz
  have hm : (dat f.data ((ino f i).blocks.getD (j / 32) (-1))).data.toList[j % 32]'(by omega) ∈ ((dat f.data ((ino f i).blocks.getD (j / 32) (-1))).extract ((ino f i).size - (((ino f i).blocks.length : Int) - 1) * 32).toNat 32).data.toList := by
   rw [ByteArray.data_extract, Array.toList_extract, List.extract_eq_take_drop, List.mem_iff_getElem]
   refine ⟨j % 32 - ((ino f i).size - (((ino f i).blocks.length : Int) - 1) * 32).toNat, ?_, ?_⟩
   ·rw [List.length_take, List.length_drop, hlen]; omega
   ·rw [List.getElem_take, List.getElem_drop]
    congr 1
    omega
  have := hz _ hm
  rw [List.getElem?_eq_getElem (by omega)]
  simpa using this
theorem take_Z_at {c : List UInt8} {z j : Nat} (hc : c.length = 256) (hz : z <= 256) (hj : j < 256) : (c.take z ++ Z (256 - z))[j]? = if j < z then c[j]? else some 0 := by
 have h1 : (c.take z).length = z := by rw [List.length_take]; omega
 by_cases h : j < z
 ·rw [if_pos h, List.getElem?_append_left (by omega), List.getElem?_take, if_pos h]
 ·rw [if_neg h, List.getElem?_append_right (by omega), get_Z, if_pos (by omega)]
theorem holes_getD {bs : List Int} {m t : Nat} (h : t < m) (h' : t < (holes bs m).length) : (holes bs m)[t] = bs.getD t (-1) := by
 have := holes_at bs m t h
 rw [List.getElem?_eq_getElem h'] at this
 simpa using this
theorem holes_inr {bs : List Int} {m : Nat} (h : Inr bs) : Inr (holes bs m) := fun b hb => by
 obtain ⟨t, ht, rfl⟩ := List.mem_iff_getElem.1 hb
 rw [holes_getD (by rw [holes_len] at ht; exact ht)]
 by_cases e : bs.getD t (-1) = -1
 ·exact .inl e
 ·obtain ⟨h', e2⟩ := getD_hit e
  rw [<- e2]; exact h _ (List.getElem_mem h')
theorem holes_dis {bs : List Int} {m : Nat} (h : Dis bs) : Dis (holes bs m) := by
 rw [dis_iff]
 intro t t' ht ht' hlt hne e
 rw [holes_len] at ht ht'
 rw [holes_getD ht] at hne e
 rw [holes_getD ht'] at e
 obtain ⟨q, qe⟩ := getD_hit hne
 rw [e] at hne
 obtain ⟨q', qe'⟩ := getD_hit hne
 exact dis_iff.1 h t t' q q' hlt (by rw [qe, e]; exact hne) (by rw [qe, qe', e])
end Go.Proofs.YthppbcnejapbiaaGreatDoor.FsZr

-- YthppbcnejapbiaaGreatDoorCoC
/- A part. -/
namespace Go.Proofs.YthppbcnejapbiaaGreatDoor.CoC
open Go.ChangeShapes Go.WideShapes Go.ChangeAt Go.RowKit
open Foot Bx
open InoV (I)
open FsV (F okF e0)
open FsY FsZ
open FoB CoN
open Dk (ret_bool)
open RowG (cellsB cellsB_length)
set_option linter.unusedVariables false
theorem step_copy_own {P : Program} {ops : Array Oper} {o : Oper} {a : Act} {w : World} {K : Act -> World -> Prop} {Q : Exit -> Act -> World -> Prop} {E : Prop}
  (hg : o.guard = none) (d x : Operand) (dT sT : TypeId) (hop : o.op = Op.call { callee := Callee.builtin Builtin.copy, args := #[d, x], argTypes := #[dT, sT] })
  (v u : Value) (hd : a.eval d = v) (hx : a.eval x = u) {v' : Value} {w' : World} (hr : (Builtin.copy_ #[dT, sT] o.type #[v, u]).run P w = .ok v' w') (hK : K (a.put o.dst v') w') :
  if Region.wanted o (yielded ops a.tmps) = true then Oper.wp P o a w K Q else E := by
 have hw : Region.wanted o (yielded ops a.tmps) = true := by simp [Region.wanted, hg]
 rw [if_pos hw]
 unfold Oper.wp
 simp [execOp, hop, resolve, invoke, builtin, hd, hx, hr, Result.andThen]
 exact hK
def upTo (d : List ByteArray) (bs : List Int) (j : Nat) : List UInt8 := cont d (bs.take j) ++ Z (256 - 32 * j)
theorem upTo_zero (d : List ByteArray) (bs : List Int) : upTo d bs 0 = Z 256 := by simp [upTo, cont]
theorem upTo_end {d : List ByteArray} {bs : List Int} {j : Nat} (h : j = bs.length) : upTo d bs j = content d bs := by rw [upTo, h, List.take_length, content]
theorem Z_split {a b c : Nat} (h : a = b + c) : Z a = Z b ++ Z c := by rw [Z, Z, Z, h, List.replicate_append_replicate]
theorem cont_take {d : List ByteArray} {bs : List Int} {j : Nat} (h : j < bs.length) : cont d (bs.take (j + 1)) = cont d (bs.take j) ++ one d (bs.getD j 0) := by
 rw [List.take_succ_eq_append_getElem h, cont, List.flatMap_append, getD_at h]; simp [cont]
structure Ok8 (d : List ByteArray) (bs : List Int) : Prop where
 sz : ∀ s ∈ d, s.size = 32
 len : d.length = 56
 inr : Inr bs
 eight : bs.length <= 8
theorem Ok8.tk {d : List ByteArray} {bs : List Int} (h : Ok8 d bs) (j : Nat) (hj : j <= bs.length) : (cont d (bs.take j)).length = 32 * j := by
 rw [(cont_at d (bs.take j) h.sz h.len (fun b hb => h.inr b (List.mem_of_mem_take hb))).1, List.length_take]; omega
theorem Ok8.up {d : List ByteArray} {bs : List Int} (h : Ok8 d bs) (j : Nat) (hj : j <= bs.length) : (upTo d bs j).length = 256 := by
 have := h.eight
 rw [upTo, List.length_append, h.tk j hj, Z_len]; omega
theorem upTo_hole {d : List ByteArray} {bs : List Int} (h : Ok8 d bs) {j : Nat} (hj : j < bs.length) (hb : bs.getD j 0 = -1) : upTo d bs (j + 1) = upTo d bs j := by
 have := h.eight
 rw [upTo, upTo, cont_take hj, one, if_pos hb, List.append_assoc, <- Z_split (show 256 - 32 * j = 32 + (256 - 32 * (j + 1)) by omega)]
theorem upTo_block {d : List ByteArray} {bs : List Int} (h : Ok8 d bs) {j : Nat} (hj : j < bs.length) (hb : bs.getD j 0 ≠ -1) : splice (upTo d bs j) (j * 32) (dat d (bs.getD j 0)).data.toList = upTo d bs (j + 1) := by
 have h8 := h.eight
 have ht := h.tk j (Nat.le_of_lt hj)
 have hi := h.inr _ (FsV.mem_getD (z := 0) hj)
 have hs : (dat d (bs.getD j 0)).data.toList.length = 32 := by
  have := h.sz (dat d (bs.getD j 0)) (FsV.mem_getD (by rw [h.len]; omega))
  simpa using this
 rw [splice, hs, upTo, List.take_append_of_le_length (by omega), List.take_of_length_le (by omega), List.drop_append, List.drop_eq_nil_of_le (by omega), List.nil_append, upTo, cont_take hj, one, if_neg hb]
 congr 1
 rw [Z, List.drop_replicate, Z]
 congr 1
 omega
theorem ok8_of {f : F} {i : Nat} (g : GoodF f i) : Ok8 f.data (ino f i).blocks := ⟨g.dsz, g.dlen, g.inr, g.size.2.2.2⟩
set_option maxRecDepth 100000 in
set_option maxHeartbeats 6400000 in
theorem content_impl (w : World) (v : Value) (f : F) (i : Nat) (hi : i < 20) (hok : okF f = true) (h : FsF.Holds w v f) :
  Calls Tryz.prog 96 #[v, .int .i64 i] w fun e w' => e = .returned (.slice (some ⟨w.heap.size + 1, 0, none⟩) 256 256) /\ Bk w' (w.heap.size + 1) (cellsB (content f.data (ino f i).blocks)).toArray 5 /\ Below w.heap.size w w' := by
 have HG := Lib.hid (show GoodF f i from ⟨hok, hi⟩)
 have H8 := Lib.hid (ok8_of HG.out)
 obtain ⟨r0, r1, r2, rfl, g0, g1, g2⟩ := h
 have hM20 : f.inodes.length = 20 := (FsV.parts_of (FsV.ok_parts hok).2.1).2.1
 have hD56 : f.data.length = 56 := (FsV.parts_of (FsV.ok_parts hok).2.1).2.2.1
 obtain ⟨qa, qc, rfl⟩ := QF.form g0
 obtain ⟨ia, ic, rfl, l9, hat⟩ := g1
 obtain ⟨da, dc, rfl, hD⟩ := g2
 obtain ⟨bi, oi, rfl, hbi, r0, r1, r2, hCl, hP⟩ := hat i (by omega)
 have hc7 := hCl.2.2.2.2.2.2.2.1
 rw [show f.inodes.getD i IF.z0 = ino f i from rfl] at hP
 obtain ⟨a0, d0, rfl, _, hBL⟩ := hP.1
 obtain ⟨bd, od, rfl, hbd, hDat⟩ := hD (by intro e; rw [e] at hD56; simp at hD56)
 have HDat := Lib.hid hDat
 have HBL := Lib.hid hBL
 obtain ⟨T, hT⟩ : ∃ T, T = f.tick := ⟨_, rfl⟩
 obtain ⟨Q, hQ⟩ : ∃ Q, Q = f.quotas.length := ⟨_, rfl⟩
 rw [hM20, hD56, <- hT, <- hQ]
 clear g0 hat hD hCl hP hDat hBL l9 hM20 hD56 hok hT hQ
 obtain ⟨bs, hbs⟩ : ∃ bs, bs = (ino f i).blocks := ⟨_, rfl⟩
 rw [<- hbs] at H8 HBL hc7 ⊢
 have HBS := Lib.hid hbs
 clear hbs
 obtain ⟨L, hL⟩ : ∃ L, L = bs.length := ⟨_, rfl⟩
 rw [<- hL] at hc7 HBL
 have hL8 : L <= 8 := by rw [hL]; exact H8.out.eight
 have HL := Lib.hid hL
 have HC7 := Lib.hid hc7
 have HHI := Lib.hid hbi
 have HHD := Lib.hid hbd
 clear hL hc7 hbi hbd
 have HMK : ∀ W : World, (Instr.makeSlice 118 (.int .i64 256) (.int .i64 256)).run Tryz.prog W = .ok (.slice (some ⟨W.heap.size, 0, none⟩) 256 256) (W.alloc (.cells (cellsB (Z 256)).toArray 5)) := make_run
 obtain ⟨C0, hC0⟩ : ∃ C, C = (cellsB (Z 256)).toArray := ⟨_, rfl⟩
 rw [<- hC0] at HMK
 have HC0 := Lib.hid hC0
 clear hC0
 have HB0 := Lib.hid (((Below.refl w.heap.size w).alloc (Nat.le_refl _) (.cells #[.int .i64 T, .slice qa Q qc, .slice (some ⟨bi, oi, none⟩) 20 ic, .slice (some ⟨bd, od, none⟩) 56 dc] 33)).alloc (by simp) (.cells C0 5))
 have HX0 := Lib.hid ((new w #[.int .i64 T, .slice qa Q qc, .slice (some ⟨bi, oi, none⟩) 20 ic, .slice (some ⟨bd, od, none⟩) 56 dc] 33).alloc (.cells C0 5))
 have HY0 := Lib.hid (new_at (w.alloc (.cells #[.int .i64 T, .slice qa Q qc, .slice (some ⟨bi, oi, none⟩) 20 ic, .slice (some ⟨bd, od, none⟩) 56 dc] 33)) C0 5 (w.heap.size + 1) (by simp))
 have hi0 : (0 : Int) <= i := by omega
 have hi1 : (i : Int) < 20 := by omega
 have c7 := HB0.out.cell (p := ⟨bi, oi + i * 10 + 7, none⟩) HHI.out
 rw [HC7.out] at c7
 go_enter Tryz.func96, Tryz.ntmps96
 go_wp2
 clear c7 HMK
 generalize (w.alloc (.cells #[.int .i64 T, .slice qa Q qc, .slice (some ⟨bi, oi, none⟩) 20 ic, .slice (some ⟨bd, od, none⟩) 56 dc] 33)).alloc (.cells C0 5) = w0 at *
 go_loopw [16] (fun jv wr => ∃ j : Nat, j <= L /\ jv = .int .i64 j /\ Bk wr (w.heap.size + 1) (cellsB (upTo f.data bs j)).toArray 5 /\ Bk wr w.heap.size #[.int .i64 T, .slice qa Q qc, .slice (some ⟨bi, oi, none⟩) 20 ic, .slice (some ⟨bd, od, none⟩) 56 dc] 33 /\ Below w.heap.size w wr) (fun jv _ => L - (intOf jv).toNat)
 case atStart => exact ⟨0, Nat.zero_le _, rfl, by rw [upTo_zero, <- HC0.out]; exact HY0.out, HX0.out, HB0.out⟩
 case round =>
  obtain ⟨j, hj, rfl, hy, hx, hb⟩ := hrel
  have HY := Lib.hid hy
  have HX := Lib.hid hx
  have HB := Lib.hid hb
  have hsz := hb.size
  clear hy hx hb HB0 HX0 HY0
  by_cases hlt : j < L
  ·have hjl : j < bs.length := by rw [<- HL.out]; exact hlt
   obtain ⟨bb, ob, rfl, hbb, hcb⟩ := HBL.out j hlt
   have cb := HB.out.cell (p := ⟨bb, ob + j, none⟩) hbb
   rw [hcb] at cb
   have hir := H8.out.inr _ (FsV.mem_getD (z := 0) hjl)
   have HHO := Lib.hid (fun h => upTo_hole H8.out hjl h)
   have HBO := Lib.hid (fun h => upTo_block H8.out hjl h)
   have HUL := Lib.hid (H8.out.up j (Nat.le_of_lt hjl))
   have hj8 : j < 8 := by omega
   clear hcb hbb
   generalize bs.getD j 0 = b at cb hir HHO HBO
   by_cases hm : b = -1
   ·subst hm
    have HN := Lib.hid (HHO.out rfl)
    go_wp2_with fail
    refine (block_impl (-1) _).mono ?_
    rintro e w1 ⟨rfl, rfl⟩
    rw [show isBlock (-1) = false from rfl]
    go_wp2
    go_roundw
    case rel => exact ⟨j + 1, by omega, by go_num, by rw [HN.out]; exact HY.out, HX.out, HB.out⟩
    case measure => simp [intOf]; omega
   ·obtain ⟨k, rfl⟩ : ∃ k : Nat, b = k := ⟨b.toNat, by omega⟩
    have hk : k < 56 := by omega
    have HN := Lib.hid (HBO.out hm)
    have hcd := HDat.out k (by rw [HG.out.dlen]; exact hk)
    have hsz32 : (f.data.getD k e0).size = 32 := HG.out.dsz _ (FsV.mem_getD (by rw [HG.out.dlen]; exact hk))
    have cd := HB.out.cell (p := ⟨bd, od + k, none⟩) HHD.out
    rw [hcd] at cd
    rw [show (⟨#[]⟩ : ByteArray) = e0 from rfl] at cd
    rw [show dat f.data ((k : Nat) : Int) = f.data.getD k e0 from rfl] at HN
    have HSZ := Lib.hid hsz32
    have hib : isBlock ((k : Nat) : Int) = true := by unfold isBlock; simp
    have HIB := Lib.hid hib
    clear hcd hsz32 hm hir HHO HBO hib
    generalize f.data.getD k e0 = s at cd HN HSZ
    obtain ⟨x0, x1, x2, x3⟩ := Bk.c4 HX.out
    have hk0 : (0 : Int) <= k := by omega
    have hk1 : (k : Int) < 56 := by omega
    go_wp2_with fail
    refine (block_impl ((k : Nat) : Int) _).mono ?_
    rintro e w1 ⟨rfl, rfl⟩
    rw [HIB.out]
    go_wp2
    go_region_law (first
     | (go_simp; go_at_call 145; ((with_reducible refine (blockIn_impl (w.heap.size + 1) j hj8 _).mono ?_)); rintro e w5 ⟨rfl, rfl⟩)
     | (refine step_copy_own rfl (.tmp 25) (.tmp 30) 118 9 rfl _ _ rfl rfl (copy_run _ (w.heap.size + 1) (j * 32) 32 32 s (upTo f.data bs j) _ (Bk.drew HY.out) (by rw [HSZ.out]; exact Nat.le_refl _) (by rw [HSZ.out, HUL.out]; omega)) ?_))
    all_goals
     rw [HN.out]
     have hY9 := row_set (Bk.drew HY.out) (cs' := (cellsB (upTo f.data bs (j + 1))).toArray)
     have hC9 := row_chg wr.drew (w.heap.size + 1) (cellsB (upTo f.data bs (j + 1))).toArray
     have hX9 := FoB.Bk.chg (Bk.drew HX.out) hC9 (by simp)
     have hB9 := HB.out.drew.trans (FoB.Chg.from hC9 hsz (Nat.le_succ _))
     generalize wr.drew.setRow (w.heap.size + 1) (cellsB (upTo f.data bs (j + 1))).toArray = w9 at hY9 hX9 hB9 ⊢
     have HZ := Lib.hid (And.intro hY9 (And.intro hX9 hB9))
     clear hY9 hX9 hB9 hC9 cd cb x0 x1 x2 x3
     go_wp2
     go_roundw
     case rel => exact ⟨j + 1, by omega, by go_num, HZ.out⟩
     case measure => simp [intOf]; omega
  ·obtain rfl : j = L := by omega
   go_wp2
   go_ret
   exact ⟨rfl, by rw [<- upTo_end HL.out]; exact HY.out, HB.out⟩
end Go.Proofs.YthppbcnejapbiaaGreatDoor.CoC
