/- Contracts: the program's hasObject, blockIn, isHole, isBlock; facts on a row of bytes that the call owns: a block of it, what a copy of a string and a clearing leave. Conditions: as each theorem types them. -/
import Derived.Test.YtafmpllkehbmeaaGreatDoorFsE
import Derived.Test.YtafmpllkehbmeaaGreatDoorFoB
import Derived.Lib.BufferWrite
import Derived.Lib.SliceRun
import Derived.Shelf.Spec.SlicesInsert
namespace Go.Proofs.YtafmpllkehbmeaaGreatDoor.CoN
open Go.ChangeShapes Go.WideShapes Go.ChangeAt Go.RowKit
open Foot Bx
open InoV (I)
open FsV (F okF e0)
open FsY
open Dk (ret_bool)
open RowG (cellsB cellsB_length)
set_option linter.unusedVariables false

theorem cellsB_splice (c : List UInt8) (a : Nat) (s : ByteArray) : (((cellsB c).toArray).toList.take a ++ Lib.byteCells s.data.toList ++ ((cellsB c).toArray).toList.drop (a + s.size)).toArray = (cellsB (splice c a s.data.toList)).toArray := by
  have h : s.data.toList.length = s.size := by simp
  rw [splice, RowG.cellsB_append, RowG.cellsB_append, h]
  simp [cellsB, List.map_take, List.map_drop, Lib.byteCells]
/-- The run of 'copy(content[a:..], s)'. -/
theorem copy_run (w : World) (g a n cap : Nat) (s : ByteArray) (c : List UInt8) (ty : TypeId) (hg : Bk w g (cellsB c).toArray 5) (hle : s.size ≤ n) (hfit : a + s.size ≤ c.length) :
    (Builtin.copy_ #[22, 9] ty #[.slice (some ⟨g, a, none⟩) n cap, .string s]).run Tryz.prog w = .ok (goInt s.size) (w.setRow g (cellsB (splice c a s.data.toList)).toArray) := by
  obtain ⟨i0, hi, hz0, hz1, hz2⟩ := info_parts RowG.byteInfo
  rw [Lib.run_copy_row_string w 22 9 ty 5 g a n cap s (cellsB c).toArray 5 Tryz.underlying22 (by rw [hi]; simp [hz1]) hg hle (by simpa [cellsB_length] using hfit), cellsB_splice]
theorem row_set {w : World} {g : Nat} {cs cs' : Array Value} {t : TypeId} (h : Bk w g cs t) : Bk (w.setRow g cs') g cs' t := setRow_heap w g cs cs' t (0, 0) h
theorem row_chg (w : World) (g : Nat) (cs : Array Value) : Chg w (w.setRow g cs) [g] := ⟨rfl, rfl, rfl, by simp [World.setRow], fun k _ hk => setRow_other w g k cs (fun e => hk (by simp [e]))⟩
theorem byte_at {w : World} {g : Nat} {c : List UInt8} (h : Bk w g (cellsB c).toArray 5) (j : Nat) (hj : j < c.length) : w.cell? ⟨g, j, none⟩ = some (.int .u8 (c[j].toNat : Int)) := by
  rw [h.cell]; simp [cellsB, List.getElem?_eq_getElem hj]
/-- 'string(content[a:a+n])'. -/
theorem back_run {w : World} {g a n cap : Nat} {c : List UInt8} (h : Bk w g (cellsB c).toArray 5) (hn : a + n ≤ c.length) :
    Sem.run Tryz.prog (convert 22 9 (.slice (some ⟨g, a, none⟩) n cap)) w = .ok (.string ⟨((c.drop a).take n).toArray⟩) w := by
  have hl : ((c.drop a).take n).length = n := by rw [List.length_take, List.length_drop]; omega
  have := run_convert_bytes_back w 22 9 5 ⟨g, a, none⟩ cap ((c.drop a).take n) Tryz.underlying22 Tryz.underlying5 Tryz.underlying9 (fun j hj => by
    rw [hl] at hj
    rw [Addr.add_lit, byte_at h (a + j) (by omega)]
    simp [List.getElem_take, List.getElem_drop])
  rwa [hl] at this
theorem zero_row : (cellsB (Z 256)).toArray = madeCells #[.int .u8 0] 256 := by kernel_rfl
theorem make_run (W : World) : (Instr.makeSlice 22 (.int .i64 256) (.int .i64 256)).run Tryz.prog W = .ok (.slice (some ⟨W.heap.size, 0, none⟩) 256 256) (W.alloc (.cells (cellsB (Z 256)).toArray 5)) := by
  obtain ⟨i0, hi, hz0, hz1, hz2⟩ := info_parts RowG.byteInfo
  have := run_make (P := Tryz.prog) W 22 5 i0 _ Tryz.underlying22 hi hz0 .i64 .i64 256 256 (by decide) (by decide) (by rw [hz2]; decide) (by decide)
  rw [hz1] at this
  rw [zero_row]
  exact this

set_option maxRecDepth 100000 in
set_option maxHeartbeats 1600000 in
theorem block_impl (b : Int) (w : World) : Calls Tryz.prog 78 #[.int .i64 b] w fun e w' => e = .returned (.bool (isBlock b)) ∧ w = w' := by
  go_enter Tryz.func78, Tryz.ntmps78
  go_wp2
  go_ret
  exact ⟨ret_bool (by unfold isBlock; rfl), rfl⟩
set_option maxRecDepth 100000 in
set_option maxHeartbeats 1600000 in
theorem blockIn_impl (g k : Nat) (hk : k < 8) (w : World) : Calls Tryz.prog 130 #[.slice (some ⟨g, 0, none⟩) 256 256, .int .i64 k] w fun e w' => e = .returned (.slice (some ⟨g, k * 32, none⟩) 32 32) ∧ w = w' := by
  have hk0 : (0 : Int) ≤ k := by omega
  have hk1 : (k : Int) < 8 := by omega
  go_enter Tryz.func130, Tryz.ntmps130
  go_wp2
  go_ret
  refine ⟨?_, rfl⟩
  show Ending.returned (Value.slice (some ⟨g, k * 32, none⟩) ((k + 1) * 32 - k * 32) ((k + 1) * 32 - k * 32)) = _
  rw [show (k + 1) * 32 - k * 32 = 32 from by omega]

set_option maxRecDepth 100000 in
set_option maxHeartbeats 1600000 in
theorem has_impl (w : World) (v : Value) (f : F) (i : Int) (hc : FsF.cost f ≤ 1073741824) (hl : FsF.Lim f) (hv : InOk.Vars w) (h : FsF.Holds w v f) :
    Calls Tryz.prog 72 #[v, .int .i64 i] w fun e w' => e = .returned (.bool (hasObjB f i)) ∧ Below w.heap.size w w' := by
  have HFS := Lib.hid h
  have HCC := Lib.hid hc
  have HLM := Lib.hid hl
  have HV := Lib.hid hv
  obtain ⟨r0, r1, r2, rfl, g0, g1, g2⟩ := h
  have HI1 := Lib.hid g1
  obtain ⟨qa, qc, rfl⟩ := QF.form g0
  obtain ⟨ia, ic, rfl⟩ := IF.form g1
  obtain ⟨da, dc, rfl⟩ := SF.form g2
  clear g0 g1 g2 hc hl hv
  obtain ⟨T, hT⟩ : ∃ T, T = f.tick := ⟨_, rfl⟩
  obtain ⟨Q, hQ⟩ : ∃ Q, Q = f.quotas.length := ⟨_, rfl⟩
  obtain ⟨M, hM⟩ : ∃ M, M = f.inodes.length := ⟨_, rfl⟩
  obtain ⟨D, hD⟩ : ∃ D, D = f.data.length := ⟨_, rfl⟩
  rw [← hT, ← hQ, ← hM, ← hD] at HFS ⊢
  rw [← hM] at HI1
  have HM := Lib.hid hM
  clear hT hQ hM hD
  have HB0 := Lib.hid ((Below.refl w.heap.size w).alloc (Nat.le_refl _) (.cells #[.int .i64 T, .slice qa Q qc, .slice ia M ic, .slice da D dc] 27))
  have HX0 := Lib.hid (new w #[.int .i64 T, .slice qa Q qc, .slice ia M ic, .slice da D dc] 27)
  by_cases hA : 0 ≤ i
  · by_cases hB : i ≤ 19
    · obtain ⟨k, rfl⟩ : ∃ k : Nat, i = k := ⟨i.toNat, by omega⟩
      have hk : k < 20 := by omega
      have q0 : decide ((0 : Int) ≤ k) = true := decide_eq_true hA
      have q1 : decide ((k : Int) < 20) = true := decide_eq_true (by omega)
      have HVV := Lib.hid (show hasObjB f k = (okF f && !decide ((ino f k).kind = 0)) from by unfold hasObjB; rw [decide_eq_true hA, decide_eq_true hB]; rfl)
      clear hA hB
      obtain ⟨C, hC⟩ : ∃ C, C = okF f := ⟨_, rfl⟩
      have HIS := Lib.hid (fun W v (hw : InOk.Vars W) (hF : FsF.Holds W v f) => show Calls Tryz.prog 23 #[v] W fun e w' => e = .returned (.bool C) ∧ Below W.heap.size W w' from by rw [hC]; exact FsE.is_impl W v f HCC.out HLM.out hw hF)
      have HCE := Lib.hid hC
      cases C
      · have HF := Lib.hid (show hasObjB f k = false from by rw [HVV.out, ← hC]; rfl)
        clear hC
        go_enter Tryz.func72, Tryz.ntmps72
        go_wp2_with fail
        refine (HIS.out _ _ (HV.out.all HB0.out) (FsF.holds_below HFS.out HB0.out)).mono ?_
        rintro e w1 ⟨rfl, hb⟩
        have HB1 := Lib.hid (HB0.out.trans (hb.mono HB0.out.size))
        clear hb
        go_wp2
        go_ret
        exact ⟨ret_bool HF.out.symm, HB1.out⟩
      · have hM20 : M = 20 := by rw [HM.out]; exact (FsV.parts_of (FsV.ok_parts hC.symm).2.1).2.1
        clear hC
        subst hM20
        obtain ⟨a9, c9, e9, l9, hat⟩ := HI1.out
        rw [Value.slice.injEq] at e9
        obtain ⟨rfl, e8, rfl⟩ := e9
        clear e8 l9
        obtain ⟨b, o, rfl, hb, r0, r1, r2, hCl, hP⟩ := hat k (by rw [← HM.out]; exact hk)
        have hc0 := hCl.1
        rw [show f.inodes.getD k IF.z0 = ino f k from rfl] at hc0
        have HHB := Lib.hid hb
        clear hat hCl hP hb
        obtain ⟨K, hK⟩ : ∃ K, K = (ino f k).kind := ⟨_, rfl⟩
        rw [← hK] at hc0 HVV
        clear hK
        have HC0 := Lib.hid hc0
        clear hc0
        go_enter Tryz.func72, Tryz.ntmps72
        go_wp2_with fail
        refine (HIS.out _ _ (HV.out.all HB0.out) (FsF.holds_below HFS.out HB0.out)).mono ?_
        rintro e w1 ⟨rfl, hb⟩
        have HB1 := Lib.hid (HB0.out.trans (hb.mono HB0.out.size))
        have HX1 := Lib.hid (HX0.out.all hb)
        clear hb
        obtain ⟨x0, x1, x2, x3⟩ := Bk.c4 HX1.out
        have c0 := HB1.out.cell (p := ⟨b, o + k * 10, none⟩) HHB.out
        rw [HC0.out] at c0
        by_cases hz : K = 0
        · have HF := Lib.hid (show hasObjB f k = false from by rw [HVV.out, ← HCE.out, decide_eq_true hz]; rfl)
          subst hz
          go_wp2
          go_ret
          exact ⟨ret_bool HF.out.symm, HB1.out⟩
        · have HF := Lib.hid (show hasObjB f k = true from by rw [HVV.out, ← HCE.out, decide_eq_false hz]; rfl)
          have z1 : (K != 0) = true := by simpa using hz
          have z2 : (K == 0) = false := by simpa using hz
          clear hz
          go_wp2
          go_ret
          exact ⟨ret_bool HF.out.symm, HB1.out⟩
    · have HF := Lib.hid (show hasObjB f i = false from by unfold hasObjB; rw [decide_eq_false hB, Bool.and_false]; rfl)
      have q0 : decide ((0 : Int) ≤ i) = true := decide_eq_true hA
      have q1 : decide (i < 20) = false := decide_eq_false (by omega)
      clear hA hB
      go_enter Tryz.func72, Tryz.ntmps72
      go_wp2
      go_ret
      exact ⟨ret_bool HF.out.symm, HB0.out⟩
  · have HF := Lib.hid (show hasObjB f i = false from by unfold hasObjB; rw [decide_eq_false hA]; rfl)
    have q0 : decide ((0 : Int) ≤ i) = false := decide_eq_false hA
    clear hA
    go_enter Tryz.func72, Tryz.ntmps72
    go_wp2
    go_ret
    exact ⟨ret_bool HF.out.symm, HB0.out⟩
end Go.Proofs.YtafmpllkehbmeaaGreatDoor.CoN
