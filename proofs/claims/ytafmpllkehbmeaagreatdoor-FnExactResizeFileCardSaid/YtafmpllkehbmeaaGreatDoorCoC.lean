/- Contracts: the program's contentOf and ReadBytes. Conditions: a valid file system, the inode's number. -/
import Derived.Test.YtafmpllkehbmeaaGreatDoorCoN
import Derived.Test.YtafmpllkehbmeaaGreatDoorFsZr
import Derived.Deep.RegionLaw
import Derived.Deep.RegionHeld3
namespace Go.Proofs.YtafmpllkehbmeaaGreatDoor.CoC
open Go.ChangeShapes Go.WideShapes Go.ChangeAt Go.RowKit
open Foot Bx
open InoV (I)
open FsV (F okF e0)
open FsY FsZ
open FoB CoN
open Dk (ret_bool)
open RowG (cellsB cellsB_length)
set_option linter.unusedVariables false

theorem step_copy_own {P : Program} {ops : Array Oper} {o : Oper} {a : Act} {w : World} {K : Act → World → Prop} {Q : Exit → Act → World → Prop} {E : Prop}
    (hg : o.guard = none) (d x : Operand) (dT sT : TypeId) (hop : o.op = Op.call { callee := Callee.builtin Builtin.copy, args := #[d, x], argTypes := #[dT, sT] })
    (v u : Value) (hd : a.eval d = v) (hx : a.eval x = u) {v' : Value} {w' : World} (hr : (Builtin.copy_ #[dT, sT] o.type #[v, u]).run P w = .ok v' w') (hK : K (a.put o.dst v') w') :
    if Region.wanted o (yielded ops a.tmps) = true then Oper.wp P o a w K Q else E := by
  have hw : Region.wanted o (yielded ops a.tmps) = true := by simp [Region.wanted, hg]
  rw [if_pos hw]
  unfold Oper.wp
  simp [execOp, hop, resolve, invoke, builtin, hd, hx, hr, Result.andThen]
  exact hK
/-- The content, told up to block j. -/
def upTo (d : List ByteArray) (bs : List Int) (j : Nat) : List UInt8 := cont d (bs.take j) ++ Z (256 - 32 * j)
theorem upTo_zero (d : List ByteArray) (bs : List Int) : upTo d bs 0 = Z 256 := by simp [upTo, cont]
theorem upTo_end {d : List ByteArray} {bs : List Int} {j : Nat} (h : j = bs.length) : upTo d bs j = content d bs := by rw [upTo, h, List.take_length, content]
theorem Z_split {a b c : Nat} (h : a = b + c) : Z a = Z b ++ Z c := by rw [Z, Z, Z, h, List.replicate_append_replicate]
theorem cont_take {d : List ByteArray} {bs : List Int} {j : Nat} (h : j < bs.length) : cont d (bs.take (j + 1)) = cont d (bs.take j) ++ one d (bs.getD j 0) := by
  rw [List.take_succ_eq_append_getElem h, cont, List.flatMap_append, getD_at h]; simp [cont]
structure Ok8 (d : List ByteArray) (bs : List Int) : Prop where
  sz : ∀ s ∈ d, s.size = 32
  len : d.length = 56
  inr : Inr bs
  eight : bs.length ≤ 8
theorem Ok8.tk {d : List ByteArray} {bs : List Int} (h : Ok8 d bs) (j : Nat) (hj : j ≤ bs.length) : (cont d (bs.take j)).length = 32 * j := by
  rw [(cont_at d (bs.take j) h.sz h.len (fun b hb => h.inr b (List.mem_of_mem_take hb))).1, List.length_take]; omega
theorem Ok8.up {d : List ByteArray} {bs : List Int} (h : Ok8 d bs) (j : Nat) (hj : j ≤ bs.length) : (upTo d bs j).length = 256 := by
  have := h.eight
  rw [upTo, List.length_append, h.tk j hj, Z_len]; omega
theorem upTo_hole {d : List ByteArray} {bs : List Int} (h : Ok8 d bs) {j : Nat} (hj : j < bs.length) (hb : bs.getD j 0 = -1) : upTo d bs (j + 1) = upTo d bs j := by
  have := h.eight
  rw [upTo, upTo, cont_take hj, one, if_pos hb, List.append_assoc, ← Z_split (show 256 - 32 * j = 32 + (256 - 32 * (j + 1)) by omega)]
theorem upTo_block {d : List ByteArray} {bs : List Int} (h : Ok8 d bs) {j : Nat} (hj : j < bs.length) (hb : bs.getD j 0 ≠ -1) : splice (upTo d bs j) (j * 32) (dat d (bs.getD j 0)).data.toList = upTo d bs (j + 1) := by
  have h8 := h.eight
  have ht := h.tk j (Nat.le_of_lt hj)
  have hi := h.inr _ (FsV.mem_getD (z := 0) hj)
  have hs : (dat d (bs.getD j 0)).data.toList.length = 32 := by
    have := h.sz (dat d (bs.getD j 0)) (FsV.mem_getD (by rw [h.len]; omega))
    simpa using this
  rw [splice, hs, upTo, List.take_append_of_le_length (by omega), List.take_of_length_le (by omega), List.drop_append, List.drop_eq_nil_of_le (by omega), List.nil_append, upTo, cont_take hj, one, if_neg hb]
  congr 1
  rw [Z, List.drop_replicate, Z]
  congr 1
  omega
theorem ok8_of {f : F} {i : Nat} (g : GoodF f i) : Ok8 f.data (ino f i).blocks := ⟨g.dsz, g.dlen, g.inr, g.size.2.2.2⟩

set_option maxRecDepth 100000 in
set_option maxHeartbeats 6400000 in
theorem content_impl (w : World) (v : Value) (f : F) (i : Nat) (hi : i < 20) (hok : okF f = true) (h : FsF.Holds w v f) :
    Calls Tryz.prog 65 #[v, .int .i64 i] w fun e w' => e = .returned (.slice (some ⟨w.heap.size + 1, 0, none⟩) 256 256) ∧ Bk w' (w.heap.size + 1) (cellsB (content f.data (ino f i).blocks)).toArray 5 ∧ Below w.heap.size w w' := by
  have HG := Lib.hid (show GoodF f i from ⟨hok, hi⟩)
  have H8 := Lib.hid (ok8_of HG.out)
  obtain ⟨r0, r1, r2, rfl, g0, g1, g2⟩ := h
  have hM20 : f.inodes.length = 20 := (FsV.parts_of (FsV.ok_parts hok).2.1).2.1
  have hD56 : f.data.length = 56 := (FsV.parts_of (FsV.ok_parts hok).2.1).2.2.1
  obtain ⟨qa, qc, rfl⟩ := QF.form g0
  obtain ⟨ia, ic, rfl, l9, hat⟩ := g1
  obtain ⟨da, dc, rfl, hD⟩ := g2
  obtain ⟨bi, oi, rfl, hbi, r0, r1, r2, hCl, hP⟩ := hat i (by omega)
  have hc7 := hCl.2.2.2.2.2.2.2.1
  rw [show f.inodes.getD i IF.z0 = ino f i from rfl] at hP
  obtain ⟨a0, d0, rfl, _, hBL⟩ := hP.1
  obtain ⟨bd, od, rfl, hbd, hDat⟩ := hD (by intro e; rw [e] at hD56; simp at hD56)
  have HDat := Lib.hid hDat
  have HBL := Lib.hid hBL
  obtain ⟨T, hT⟩ : ∃ T, T = f.tick := ⟨_, rfl⟩
  obtain ⟨Q, hQ⟩ : ∃ Q, Q = f.quotas.length := ⟨_, rfl⟩
  rw [hM20, hD56, ← hT, ← hQ]
  clear g0 hat hD hCl hP hDat hBL l9 hM20 hD56 hok hT hQ
  obtain ⟨bs, hbs⟩ : ∃ bs, bs = (ino f i).blocks := ⟨_, rfl⟩
  rw [← hbs] at H8 HBL hc7 ⊢
  have HBS := Lib.hid hbs
  clear hbs
  obtain ⟨L, hL⟩ : ∃ L, L = bs.length := ⟨_, rfl⟩
  rw [← hL] at hc7 HBL
  have hL8 : L ≤ 8 := by rw [hL]; exact H8.out.eight
  have HL := Lib.hid hL
  have HC7 := Lib.hid hc7
  have HHI := Lib.hid hbi
  have HHD := Lib.hid hbd
  clear hL hc7 hbi hbd
  have HMK : ∀ W : World, (Instr.makeSlice 22 (.int .i64 256) (.int .i64 256)).run Tryz.prog W = .ok (.slice (some ⟨W.heap.size, 0, none⟩) 256 256) (W.alloc (.cells (cellsB (Z 256)).toArray 5)) := make_run
  obtain ⟨C0, hC0⟩ : ∃ C, C = (cellsB (Z 256)).toArray := ⟨_, rfl⟩
  rw [← hC0] at HMK
  have HC0 := Lib.hid hC0
  clear hC0
  have HB0 := Lib.hid (((Below.refl w.heap.size w).alloc (Nat.le_refl _) (.cells #[.int .i64 T, .slice qa Q qc, .slice (some ⟨bi, oi, none⟩) 20 ic, .slice (some ⟨bd, od, none⟩) 56 dc] 27)).alloc (by simp) (.cells C0 5))
  have HX0 := Lib.hid ((new w #[.int .i64 T, .slice qa Q qc, .slice (some ⟨bi, oi, none⟩) 20 ic, .slice (some ⟨bd, od, none⟩) 56 dc] 27).alloc (.cells C0 5))
  have HY0 := Lib.hid (new_at (w.alloc (.cells #[.int .i64 T, .slice qa Q qc, .slice (some ⟨bi, oi, none⟩) 20 ic, .slice (some ⟨bd, od, none⟩) 56 dc] 27)) C0 5 (w.heap.size + 1) (by simp))
  have hi0 : (0 : Int) ≤ i := by omega
  have hi1 : (i : Int) < 20 := by omega
  have c7 := HB0.out.cell (p := ⟨bi, oi + i * 10 + 7, none⟩) HHI.out
  rw [HC7.out] at c7
  go_enter Tryz.func65, Tryz.ntmps65
  go_wp2
  clear c7 HMK
  generalize (w.alloc (.cells #[.int .i64 T, .slice qa Q qc, .slice (some ⟨bi, oi, none⟩) 20 ic, .slice (some ⟨bd, od, none⟩) 56 dc] 27)).alloc (.cells C0 5) = w0 at *
  go_loopw [16] (fun jv wr => ∃ j : Nat, j ≤ L ∧ jv = .int .i64 j ∧ Bk wr (w.heap.size + 1) (cellsB (upTo f.data bs j)).toArray 5 ∧ Bk wr w.heap.size #[.int .i64 T, .slice qa Q qc, .slice (some ⟨bi, oi, none⟩) 20 ic, .slice (some ⟨bd, od, none⟩) 56 dc] 27 ∧ Below w.heap.size w wr) (fun jv _ => L - (intOf jv).toNat)
  case atStart => exact ⟨0, Nat.zero_le _, rfl, by rw [upTo_zero, ← HC0.out]; exact HY0.out, HX0.out, HB0.out⟩
  case round =>
    obtain ⟨j, hj, rfl, hy, hx, hb⟩ := hrel
    have HY := Lib.hid hy
    have HX := Lib.hid hx
    have HB := Lib.hid hb
    have hsz := hb.size
    clear hy hx hb HB0 HX0 HY0
    by_cases hlt : j < L
    · have hjl : j < bs.length := by rw [← HL.out]; exact hlt
      obtain ⟨bb, ob, rfl, hbb, hcb⟩ := HBL.out j hlt
      have cb := HB.out.cell (p := ⟨bb, ob + j, none⟩) hbb
      rw [hcb] at cb
      have hir := H8.out.inr _ (FsV.mem_getD (z := 0) hjl)
      have HHO := Lib.hid (fun h => upTo_hole H8.out hjl h)
      have HBO := Lib.hid (fun h => upTo_block H8.out hjl h)
      have HUL := Lib.hid (H8.out.up j (Nat.le_of_lt hjl))
      have hj8 : j < 8 := by omega
      clear hcb hbb
      generalize bs.getD j 0 = b at cb hir HHO HBO
      by_cases hm : b = -1
      · subst hm
        have HN := Lib.hid (HHO.out rfl)
        go_wp2_with fail
        refine (block_impl (-1) _).mono ?_
        rintro e w1 ⟨rfl, rfl⟩
        rw [show isBlock (-1) = false from rfl]
        go_wp2
        go_roundw
        case rel => exact ⟨j + 1, by omega, by go_num, by rw [HN.out]; exact HY.out, HX.out, HB.out⟩
        case measure => simp [intOf]; omega
      · obtain ⟨k, rfl⟩ : ∃ k : Nat, b = k := ⟨b.toNat, by omega⟩
        have hk : k < 56 := by omega
        have HN := Lib.hid (HBO.out hm)
        have hcd := HDat.out k (by rw [HG.out.dlen]; exact hk)
        have hsz32 : (f.data.getD k e0).size = 32 := HG.out.dsz _ (FsV.mem_getD (by rw [HG.out.dlen]; exact hk))
        have cd := HB.out.cell (p := ⟨bd, od + k, none⟩) HHD.out
        rw [hcd] at cd
        rw [show (⟨#[]⟩ : ByteArray) = e0 from rfl] at cd
        rw [show dat f.data ((k : Nat) : Int) = f.data.getD k e0 from rfl] at HN
        have HSZ := Lib.hid hsz32
        have hib : isBlock ((k : Nat) : Int) = true := by unfold isBlock; simp
        have HIB := Lib.hid hib
        clear hcd hsz32 hm hir HHO HBO hib
        generalize f.data.getD k e0 = s at cd HN HSZ
        obtain ⟨x0, x1, x2, x3⟩ := Bk.c4 HX.out
        have hk0 : (0 : Int) ≤ k := by omega
        have hk1 : (k : Int) < 56 := by omega
        go_wp2_with fail
        refine (block_impl ((k : Nat) : Int) _).mono ?_
        rintro e w1 ⟨rfl, rfl⟩
        rw [HIB.out]
        go_wp2
        go_region_law (first
          | (go_simp; go_at_call 130; ((with_reducible refine (blockIn_impl (w.heap.size + 1) j hj8 _).mono ?_)); rintro e w5 ⟨rfl, rfl⟩)
          | (refine step_copy_own rfl (.tmp 25) (.tmp 30) 22 9 rfl _ _ rfl rfl (copy_run _ (w.heap.size + 1) (j * 32) 32 32 s (upTo f.data bs j) _ (Bk.drew HY.out) (by rw [HSZ.out]; exact Nat.le_refl _) (by rw [HSZ.out, HUL.out]; omega)) ?_))
        all_goals
          rw [HN.out]
          have hY9 := row_set (Bk.drew HY.out) (cs' := (cellsB (upTo f.data bs (j + 1))).toArray)
          have hC9 := row_chg wr.drew (w.heap.size + 1) (cellsB (upTo f.data bs (j + 1))).toArray
          have hX9 := FoB.Bk.chg (Bk.drew HX.out) hC9 (by simp)
          have hB9 := HB.out.drew.trans (FoB.Chg.from hC9 hsz (Nat.le_succ _))
          generalize wr.drew.setRow (w.heap.size + 1) (cellsB (upTo f.data bs (j + 1))).toArray = w9 at hY9 hX9 hB9 ⊢
          have HZ := Lib.hid (And.intro hY9 (And.intro hX9 hB9))
          clear hY9 hX9 hB9 hC9 cd cb x0 x1 x2 x3
          go_wp2
          go_roundw
          case rel => exact ⟨j + 1, by omega, by go_num, HZ.out⟩
          case measure => simp [intOf]; omega
    · obtain rfl : j = L := by omega
      go_wp2
      go_ret
      exact ⟨rfl, by rw [← upTo_end HL.out]; exact HY.out, HB.out⟩

end Go.Proofs.YtafmpllkehbmeaaGreatDoor.CoC
