/- Helper texts joined, one behind another (a claim has at most 60 files): what each proves, its own head says: YtjefefedhhloiaaGreatDoorSpR, YtjefefedhhloiaaGreatDoorSpRd. -/
import Derived.Test.YtjefefedhhloiaaGreatDoorFsBaseC
import Derived.Deep.RegionLaw

-- YtjefefedhhloiaaGreatDoorSpR
/- Contracts: the model's reading of contents: whether an inode is in use, its text, a cut of a string, ReadBytes. Conditions: as each theorem types them. -/
namespace Go.Proofs.YtjefefedhhloiaaGreatDoor.SpR
open Go.ChangeShapes Go.WideShapes Go.ChangeAt Go.RowKit
open Foot Bx
open InoV (I)
open FsV (F okF e0 z32)
open FsY FsZ CoC
open Dk (ret_bool)
set_option linter.unusedVariables false

theorem ret_str {a b : ByteArray} (h : a = b) : Ending.returned (.string a) = .returned (.string b) := by rw [h]
set_option maxRecDepth 100000 in
set_option maxHeartbeats 1600000 in
theorem use_spec (w : World) (v : Value) (f : F) (i : Int) (hc : FsF.cost f ≤ 1073741824) (hl : FsF.Lim f) (h : FsF.Holds w v f) :
    Calls Tryz.prog 63 #[v, .int .i64 i] w fun e w' => e = .returned (.bool (hasObjB f i)) ∧ Below w.heap.size w w' := by
  have HFS := Lib.hid h
  have HCC := Lib.hid hc
  have HLM := Lib.hid hl
  obtain ⟨r0, r1, r2, rfl, g0, g1, g2⟩ := h
  have HI1 := Lib.hid g1
  obtain ⟨qa, qc, rfl⟩ := QF.form g0
  obtain ⟨ia, ic, rfl⟩ := IF.form g1
  obtain ⟨da, dc, rfl⟩ := SF.form g2
  clear g0 g1 g2 hc hl
  obtain ⟨T, hT⟩ : ∃ T, T = f.tick := ⟨_, rfl⟩
  obtain ⟨Q, hQ⟩ : ∃ Q, Q = f.quotas.length := ⟨_, rfl⟩
  obtain ⟨M, hM⟩ : ∃ M, M = f.inodes.length := ⟨_, rfl⟩
  obtain ⟨D, hD⟩ : ∃ D, D = f.data.length := ⟨_, rfl⟩
  rw [← hT, ← hQ, ← hM, ← hD] at HFS ⊢
  rw [← hM] at HI1
  have HM := Lib.hid hM
  clear hT hQ hM hD
  have HB0 := Lib.hid ((Below.refl w.heap.size w).alloc (Nat.le_refl _) (.cells #[.int .i64 T, .slice qa Q qc, .slice ia M ic, .slice da D dc] 27))
  have HX0 := Lib.hid (new w #[.int .i64 T, .slice qa Q qc, .slice ia M ic, .slice da D dc] 27)
  obtain ⟨C, hC⟩ : ∃ C, C = okF f := ⟨_, rfl⟩
  have HIS := Lib.hid (fun W v (hF : FsF.Holds W v f) => show Calls Tryz.prog 113 #[v] W fun e w' => e = .returned (.bool C) ∧ Below W.heap.size W w' from by rw [hC]; exact FsS.is_spec W v f HCC.out HLM.out hF)
  have HCE := Lib.hid hC
  obtain ⟨A, hA⟩ : ∃ A, (decide ((0 : Int) ≤ i) && decide (i ≤ 19)) = A := ⟨_, rfl⟩
  have HIN := Lib.hid (fun W => FsS.in_any i 0 19 hA W)
  cases C
  · have HF := Lib.hid (show hasObjB f i = false from by unfold hasObjB; rw [← hC, Bool.and_false]; rfl)
    clear hC hA
    go_enter Tryz.func63, Tryz.ntmps63
    go_wp2_with fail
    refine (HIS.out _ _ (FsF.holds_below HFS.out HB0.out)).mono ?_
    rintro e w1 ⟨rfl, hb⟩
    have HB1 := Lib.hid (HB0.out.trans (hb.mono HB0.out.size))
    clear hb
    go_wp2
    go_ret
    exact ⟨ret_bool HF.out.symm, HB1.out⟩
  · cases A
    · have HF := Lib.hid (show hasObjB f i = false from by unfold hasObjB; rw [hA]; rfl)
      clear hC hA
      go_enter Tryz.func63, Tryz.ntmps63
      go_wp2_with fail
      refine (HIS.out _ _ (FsF.holds_below HFS.out HB0.out)).mono ?_
      rintro e w1 ⟨rfl, hb⟩
      have HB1 := Lib.hid (HB0.out.trans (hb.mono HB0.out.size))
      clear hb
      go_wp2_with fail
      refine (HIN.out _).mono ?_
      rintro e w2 ⟨rfl, rfl⟩
      go_wp2
      go_ret
      exact ⟨ret_bool HF.out.symm, HB1.out⟩
    · have hb2 := hA
      rw [Bool.and_eq_true, decide_eq_true_eq, decide_eq_true_eq] at hb2
      obtain ⟨k, rfl⟩ : ∃ k : Nat, i = k := ⟨i.toNat, by omega⟩
      have hk : k < 20 := by omega
      have HVV := Lib.hid (show hasObjB f k = !decide ((ino f k).kind = 0) from by unfold hasObjB; rw [hA, ← hC]; rfl)
      have hM20 : M = 20 := by rw [HM.out]; exact (FsV.parts_of (FsV.ok_parts hC.symm).2.1).2.1
      clear hC hA hb2
      subst hM20
      obtain ⟨a9, c9, e9, l9, hat⟩ := HI1.out
      rw [Value.slice.injEq] at e9
      obtain ⟨rfl, e8, rfl⟩ := e9
      clear e8 l9
      obtain ⟨b, o, rfl, hb, r0, r1, r2, hCl, hP⟩ := hat k (by rw [← HM.out]; exact hk)
      have hc0 := hCl.1
      rw [show f.inodes.getD k IF.z0 = ino f k from rfl] at hc0
      have HHB := Lib.hid hb
      clear hat hCl hP hb
      obtain ⟨K, hK⟩ : ∃ K, K = (ino f k).kind := ⟨_, rfl⟩
      rw [← hK] at hc0 HVV
      clear hK
      have HC0 := Lib.hid hc0
      have hk0 : (0 : Int) ≤ k := by omega
      have hk1 : (k : Int) < 20 := by omega
      clear hc0
      go_enter Tryz.func63, Tryz.ntmps63
      go_wp2_with fail
      refine (HIS.out _ _ (FsF.holds_below HFS.out HB0.out)).mono ?_
      rintro e w1 ⟨rfl, hb⟩
      have HB1 := Lib.hid (HB0.out.trans (hb.mono HB0.out.size))
      have HX1 := Lib.hid (HX0.out.all hb)
      clear hb
      go_wp2_with fail
      refine (HIN.out _).mono ?_
      rintro e w2 ⟨rfl, rfl⟩
      obtain ⟨x0, x1, x2, x3⟩ := Bk.c4 HX1.out
      have c0 := HB1.out.cell (p := ⟨b, o + k * 10, none⟩) HHB.out
      rw [HC0.out] at c0
      by_cases hz : K = 0
      · have HF := Lib.hid (show hasObjB f k = false from by rw [HVV.out, decide_eq_true hz]; rfl)
        subst hz
        go_wp2
        go_ret
        exact ⟨ret_bool HF.out.symm, HB1.out⟩
      · have HF := Lib.hid (show hasObjB f k = true from by rw [HVV.out, decide_eq_false hz]; rfl)
        have z1 : (K != 0) = true := by simpa using hz
        have z2 : (K == 0) = false := by simpa using hz
        clear hz
        go_wp2
        go_ret
        exact ⟨ret_bool HF.out.symm, HB1.out⟩

/-- A cut of a string. -/
def cutV (s : ByteArray) (a n : Int) : ByteArray := if 0 ≤ a ∧ 0 ≤ n ∧ a < s.size then ⟨((s.data.toList.drop a.toNat).take n.toNat).toArray⟩ else e0
theorem ext_list (s : ByteArray) (a b : Nat) : s.extract a b = ⟨((s.data.toList.drop a).take (b - a)).toArray⟩ := by
  apply ByteArray.ext
  apply Array.toList_inj.1
  rw [ByteArray.data_extract, Array.toList_extract, List.extract_eq_take_drop]
theorem cut_all {s : ByteArray} {k : Nat} {n : Int} (hk : k < s.size) (hn : 0 ≤ n) (h : ((s.size - k : Nat) : Int) ≤ n) : cutV s k n = s.extract k s.size := by
  have hl : s.data.toList.length = s.size := by simp
  rw [cutV, if_pos ⟨by omega, hn, by omega⟩, ext_list, show ((k : Nat) : Int).toNat = k from rfl, List.take_of_length_le (by rw [List.length_drop]; omega), List.take_of_length_le (by rw [List.length_drop]; omega)]
theorem cut_some {s : ByteArray} {k m : Nat} (hk : k < s.size) (h : m < s.size - k) : cutV s k m = (s.extract k s.size).extract 0 m := by
  have hl : s.data.toList.length = s.size := by simp
  rw [cutV, if_pos ⟨by omega, by omega, by omega⟩, ext_list, ext_list, show ((k : Nat) : Int).toNat = k from rfl, show ((m : Nat) : Int).toNat = m from rfl]
  simp [List.take_of_length_le (show (s.data.toList.drop k).length ≤ s.size - k by rw [List.length_drop]; omega)]
set_option maxRecDepth 100000 in
set_option maxHeartbeats 1600000 in
theorem cut_spec (s : ByteArray) (a n : Int) (hs : s.size ≤ 1048576) (w : World) :
    Calls Tryz.prog 64 #[.string s, .int .i64 a, .int .i64 n] w fun e w' => e = .returned (.string (cutV s a n)) ∧ w = w' := by
  have HEM := Lib.hid (fun (h : ¬ (0 ≤ a ∧ 0 ≤ n ∧ a < s.size)) => show cutV s a n = e0 by rw [cutV, if_neg h])
  by_cases ha : 0 ≤ a
  · by_cases hn : 0 ≤ n
    · have q0 : decide (a < 0) = false := decide_eq_false (by omega)
      have q1 : decide (n < 0) = false := decide_eq_false (by omega)
      by_cases hz : a < s.size
      · obtain ⟨k, rfl⟩ : ∃ k : Nat, a = k := ⟨a.toNat, by omega⟩
        obtain ⟨m, rfl⟩ : ∃ m : Nat, n = m := ⟨n.toNat, by omega⟩
        have hks : k < s.size := by omega
        have q2 : decide ((s.size : Int) ≤ k) = false := decide_eq_false (by omega)
        have q3 : decide ((k : Int) ≥ s.size) = false := decide_eq_false (by omega)
        have hel : (s.extract k s.size).size = s.size - k := by simp
        by_cases hm : m < s.size - k
        · have HV := Lib.hid (cut_some hks hm)
          have hm2 : m < (s.extract k s.size).size := by rw [hel]; exact hm
          have q4 : decide ((m : Int) < ((s.extract k s.size).size : Int)) = true := decide_eq_true (by omega)
          have HEL := Lib.hid hel
          rw [HV.out]
          clear hz ha hn hel hm
          generalize hx : s.extract k s.size = t at *
          go_enter Tryz.func64, Tryz.ntmps64
          go_wp2
          go_ret
          exact ⟨rfl, rfl⟩
        · have HV := Lib.hid (cut_all (n := (m : Int)) hks hn (by omega))
          have hm2 : ¬ m < (s.extract k s.size).size := by rw [hel]; exact hm
          have q4 : decide ((m : Int) < ((s.extract k s.size).size : Int)) = false := decide_eq_false (by rw [hel]; omega)
          rw [HV.out]
          clear hz ha hn hel hm
          generalize hx : s.extract k s.size = t at *
          go_enter Tryz.func64, Tryz.ntmps64
          go_wp2
          go_ret
          exact ⟨rfl, rfl⟩
      · have HN := Lib.hid (HEM.out (fun h => hz h.2.2))
        rw [HN.out]
        have q2 : decide ((s.size : Int) ≤ a) = true := decide_eq_true (by omega)
        clear ha hn hz
        go_enter Tryz.func64, Tryz.ntmps64
        go_wp2
        go_ret
        exact ⟨rfl, rfl⟩
    · have HN := Lib.hid (HEM.out (fun h => hn h.2.1))
      rw [HN.out]
      have q0 : decide (a < 0) = false := decide_eq_false (by omega)
      have q1 : decide (n < 0) = true := decide_eq_true (by omega)
      clear ha hn
      go_enter Tryz.func64, Tryz.ntmps64
      go_wp2
      go_ret
      exact ⟨rfl, rfl⟩
  · have HN := Lib.hid (HEM.out (fun h => ha h.1))
    rw [HN.out]
    have q0 : decide (a < 0) = true := decide_eq_true (by omega)
    clear ha
    go_enter Tryz.func64, Tryz.ntmps64
    go_wp2
    go_ret
    exact ⟨rfl, rfl⟩

/-- An inode's bytes. -/
def textV (d : List ByteArray) (n : I) : ByteArray := ⟨((cont d n.blocks).take n.size.toNat).toArray⟩
theorem str_app (l : List UInt8) (s : ByteArray) : (⟨l.toArray⟩ : ByteArray) ++ s = ⟨(l ++ s.data.toList).toArray⟩ := by
  apply ByteArray.ext
  apply Array.toList_inj.1
  rw [ByteArray.data_append, Array.toList_append]
theorem z32_list : z32.data.toList = Z 32 := rfl
theorem arr_size (l : List UInt8) : (⟨l.toArray⟩ : ByteArray).size = l.length := by show l.toArray.size = _; simp
set_option maxRecDepth 100000 in
set_option maxHeartbeats 6400000 in
theorem text_spec (w : World) (vf vn : Value) (f : F) (n : I) (h8 : Ok8 f.data n.blocks) (h0 : 0 ≤ n.size) (hF : FsF.Holds w vf f) (hN : In.Holds w vn n) :
    Calls Tryz.prog 65 #[vf, vn] w fun e w' => e = .returned (.string (textV f.data n)) ∧ Below w.heap.size w w' := by
  have H8 := Lib.hid h8
  obtain ⟨r0, r1, r2, rfl, g0, g1, g2⟩ := hF
  obtain ⟨qa, qc, rfl⟩ := QF.form g0
  obtain ⟨ia, ic, rfl⟩ := IF.form g1
  obtain ⟨da, dc, rfl, hD⟩ := g2
  have hD56 := h8.len
  obtain ⟨bd, od, rfl, hbd, hDat⟩ := hD (by intro e; rw [e] at hD56; simp at hD56)
  obtain ⟨s0, s1, s2, rfl, k0, k1, k2⟩ := hN
  obtain ⟨a, c, rfl, _, hB⟩ := k0
  obtain ⟨a1, d1, rfl⟩ := AeF.form k1
  obtain ⟨a2, d2, rfl⟩ := AeF.form k2
  have HBL := Lib.hid hB
  have HDat := Lib.hid hDat
  have HHD := Lib.hid hbd
  rw [hD56]
  obtain ⟨T, hT⟩ : ∃ T, T = f.tick := ⟨_, rfl⟩
  obtain ⟨Q, hQ⟩ : ∃ Q, Q = f.quotas.length := ⟨_, rfl⟩
  obtain ⟨M, hM⟩ : ∃ M, M = f.inodes.length := ⟨_, rfl⟩
  rw [← hT, ← hQ, ← hM]
  clear g0 g1 hD k1 k2 hB hDat hbd hD56 h8 hT hQ hM
  obtain ⟨z, hz⟩ : ∃ z : Nat, n.size = z := ⟨n.size.toNat, by omega⟩
  have HTX := Lib.hid (show textV f.data n = ⟨((cont f.data n.blocks).take z).toArray⟩ by rw [textV, hz]; rfl)
  rw [HTX.out]
  rw [hz]
  clear hz h0
  obtain ⟨bs, hbs⟩ : ∃ bs, bs = n.blocks := ⟨_, rfl⟩
  rw [← hbs] at H8 HBL ⊢
  clear hbs HTX
  obtain ⟨L, hL⟩ : ∃ L, L = bs.length := ⟨_, rfl⟩
  rw [← hL] at HBL ⊢
  have hL8 : L ≤ 8 := by rw [hL]; exact H8.out.eight
  have HL := Lib.hid hL
  clear hL
  obtain ⟨K0, K1, K2, K3, K4, K6, A1, A2, hK⟩ : ∃ K0 K1 K2 K3 K4 K6 A1 A2, K0 = n.kind ∧ K1 = n.mode ∧ K2 = n.uid ∧ K3 = n.gid ∧ K4 = n.links ∧ K6 = n.tick ∧ A1 = n.acl.length ∧ A2 = n.dflt.length := ⟨_, _, _, _, _, _, _, _, rfl, rfl, rfl, rfl, rfl, rfl, rfl, rfl⟩
  obtain ⟨k0, k1, k2, k3, k4, k6, k7, k8⟩ := hK
  rw [← k0, ← k1, ← k2, ← k3, ← k4, ← k6, ← k7, ← k8]
  clear k0 k1 k2 k3 k4 k6 k7 k8
  have HB0 := Lib.hid (((Below.refl w.heap.size w).alloc (Nat.le_refl _) (.cells #[.int .i64 T, .slice qa Q qc, .slice ia M ic, .slice (some ⟨bd, od, none⟩) 56 dc] 27)).alloc (by simp) (.cells #[.int .i64 K0, .int .i64 K1, .int .i64 K2, .int .i64 K3, .int .i64 K4, .int .i64 z, .int .i64 K6, .slice a L c, .slice a1 A1 d1, .slice a2 A2 d2] 34))
  have HX0 := Lib.hid ((new w #[.int .i64 T, .slice qa Q qc, .slice ia M ic, .slice (some ⟨bd, od, none⟩) 56 dc] 27).alloc (.cells #[.int .i64 K0, .int .i64 K1, .int .i64 K2, .int .i64 K3, .int .i64 K4, .int .i64 z, .int .i64 K6, .slice a L c, .slice a1 A1 d1, .slice a2 A2 d2] 34))
  have HY0 := Lib.hid (new_at (w.alloc (.cells #[.int .i64 T, .slice qa Q qc, .slice ia M ic, .slice (some ⟨bd, od, none⟩) 56 dc] 27)) #[.int .i64 K0, .int .i64 K1, .int .i64 K2, .int .i64 K3, .int .i64 K4, .int .i64 z, .int .i64 K6, .slice a L c, .slice a1 A1 d1, .slice a2 A2 d2] 34 (w.heap.size + 1) (by simp))
  go_enter Tryz.func65, Tryz.ntmps65
  go_wp2
  generalize (w.alloc (.cells #[.int .i64 T, .slice qa Q qc, .slice ia M ic, .slice (some ⟨bd, od, none⟩) 56 dc] 27)).alloc (.cells #[.int .i64 K0, .int .i64 K1, .int .i64 K2, .int .i64 K3, .int .i64 K4, .int .i64 z, .int .i64 K6, .slice a L c, .slice a1 A1 d1, .slice a2 A2 d2] 34) = w0 at *
  go_loopw [5, 11] (fun sv jv wr => ∃ (j : Nat) (s : ByteArray), j ≤ L ∧ jv = .int .i64 j ∧ sv = .string s ∧ s = ⟨(cont f.data (bs.take j)).toArray⟩ ∧ Bk wr w.heap.size #[.int .i64 T, .slice qa Q qc, .slice ia M ic, .slice (some ⟨bd, od, none⟩) 56 dc] 27 ∧ Bk wr (w.heap.size + 1) #[.int .i64 K0, .int .i64 K1, .int .i64 K2, .int .i64 K3, .int .i64 K4, .int .i64 z, .int .i64 K6, .slice a L c, .slice a1 A1 d1, .slice a2 A2 d2] 34 ∧ Below w.heap.size w wr) (fun _ jv _ => L - (intOf jv).toNat)
  case atStart => exact ⟨0, _, Nat.zero_le _, rfl, rfl, by simp [cont], HX0.out, HY0.out, HB0.out⟩
  case round =>
    obtain ⟨j, s, hj, rfl, rfl, hs, hx, hy, hb⟩ := hrel
    have HS := Lib.hid hs
    have HX := Lib.hid hx
    have HY := Lib.hid hy
    have HB := Lib.hid hb
    clear hx hy hb HB0 HX0 HY0
    have hssz : s.size = 32 * j := by rw [hs, arr_size, H8.out.tk j (by rw [← HL.out]; exact hj)]
    have hssz2 : s.size ≤ 256 := by omega
    have HSS := Lib.hid hssz
    clear hs hssz
    by_cases hlt : j < L
    · have hjl : j < bs.length := by rw [← HL.out]; exact hlt
      obtain ⟨bb, ob, rfl, hbb, hcb⟩ := HBL.out j hlt
      have cb := HB.out.cell (p := ⟨bb, ob + j, none⟩) hbb
      rw [hcb] at cb
      have hir := H8.out.inr _ (FsV.mem_getD (z := 0) hjl)
      have HCT := Lib.hid (cont_take (d := f.data) hjl)
      clear hcb hbb
      generalize bs.getD j 0 = b at cb hir HCT
      by_cases hm : b = -1
      · subst hm
        have HN := Lib.hid (show s ++ z32 = ⟨(cont f.data (bs.take (j + 1))).toArray⟩ from by rw [HS.out, str_app, z32_list, HCT.out, one, if_pos rfl])
        have hz0 : (9223372036854775807 < s.size + z32.size) = False := by
          have : z32.size = 32 := rfl
          rw [this]; exact eq_false (by omega)
        go_wp2_with fail
        refine (PadTo.spec_any ⟨#[]⟩ 32 _ (by decide)).mono ?_
        rintro e w1 ⟨rfl, hb⟩
        rw [show PadTo.padB ⟨#[]⟩ 32 = z32 from rfl]
        have HX1 := Lib.hid (HX.out.all hb)
        have HY1 := Lib.hid (HY.out.all hb)
        have HB1 := Lib.hid (HB.out.trans (hb.mono HB.out.size))
        clear hb cb
        go_wp2
        go_roundw
        case rel => exact ⟨j + 1, _, by omega, by go_num, rfl, HN.out, HX1.out, HY1.out, HB1.out⟩
        case measure => simp [intOf]; omega
      · obtain ⟨k, rfl⟩ : ∃ k : Nat, b = k := ⟨b.toNat, by omega⟩
        have hk : k < 56 := by omega
        have hcd := HDat.out k (by rw [H8.out.len]; exact hk)
        have hsz32 : (f.data.getD k e0).size = 32 := H8.out.sz _ (FsV.mem_getD (by rw [H8.out.len]; exact hk))
        have HN := Lib.hid (show s ++ f.data.getD k e0 = ⟨(cont f.data (bs.take (j + 1))).toArray⟩ from by rw [HS.out, str_app, HCT.out, one, if_neg hm]; rfl)
        have cd := HB.out.cell (p := ⟨bd, od + k, none⟩) HHD.out
        rw [hcd] at cd
        rw [show (⟨#[]⟩ : ByteArray) = e0 from rfl] at cd
        have hz0 : (9223372036854775807 < s.size + (f.data.getD k e0).size) = False := by rw [hsz32]; exact eq_false (by omega)
        have q1 : ((k : Int) == -1) = false := by simp
        have q2 : ((k : Int) != -1) = true := by simp
        clear hcd hsz32 hm hir HCT
        generalize f.data.getD k e0 = t at cd HN hz0
        obtain ⟨x0, x1, x2, x3⟩ := Bk.c4 HX.out
        have hk0 : (0 : Int) ≤ k := by omega
        have hk1 : (k : Int) < 56 := by omega
        go_wp2
        go_roundw
        case rel => exact ⟨j + 1, _, by omega, by go_num, rfl, HN.out, HX.out, HY.out, HB.out⟩
        case measure => simp [intOf]; omega
    · obtain rfl : j = L := by omega
      have HE := Lib.hid (show s = ⟨(cont f.data bs).toArray⟩ from by rw [HS.out, HL.out, List.take_length])
      obtain ⟨y0, y1, y2, y3, y4, y5, y6, y7, y8, y9⟩ := Bk.c10 HY.out
      by_cases hzs : z < s.size
      · have HR := Lib.hid (show s.extract 0 z = ⟨((cont f.data bs).take z).toArray⟩ from by rw [ext_list, HE.out]; simp)
        go_wp2
        go_ret
        exact ⟨ret_str HR.out, HB.out⟩
      · have HR := Lib.hid (show s = ⟨((cont f.data bs).take z).toArray⟩ from by rw [HE.out, List.take_of_length_le (by have := HE.out; rw [this, arr_size] at hzs; omega)])
        go_wp2
        go_ret
        exact ⟨ret_str HR.out, HB.out⟩
theorem read_eq {f : F} {k : Nat} {a n : Int} (h : hasObjB f k = true) : cutV (textV f.data (ino f k)) a n = readV f k a n := by
  have hob := h
  unfold hasObjB at hob
  simp only [Bool.and_eq_true, decide_eq_true_eq] at hob
  obtain ⟨⟨⟨h0, h19⟩, hok⟩, _⟩ := hob
  have g : GoodF f k := ⟨hok, by omega⟩
  have hsz := g.size
  have hlen := (cont_at f.data _ g.dsz g.dlen g.inr).1
  obtain ⟨z, hz⟩ : ∃ z : Nat, (ino f k).size = z := ⟨(ino f k).size.toNat, by omega⟩
  have hzl : z ≤ (cont f.data (ino f k).blocks).length := by
    rw [hlen]
    have h3 := hsz.2.2.1
    unfold InoV.needV at h3
    split at h3 <;> omega
  have htl : (textV f.data (ino f k)).size = z := by
    rw [textV, arr_size, List.length_take, hz]; show min z _ = z; omega
  have htd : (textV f.data (ino f k)).data.toList = (cont f.data (ino f k).blocks).take z := by rw [textV, hz]; rfl
  by_cases ha : 0 ≤ a
  · by_cases hn : 0 ≤ n
    · rw [read_val h ha hn (show (ino f k).size.toNat = z by rw [hz]; rfl) rfl rfl]
      by_cases hlt : a < z
      · rw [cutV, if_pos ⟨ha, hn, by rw [htl]; exact hlt⟩, htd]
        congr 2
        have e1 : min a.toNat z = a.toNat := by omega
        rw [e1, List.drop_take, List.take_take, content, List.drop_append_of_le_length (by omega), List.take_append_of_le_length (by rw [List.length_drop]; omega)]
      · rw [cutV, if_neg (fun h => hlt (by rw [← htl]; exact h.2.2)), show min a.toNat z = z from by omega, Nat.sub_self, Nat.min_zero]; rfl
    · rw [cutV, if_neg (fun h => hn h.2.1), readV, decide_eq_false hn, Bool.and_false, Bool.and_false]; rfl
  · rw [cutV, if_neg (fun h => ha h.1), readV, decide_eq_false ha, Bool.false_and, Bool.and_false]; rfl
end Go.Proofs.YtjefefedhhloiaaGreatDoor.SpR

-- YtjefefedhhloiaaGreatDoorSpRd
/- Contract: the model's ReadBytes. Conditions: the cost; the numbers are 64-bit ones. -/
namespace Go.Proofs.YtjefefedhhloiaaGreatDoor.SpRd
open Go.ChangeShapes Go.WideShapes Go.ChangeAt Go.RowKit
open Foot Bx
open InoV (I)
open FsV (F okF e0 z32)
open FsY FsZ CoC SpR
open Dk (ret_bool)
set_option linter.unusedVariables false

set_option maxRecDepth 100000 in
set_option maxHeartbeats 6400000 in
theorem read_spec (w : World) (v : Value) (f : F) (i a n : Int) (hc : FsF.cost f ≤ 1073741824) (hl : FsF.Lim f) (h : FsF.Holds w v f) :
    Calls Tryz.prog 25 #[v, .int .i64 i, .int .i64 a, .int .i64 n] w fun e w' => e = .returned (.string (readV f i a n)) ∧ Below w.heap.size w w' := by
  have HFS := Lib.hid h
  have HCC := Lib.hid hc
  have HLM := Lib.hid hl
  obtain ⟨r0, r1, r2, rfl, g0, g1, g2⟩ := h
  have HI1 := Lib.hid g1
  obtain ⟨qa, qc, rfl⟩ := QF.form g0
  obtain ⟨ia, ic, rfl⟩ := IF.form g1
  obtain ⟨da, dc, rfl⟩ := SF.form g2
  clear g0 g1 g2 hc hl
  obtain ⟨T, hT⟩ : ∃ T, T = f.tick := ⟨_, rfl⟩
  obtain ⟨Q, hQ⟩ : ∃ Q, Q = f.quotas.length := ⟨_, rfl⟩
  obtain ⟨M, hM⟩ : ∃ M, M = f.inodes.length := ⟨_, rfl⟩
  obtain ⟨D, hD⟩ : ∃ D, D = f.data.length := ⟨_, rfl⟩
  rw [← hT, ← hQ, ← hM, ← hD] at HFS ⊢
  rw [← hM] at HI1
  have HM := Lib.hid hM
  clear hT hQ hM hD
  have HB0 := Lib.hid ((Below.refl w.heap.size w).alloc (Nat.le_refl _) (.cells #[.int .i64 T, .slice qa Q qc, .slice ia M ic, .slice da D dc] 27))
  have HX0 := Lib.hid (new w #[.int .i64 T, .slice qa Q qc, .slice ia M ic, .slice da D dc] 27)
  obtain ⟨C, hC⟩ : ∃ C, C = hasObjB f i := ⟨_, rfl⟩
  have HHA := Lib.hid (fun W (hw : Below w.heap.size w W) => show Calls Tryz.prog 63 #[.agg #[.int .i64 T, .slice qa Q qc, .slice ia M ic, .slice da D dc], .int .i64 i] W fun e w' => e = .returned (.bool C) ∧ Below W.heap.size W w' from by rw [hC]; exact use_spec W _ f i HCC.out HLM.out (FsF.holds_below HFS.out hw))
  cases C
  · have HN := Lib.hid (show readV f i a n = e0 from by unfold readV; rw [← hC]; rfl)
    rw [HN.out]
    clear hC
    go_enter Tryz.func25, Tryz.ntmps25
    go_wp2_with fail
    refine (HHA.out _ HB0.out).mono ?_
    rintro e w1 ⟨rfl, hb⟩
    have HB1 := Lib.hid (HB0.out.trans (hb.mono HB0.out.size))
    clear hb
    go_wp2
    go_ret
    exact ⟨rfl, HB1.out⟩
  · have hob := hC.symm
    unfold hasObjB at hob
    simp only [Bool.and_eq_true, decide_eq_true_eq] at hob
    obtain ⟨⟨⟨h0, h19⟩, hok⟩, _⟩ := hob
    obtain ⟨k, rfl⟩ : ∃ k : Nat, i = k := ⟨i.toNat, by omega⟩
    have hk : k < 20 := by omega
    have g : GoodF f k := ⟨hok, hk⟩
    have HRE := Lib.hid (read_eq (a := a) (n := n) hC.symm)
    have hsz := g.size
    have HSZ := Lib.hid hsz.1
    have H8 := Lib.hid (ok8_of g)
    have hM20 : M = 20 := by rw [HM.out]; exact (FsV.parts_of (FsV.ok_parts hok).2.1).2.1
    subst hM20
    obtain ⟨a9, c9, e9, l9, hat⟩ := HI1.out
    rw [Value.slice.injEq] at e9
    obtain ⟨rfl, e8, rfl⟩ := e9
    clear e8 l9
    obtain ⟨b, o, rfl, hb, r0, r1, r2, hCl, hP⟩ := hat k (by rw [← HM.out]; exact hk)
    rw [show f.inodes.getD k IF.z0 = ino f k from rfl] at hCl hP
    have HIN := Lib.hid (IF.parts_holds hP)
    obtain ⟨p0, p1, p2⟩ := hP
    obtain ⟨b0, e0', rfl⟩ := NiF.form p0
    obtain ⟨b1, e1', rfl⟩ := AeF.form p1
    obtain ⟨b2, e2', rfl⟩ := AeF.form p2
    have HHB := Lib.hid hb
    have HCL := Lib.hid hCl
    have htl : (textV f.data (ino f k)).size ≤ 1048576 := by
      rw [textV, arr_size, List.length_take]
      have := (cont_at f.data _ g.dsz g.dlen g.inr).1
      omega
    have HTL := Lib.hid htl
    have HTX := Lib.hid (fun (W : World) (hw : Below w.heap.size w W) => text_spec W _ _ f (ino f k) H8.out HSZ.out (FsF.holds_below HFS.out hw) (In.holds_below HIN.out hw))
    have hk0 : (0 : Int) ≤ k := by omega
    have hk1 : (k : Int) < 20 := by omega
    clear hat hCl p0 p1 p2 hb hC h0 h19 hok g hsz htl
    rw [← HRE.out]
    obtain ⟨tx, htx⟩ : ∃ t, t = textV f.data (ino f k) := ⟨_, rfl⟩
    rw [← htx] at HTX HTL ⊢
    clear htx HRE
    obtain ⟨N, hN⟩ : ∃ N, N = ino f k := ⟨_, rfl⟩
    rw [← hN] at HTX HCL HIN
    clear hN H8 HSZ
    go_enter Tryz.func25, Tryz.ntmps25
    go_wp2_with fail
    refine (HHA.out _ HB0.out).mono ?_
    rintro e w1 ⟨rfl, hb⟩
    have HB1 := Lib.hid (HB0.out.trans (hb.mono HB0.out.size))
    have HX1 := Lib.hid (HX0.out.all hb)
    clear hb
    obtain ⟨x0, x1, x2, x3⟩ := Bk.c4 HX1.out
    obtain ⟨d0, d1, d2, d3, d4, d5, d6, d7, d8, d9⟩ := HCL.out.below HHB.out HB1.out
    go_wp2
    go_region_law (first
      | (go_simp; go_at_call 65; ((with_reducible refine (HTX.out _ HB1.out.drew).mono ?_)); rintro e w2 ⟨rfl, hb⟩; have HB2 := Lib.hid (HB1.out.drew.trans (hb.mono HB1.out.drew.size)); clear hb)
      | (go_simp; go_at_call 64; ((with_reducible refine (cut_spec tx a n HTL.out _).mono ?_)); rintro e w3 ⟨rfl, rfl⟩))
    all_goals
      go_wp2
      go_ret
      exact ⟨rfl, HB2.out⟩
end Go.Proofs.YtjefefedhhloiaaGreatDoor.SpRd
