/- Helper texts joined, one behind another (a claim has at most 60 files): what each proves, its own head says: YtbbnginolidedaaGreatDoorFsH, YtbbnginolidedaaGreatDoorSpPt, YtbbnginolidedaaGreatDoorSpWp. -/
import Derived.Test.YtbbnginolidedaaGreatDoorFsBaseC
import Derived.Test.YtbbnginolidedaaGreatDoorFsBaseD
import Derived.Test.YtbbnginolidedaaGreatDoorFsBaseB
import Derived.Test.YtbbnginolidedaaGreatDoorRowG
import Derived.Deep.RegionLaw
import Derived.Test.YtbbnginolidedaaGreatDoorFsBaseE

-- YtbbnginolidedaaGreatDoorFsH
/- Contracts and plain facts that a law of this seat leans on. Conditions: as each theorem types them. -/
namespace Go.Proofs.YtbbnginolidedaaGreatDoor.FsH
open Go.ChangeShapes Go.WideShapes Go.ChangeAt Go.RowKit
open Foot Bx
open InoV (I usedV hasB)
open FsV (F cnt first pick useI useB usersB okF inoV blkV nextI nextB cntO allB ownerV)
open Dk (ret_bool)
open Strs (ret_int)
open FsC (pairV ret_pair pick_quota pick_some pick_none)
set_option linter.unusedVariables false

theorem user_spec (u : Int) (w : World) : Calls Tryz.prog 93 #[.int .i64 u] w fun e w' => e = .returned (.bool (usersB u)) ∧ w = w' := Pm.user_spec u w

set_option maxRecDepth 100000 in
set_option maxHeartbeats 3200000 in
theorem blk_any (w : World) (v : Value) (f : F) (k : Nat) (hk : k ≤ 3) (hc : FsF.cost f ≤ 1073741824) (hok : FsV.Half f) (h : FsF.Holds w v f) :
    Calls Tryz.prog 188 #[v, .int .i64 k] w fun e w' => e = .returned (.int .i64 (cnt (useB f) (14 * k) 14 : Nat)) ∧ Below w.heap.size w w' := by
  rw [FsV.blk_own hok hk]
  have hcs : IF.csum f.inodes ≤ 1073741824 := Nat.le_trans (Nat.le_trans (Nat.le_add_left _ _) (FsF.le_inodes f)) hc
  have HCA := Lib.hid (fun i (hi : i < f.inodes.length) => Nat.le_trans (IF.cost_at hi) hcs)
  have HSL := Lib.hid (fun i j hi => Nat.le_trans (FsU.seen_len f.inodes i j hi) hcs)
  obtain ⟨r0, r1, r2, rfl, g0, g1, g2⟩ := h
  obtain ⟨qa, qc, rfl, hQ⟩ := Qt.atL g0
  obtain ⟨ia, ic, rfl, _, hI⟩ := IF.atL g1
  obtain ⟨da, dc, rfl⟩ := SF.form g2
  have HQ := Lib.hid hQ
  have HI := Lib.hid hI
  obtain ⟨hQ4, hI20, hD56, hqs, _⟩ := hok
  have HL1 := Lib.hid hQ4
  have HL2 := Lib.hid hI20
  obtain ⟨T, hT⟩ : ∃ T, T = f.tick := ⟨_, rfl⟩
  rw [← hT, hQ4, hI20, hD56]
  clear hT g0 g1 g2 hQ hI hQ4 hI20 hD56
  clear hqs hc hcs
  obtain ⟨l, hll⟩ : ∃ l, l = f.inodes := ⟨_, rfl⟩
  rw [← hll] at HI HCA HSL HL2 ⊢
  clear hll
  have HB0 := Lib.hid ((Below.refl w.heap.size w).alloc (Nat.le_refl _) (.cells #[.int .i64 T, .slice qa 4 qc, .slice ia 20 ic, .slice da 56 dc] 27))
  have HX0 := Lib.hid (new w #[.int .i64 T, .slice qa 4 qc, .slice ia 20 ic, .slice da 56 dc] 27)
  go_enter Tryz.func188, Tryz.ntmps188
  go_wp2
  go_loopw [5, 13] (fun nv iv wr => ∃ i : Nat, i ≤ 20 ∧ iv = .int .i64 i ∧ nv = .int .i64 (cntO k (FsV.seen l i 0) : Nat) ∧ Below w.heap.size w wr) (fun _ iv _ => 20 - (intOf iv).toNat)
  case atStart => exact ⟨0, Nat.zero_le _, rfl, rfl, HB0.out⟩
  case round =>
    obtain ⟨i, hi, rfl, rfl, hbel⟩ := hrel
    have HB := Lib.hid hbel
    have hsz := hbel.size
    clear hbel HB0 HX0
    by_cases hlt : i < 20
    · have hlx : i < l.length := by rw [HL2.out]; exact hlt
      obtain ⟨b, o, rfl, hb, r0, r1, r2, hC, hP⟩ := HI.out i hlx
      obtain ⟨p0, p1, p2⟩ := hP
      obtain ⟨a0, d0, rfl, hble, hbat⟩ := p0
      obtain ⟨a1, d1, rfl⟩ := AeF.form p1
      obtain ⟨a2, d2, rfl⟩ := AeF.form p2
      obtain ⟨c0, c1, c2, c3, c4, c5, c6, c7, c8, c9⟩ := hC.below hb HB.out
      clear hC p1 p2
      have hcx := HCA.out i hlx
      have HBA := Lib.hid hbat
      have HE1 := Lib.hid (FsV.seen_end l i hlx)
      have HSN := Lib.hid (FsV.seen_snoc l i)
      have HSI := Lib.hid (fun j => HSL.out i j hlx)
      have HLE := Lib.hid (fun (u : Int) (x : List Int) => show cntO u x ≤ x.length from List.length_filter_le _ _)
      rw [show InoV.zero = IF.z0 from rfl] at HE1 HSN
      clear hbat
      generalize l.getD i IF.z0 = n at c0 c1 c2 c3 c4 c5 c6 c7 c8 c9 hcx HBA HE1 HSN hble
      have hbl : n.blocks.length ≤ 1073741824 := Nat.le_trans (In.le_blocks n) hcx
      obtain ⟨m, hm⟩ : ∃ m, m = n.blocks.length := ⟨_, rfl⟩
      have HJE := Lib.hid (FsK.jj_end n.blocks m hm)
      rw [← hm] at c7 hbl hble HBA
      have HML := Lib.hid hm
      clear hm
      have HN := Lib.hid (HB.out.alloc hsz (.cells #[.int .i64 n.kind, .int .i64 n.mode, .int .i64 n.uid, .int .i64 n.gid, .int .i64 n.links, .int .i64 n.size, .int .i64 n.tick, .slice a0 m d0, .slice a1 n.acl.length d1, .slice a2 n.dflt.length d2] 34))
      have HIX := Lib.hid (show FsK.jj n.blocks 0 = 0 from FsK.jj_zero _)
      go_wp2
      rw [show decide ((i : Int) < 20) = true from decide_eq_true (by omega)]
      generalize wr.alloc (.cells #[.int .i64 n.kind, .int .i64 n.mode, .int .i64 n.uid, .int .i64 n.gid, .int .i64 n.links, .int .i64 n.size, .int .i64 n.tick, .slice a0 m d0, .slice a1 n.acl.length d1, .slice a2 n.dflt.length d2] 34) = w9 at *
      clear c0 c1 c2 c3 c4 c5 c6 c7 c8 c9
      go_loopw [5, 20] (fun nv jv wq => ∃ j : Nat, j ≤ m ∧ jv = .int .i64 j ∧ nv = .int .i64 (cntO k (FsV.seen l i (FsK.jj n.blocks j)) : Nat) ∧ wq = w9) (fun _ jv _ => m - (intOf jv).toNat)
      case atStart => exact ⟨0, Nat.zero_le _, rfl, by rw [HIX.out], by first | rfl | trivial⟩
      case round =>
        obtain ⟨j, hj, rfl, rfl, rfl⟩ := hrel
        have hbd := Nat.le_trans (HLE.out (k : Int) (FsV.seen l i (FsK.jj n.blocks j))) (HSI.out (FsK.jj n.blocks j))
        by_cases hltj : j < m
        · obtain ⟨b2, o2, rfl, hlt2, g0⟩ := HBA.out j hltj
          rw [← HN.out.cell (p := ⟨b2, o2 + j, none⟩) hlt2] at g0
          have hjl : j < n.blocks.length := by rw [← HML.out]; exact hltj
          have HJH := Lib.hid (fun h => FsK.jj_hole (l := n.blocks) hjl h)
          have HJB := Lib.hid (fun h => FsK.jj_block (l := n.blocks) hjl h)
          generalize n.blocks.getD j 0 = x at g0 HJH HJB
          by_cases hm1 : x = -1
          · subst hm1
            have HS := Lib.hid (show cntO k (FsV.seen l i (FsK.jj n.blocks (j + 1))) = cntO k (FsV.seen l i (FsK.jj n.blocks j)) from by rw [HJH.out rfl])
            generalize cntO (k : Int) (FsV.seen l i (FsK.jj n.blocks j)) = C at hbd HS ⊢
            go_wp2
            go_roundw
            case rel => exact ⟨j + 1, by omega, by go_num, by rw [HS.out], by first | rfl | trivial⟩
            case measure => simp [intOf]; omega
          · obtain ⟨hj1, hj2, hj3⟩ := HJB.out hm1
            have hx1 : (x == -1) = false := by simpa using hm1
            have hx2 : (x != -1) = true := by simpa using hm1
            have HSJ := Lib.hid (show cntO k (FsV.seen l i (FsK.jj n.blocks (j + 1))) = cntO k (FsV.seen l i (FsK.jj n.blocks j)) + (if ownerV x = (k : Int) then 1 else 0) from by rw [hj1, HSN.out _ hj2, hj3, FsV.cntO_snoc])
            clear hj1 hj2 hj3 hm1 HJH HJB
            have HOW := Lib.hid (fun W => FsO.owner_spec x W)
            generalize cntO (k : Int) (FsV.seen l i (FsK.jj n.blocks j)) = C at hbd HSJ ⊢
            by_cases hown : ownerV x = (k : Int)
            · have HS := Lib.hid (show cntO k (FsV.seen l i (FsK.jj n.blocks (j + 1))) = C + 1 from by rw [HSJ.out, if_pos hown])
              have hB1 : (ownerV x == (k : Int)) = true := by simpa using hown
              clear hown
              go_wp2_with fail
              refine (HOW.out _).mono ?_
              rintro e w3 ⟨rfl, rfl⟩
              go_wp2
              go_roundw
              case rel => exact ⟨j + 1, by omega, by go_num, by rw [HS.out]; go_num, by first | rfl | trivial⟩
              case measure => simp [intOf]; omega
            · have HS := Lib.hid (show cntO k (FsV.seen l i (FsK.jj n.blocks (j + 1))) = C from by rw [HSJ.out, if_neg hown]; rfl)
              have hB1 : (ownerV x == (k : Int)) = false := by simpa using hown
              clear hown
              go_wp2_with fail
              refine (HOW.out _).mono ?_
              rintro e w3 ⟨rfl, rfl⟩
              go_wp2
              go_roundw
              case rel => exact ⟨j + 1, by omega, by go_num, by rw [HS.out], by first | rfl | trivial⟩
              case measure => simp [intOf]; omega
        · obtain rfl : j = m := by omega
          have HS := Lib.hid (show cntO (k : Int) (FsV.seen l (i + 1) 0) = cntO (k : Int) (FsV.seen l i (FsK.jj n.blocks j)) from by rw [← HE1.out, ← HJE.out])
          generalize cntO (k : Int) (FsV.seen l i (FsK.jj n.blocks j)) = C at hbd HS ⊢
          go_wp2
          go_roundw
          case rel => exact ⟨i + 1, by omega, by go_num, by rw [HS.out], HN.out⟩
          case measure => simp [intOf]; omega
    · obtain rfl : i = 20 := by omega
      have HS := Lib.hid (show cntO (k : Int) (FsV.seen l 20 0) = cntO (k : Int) (allB l) from by rw [FsV.seen_zero, List.take_of_length_le (by rw [HL2.out]; exact Nat.le_refl _)])
      rw [HS.out]
      go_wp2
      go_ret
      exact ⟨rfl, HB.out⟩

set_option maxRecDepth 100000 in
set_option maxHeartbeats 3200000 in
theorem nblk_any (w : World) (v : Value) (f : F) (k : Nat) (hk : k ≤ 3) (hc : FsF.cost f ≤ 1073741824) (hok : FsV.Half f) (h : FsF.Holds w v f) :
    Calls Tryz.prog 145 #[v, .int .i64 k] w fun e w' => e = .returned (pairV (pick (useB f) (14 * k) 14 (f.quotas.getD k (0, 0)).2)) ∧ Below w.heap.size w w' := by
  have HFS := Lib.hid h
  have HCC := Lib.hid hc
  have HOK := Lib.hid hok
  have HUID := Lib.hid (fun n (hn : n ∈ f.inodes) => (hok.uids n hn).1)
  have HOWN := Lib.hid hok.own
  obtain ⟨r0, r1, r2, rfl, g0, g1, g2⟩ := h
  obtain ⟨qa, qc, rfl, hQ⟩ := Qt.atL g0
  obtain ⟨ia, ic, rfl, _, hI⟩ := IF.atL g1
  obtain ⟨da, dc, rfl⟩ := SF.form g2
  have HQ := Lib.hid hQ
  have HI := Lib.hid hI
  obtain ⟨hQ4, hI20, hD56, hqs, _⟩ := hok
  have HL1 := Lib.hid hQ4
  have HL2 := Lib.hid hI20
  have HCL := Lib.hid (FsV.cnt_le (useB f) (14 * k) 14)
  have hkq : k < f.quotas.length := by omega
  rw [hQ4, hI20, hD56] at HFS
  obtain ⟨T, hT⟩ : ∃ T, T = f.tick := ⟨_, rfl⟩
  rw [← hT] at HFS
  rw [← hT, hQ4, hI20, hD56]
  clear hT g0 g1 g2 hQ hI hQ4 hI20 hD56
  clear hqs hc
  obtain ⟨b1, o1, rfl, hb1, hC⟩ := HQ.out k hkq
  rw [show Qt.a0 = ((0, 0) : Int × Int) from rfl] at hC
  obtain ⟨qv, hqv⟩ : ∃ q, q = f.quotas.getD k (0, 0) := ⟨_, rfl⟩
  rw [← hqv] at hC ⊢
  obtain ⟨C, hCn⟩ : ∃ C, C = cnt (useB f) (14 * k) 14 := ⟨_, rfl⟩
  have HPQ := Lib.hid (fun (h : qv.2 ≤ (C : Nat)) => pick_quota (p := useB f) (a := 14 * k) (m := 14) (q := qv.2) (by rw [← hCn]; exact h))
  have HPS := Lib.hid (fun (h : ¬ qv.2 ≤ (C : Nat)) j hk hp hn => pick_some (p := useB f) (a := 14 * k) (m := 14) (k := j) (q := qv.2) (by rw [← hCn]; exact h) hk hp hn)
  have HPN := Lib.hid (fun (h : ¬ qv.2 ≤ (C : Nat)) hp => pick_none (p := useB f) (a := 14 * k) (m := 14) (q := qv.2) (by rw [← hCn]; exact h) hp)
  have HCN := Lib.hid (fun (W : World) (v : Value) (hF : FsF.Holds W v f) => show Calls Tryz.prog 188 #[v, .int .i64 k] W fun e w' => e = .returned (.int .i64 (C : Nat)) ∧ Below W.heap.size W w' from by rw [hCn]; exact blk_any W v f k hk HCC.out HOK.out hF)
  have hCl := HCL.out
  rw [← hCn] at hCl
  obtain ⟨c0, c1⟩ := hC
  clear hqv hCn HCL
  have HB0 := Lib.hid ((Below.refl w.heap.size w).alloc (Nat.le_refl _) (.cells #[.int .i64 T, .slice (some ⟨b1, o1, none⟩) 4 qc, .slice ia 20 ic, .slice da 56 dc] 27))
  have HX0 := Lib.hid (new w #[.int .i64 T, .slice (some ⟨b1, o1, none⟩) 4 qc, .slice ia 20 ic, .slice da 56 dc] 27)
  go_enter Tryz.func145, Tryz.ntmps145
  go_wp2_with fail
  refine (HCN.out _ _ (FsF.holds_below HFS.out HB0.out)).mono ?_
  rintro e w1 ⟨rfl, hb⟩
  have HB1 := Lib.hid (HB0.out.trans (hb.mono HB0.out.size))
  have HX1 := Lib.hid (HX0.out.all hb)
  clear hb
  obtain ⟨x0, x1, x2, x3⟩ := Bk.c4 HX1.out
  have d0 := HB1.out.cell (p := ⟨b1, o1 + k * 2 + 1, none⟩) hb1
  rw [c1] at d0
  have hk4 : (k : Int) < 4 := by omega
  clear c0 c1
  have hw1 : IntKind.i64.wrap ((k : Int) * 14) = ((k * 14 : Nat) : Int) := by rw [IntKind.wrap_i64]; omega
  have hw2 : IntKind.i64.wrap (((k : Int) + 1) * 14) = ((k * 14 + 14 : Nat) : Int) := by rw [IntKind.wrap_i64]; omega
  by_cases hq : qv.2 ≤ (C : Nat)
  · have HF := Lib.hid (HPQ.out hq)
    go_wp2
    go_ret2
    exact ⟨ret_pair HF.out, HB1.out⟩
  · have HQQ := Lib.hid hq
    go_wp2_with fail
    clear d0 x0 x1 x2 x3 hq
    refine (FsK.used_any _ _ f HCC.out HUID.out (FsF.holds_below HFS.out HB1.out)).mono ?_
    rintro e w2 ⟨y, rfl, hrow, hb⟩
    obtain ⟨g, rfl, hrow⟩ := hrow HOWN.out
    rw [HOWN.out]
    have HROW := Lib.hid hrow
    have HB2 := Lib.hid (HB1.out.trans (hb.mono HB1.out.size))
    have HX2 := Lib.hid (HX1.out.all hb)
    clear hb hrow
    go_wp2
    go_loopw [9] (fun iv wr => ∃ j : Nat, j ≤ 14 ∧ iv = .int .i64 ((k * 14 + j : Nat) : Int) ∧ wr = w2 ∧ ∀ i, i < j → useB f (14 * k + i) = true) (fun iv _ => k * 14 + 14 - (intOf iv).toNat)
    case atStart => exact ⟨0, Nat.zero_le _, by first | rfl | (simp; done), by first | rfl | trivial, fun j hj => absurd hj (Nat.not_lt_zero _)⟩
    case round =>
      obtain ⟨j, hj, rfl, rfl, hall⟩ := hrel
      have HALL := Lib.hid hall
      clear hall
      by_cases hlt : j < 14
      · have e0 := HROW.out.cellAt (k * 14 + j) (by omega)
        rw [FsK.bl_at _ (k * 14 + j) (by omega)] at e0
        have huse : useB f (14 * k + j) = hasB (allB f.inodes) ((k * 14 + j : Nat) : Int) := by rw [useB, Nat.mul_comm 14 k]
        have HNX := Lib.hid (fun (h : useB f (14 * k + j) = true) => show ∀ i, i < j + 1 → useB f (14 * k + i) = true from fun i hi => (by
            rcases Nat.lt_or_ge i j with hij | hij
            · exact HALL.out i hij
            · rw [show i = j from by omega]; exact h))
        have HSO := Lib.hid (fun (h : useB f (14 * k + j) = false) => HPS.out HQQ.out j hlt HALL.out h)
        generalize hasB (allB f.inodes) ((k * 14 + j : Nat) : Int) = A at e0 huse
        obtain ⟨J, hJ⟩ : ∃ J, J = k * 14 + j := ⟨_, rfl⟩
        rw [← hJ] at e0 ⊢
        have hJ1 : (J : Int) < ((k * 14 + 14 : Nat) : Int) := by omega
        have hJ2 : (J : Int) < 56 := by omega
        have HJ := Lib.hid hJ
        have HU := Lib.hid huse
        clear hJ huse
        cases A
        · have HF := Lib.hid (HSO.out HU.out)
          go_wp2
          go_ret2
          exact ⟨ret_pair (by rw [HF.out, HJ.out, Nat.mul_comm 14 k]), HB2.out⟩
        · have HN := Lib.hid (HNX.out HU.out)
          go_wp2
          go_roundw
          case rel => exact ⟨j + 1, by omega, by rw [HJ.out]; go_num, by first | rfl | trivial, HN.out⟩
          case measure => simp [intOf]; have := HJ.out; omega
      · obtain rfl : j = 14 := by omega
        have HF := Lib.hid (HPN.out HQQ.out HALL.out)
        have hJ1 : ¬ (((k * 14 + 14 : Nat) : Int) < ((k * 14 + 14 : Nat) : Int)) := by omega
        go_wp2
        go_ret2
        exact ⟨ret_pair HF.out, HB2.out⟩

end Go.Proofs.YtbbnginolidedaaGreatDoor.FsH

-- YtbbnginolidedaaGreatDoorSpPt
/- Contract: the model's l09Put replaces bytes of a block. Conditions: the bytes lie within the block. -/
namespace Go.Proofs.YtbbnginolidedaaGreatDoor.SpPt
open Go.ChangeShapes Go.WideShapes Go.ChangeAt Go.RowKit
open RowG
open FsY (splice splice_at splice_len)
open FsZ (putB)
set_option linter.unusedVariables false

theorem ret_str {a b : ByteArray} (h : a = b) : Ending.returned (.string a) = .returned (.string b) := by rw [h]
/-- The block when k bytes have been put. -/
def prt (c : List UInt8) (o : Nat) (s : List UInt8) (k : Nat) : List UInt8 := splice c o (s.take k)
theorem prt_zero (c : List UInt8) (o : Nat) (s : List UInt8) : prt c o s 0 = c := by simp [prt, splice]
theorem prt_all (c : List UInt8) (o : Nat) (s : List UInt8) : prt c o s s.length = splice c o s := by simp [prt]
theorem prt_len {c : List UInt8} {o : Nat} {s : List UInt8} {k : Nat} (h : o + s.length ≤ c.length) (hk : k ≤ s.length) : (prt c o s k).length = c.length := by
  rw [prt, splice_len (by rw [List.length_take]; omega)]
theorem prt_set {c : List UInt8} {o : Nat} {s : List UInt8} {k : Nat} (h : o + s.length ≤ c.length) (hk : k < s.length) : (prt c o s k).set (o + k) s[k] = prt c o s (k + 1) := by
  refine List.ext_getElem? fun j => ?_
  have l1 : (s.take k).length = k := by rw [List.length_take]; omega
  have l2 : (s.take (k + 1)).length = k + 1 := by rw [List.length_take]; omega
  rw [List.getElem?_set, prt_len h (by omega), prt, prt, splice_at (by rw [l1]; omega), splice_at (by rw [l2]; omega), l1, l2, List.getElem?_take, List.getElem?_take]
  by_cases h1 : o + k = j
  · subst h1
    rw [if_pos rfl, if_pos (by omega), if_neg (by omega), if_pos (by omega), if_pos (by omega), Nat.add_sub_cancel_left, List.getElem?_eq_getElem hk]
  · rw [if_neg h1]
    by_cases h2 : j < o
    · rw [if_pos h2, if_pos h2]
    · rw [if_neg h2, if_neg h2]
      by_cases h3 : j < o + k
      · rw [if_pos h3, if_pos (by omega), if_pos (by omega), if_pos (by omega)]
      · rw [if_neg h3, if_neg (by omega)]

set_option maxRecDepth 100000 in
set_option maxHeartbeats 1600000 in
theorem put_spec (blk : ByteArray) (o : Nat) (s : ByteArray) (w : World) (hb : blk.size ≤ 4096) (hfit : o + s.size ≤ blk.size) :
    Calls Tryz.prog 147 #[.string blk, .int .i64 o, .string s] w fun e w' => e = .returned (.string (putB blk o s.data.toList)) ∧ Below w.heap.size w w' := by
  have hkc := Lib.run_convert_string_bytes (P := Tryz.prog) w 9 22 5 blk Tryz.underlying9 Tryz.underlying22 Tryz.underlying5
  have hby := bytes_own w 5 blk (by unfold maxLen; omega)
  have hll : blk.data.toList.length = blk.size := by simp
  have hsl : s.data.toList.length = s.size := by simp
  have hF : o + s.data.toList.length ≤ blk.data.toList.length := by omega
  have HF := Lib.hid hF
  have HLL := Lib.hid hll
  have HSL := Lib.hid hsl
  clear hF hll hsl
  go_enter Tryz.func147, Tryz.ntmps147
  go_wp2_with fail
  generalize Lib.bytesWorld w 5 blk = w1 at hby ⊢
  obtain ⟨hown, hb1⟩ := hby
  obtain ⟨cap, hcap⟩ : ∃ cap, cap = grownCap w blk.size 0 5 := ⟨_, rfl⟩
  rw [← hcap] at hown ⊢
  have HOWN := Lib.hid hown
  have HB := Lib.hid hb1
  have HKC := Lib.hid hkc
  clear hown hb1 hkc hcap
  go_loopw [8] (fun iv wr => ∃ k : Nat, k ≤ s.size ∧ iv = .int .i64 k ∧ OwnG wr w.heap.size 5 (.slice (some ⟨w.heap.size, 0, none⟩) blk.size cap) blk.size (cellsB (prt blk.data.toList o s.data.toList k)) ∧ Below w.heap.size w wr) (fun iv _ => s.size - (intOf iv).toNat)
  case atStart => exact ⟨0, Nat.zero_le _, rfl, by rw [prt_zero]; exact HOWN.out, HB.out⟩
  case round =>
    clear HOWN HB
    obtain ⟨k, hk, rfl, hown, hbe⟩ := hrel
    have HO := Lib.hid hown
    have HBE := Lib.hid hbe
    have hsz := hbe.size
    by_cases hlt : k < s.size
    · obtain ⟨hkl⟩ : k < s.data.toList.length ∧ True := ⟨by have := HSL.out; omega, trivial⟩
      have hst := (hown.stored (o + k) (.int .u8 (s.data.toList[k].toNat : Int)))
      rw [cellsB_set, prt_set HF.out hkl] at hst
      have hsk : s[k] = s.data.toList[k] := by simp [ByteArray.getElem_eq_getElem_data]
      rw [← hsk] at hst
      have cg : ∃ u, wr.cell? ⟨w.heap.size, o + k, none⟩ = some u := by
        rw [hown.cellAt (o + k) (by omega)]
        exact ⟨_, List.getElem?_eq_getElem (by rw [cellsB_length, prt_len HF.out (by omega)]; have := HLL.out; omega)⟩
      obtain ⟨u, cg⟩ := cg
      have fg := hown.frozenAt (o + k) (by omega)
      have HST := Lib.hid hst.1
      have HB2 := Lib.hid (hbe.grown hst.2 hsz (fun k' hk' => by cases hk'; exact Nat.le_refl _))
      have hbnd : o + k < blk.size := by omega
      have ho1 : o ≤ 4096 := by omega
      have hk1 : k ≤ 4096 := by omega
      clear hown hbe hst hsk
      go_wp2
      go_roundw
      case rel => exact ⟨k + 1, by omega, by go_num, HST.out, HB2.out⟩
      case measure => simp [intOf]; omega
    · obtain rfl : k = s.size := by omega
      have hbk := back HO.out
      have HBK := Lib.hid hbk
      clear hown hbe
      go_wp2_with fail
      go_ret
      exact ⟨ret_str (by unfold putB; rw [← prt_all, HSL.out]), HBE.out⟩
end Go.Proofs.YtbbnginolidedaaGreatDoor.SpPt

-- YtbbnginolidedaaGreatDoorSpWp
/- Facts on the model's writing: the state while blocks are written one by one (the copy's box, the inode's, its rows, the answer's), what each step leaves of it; the two functions that take the greater and the smaller of two ints. Conditions: as each theorem types them. -/
namespace Go.Proofs.YtbbnginolidedaaGreatDoor.SpWp
open Go.ChangeShapes Go.WideShapes Go.ChangeAt Go.RowKit
open Foot Bx
open InoV (I okI usedV needV hasB)
open FsV (F okF e0 z32 usersB allB Half pick useB)
open FsY FsZ FoB FsWm
open CoR (mid mid_set mid_skip mid_len mid_zero)
set_option linter.unusedVariables false

theorem max_spec (a b : Int) (w : World) : Calls Tryz.prog 143 #[.int .i64 a, .int .i64 b] w fun e w' => e = .returned (.int .i64 (max a b)) ∧ w = w' := by
  by_cases h : b < a
  · have e1 : max a b = a := by omega
    rw [e1]
    go_enter Tryz.func143, Tryz.ntmps143
    go_wp2
    go_ret
    exact ⟨rfl, rfl⟩
  · have e1 : max a b = b := by omega
    rw [e1]
    have h2 : ¬ a > b := h
    go_enter Tryz.func143, Tryz.ntmps143
    go_wp2
    go_ret
    exact ⟨rfl, rfl⟩
theorem min_spec (a b : Int) (w : World) : Calls Tryz.prog 146 #[.int .i64 a, .int .i64 b] w fun e w' => e = .returned (.int .i64 (min a b)) ∧ w = w' := by
  by_cases h : a < b
  · have e1 : min a b = a := by omega
    rw [e1]
    go_enter Tryz.func146, Tryz.ntmps146
    go_wp2
    go_ret
    exact ⟨rfl, rfl⟩
  · have e1 : min a b = b := by omega
    rw [e1]
    go_enter Tryz.func146, Tryz.ntmps146
    go_wp2
    go_ret
    exact ⟨rfl, rfl⟩

/-- The blocks that are not to be touched. -/
def Rr (w : World) (b nb g : Nat) (y1 y2 : Value) : List Nat := [w.heap.size, w.heap.size + 1, b, nb, g] ++ fpR y1 ++ fpR y2
/-- The state while blocks are written. -/
def WI (w : World) (lo b nb B H0 : Nat) (f : F) (N : I) (q : Value) (gi ci gd cd g M c : Nat) (y1 y2 : Value) (fb : Array Value) (l0 : List Int) (o : Nat) (ins : List I) (d : List ByteArray) (pre : List Int) (W : World) : Prop :=
  ∃ S, FO W lo b { f with inodes := ins, data := d } q gi ci gd cd S ∧ Bk W nb #[.int .i64 N.kind, .int .i64 N.mode, .int .i64 N.uid, .int .i64 N.gid, .int .i64 N.links, .int .i64 N.size, .int .i64 N.tick, .slice (some ⟨g, 0, none⟩) M c, y1, y2] 34 ∧ W.ownsRow B 3 1 (.slice (some ⟨g, 0, none⟩) M c) M (NiF.cells (mid l0 o pre)) ∧ AeF.Own W B y1 N.acl (fpR y1) ∧ AeF.Own W B y2 N.dflt (fpR y2) ∧ Bk W w.heap.size fb 27 ∧ Bk W (w.heap.size + 1) #[.int .i64 0, .slice none 0 0, .slice none 0 0, .slice none 0 0] 27 ∧ Apart S (Rr w b nb g y1 y2) ∧ H0 ≤ W.heap.size ∧ Below w.heap.size w W
/-- What does not change in it. -/
structure WS (w : World) (lo b nb B H0 g M : Nat) (l0 : List Int) (y1 y2 : Value) : Prop where
  low : ∀ x ∈ Rr w b nb g y1 y2, x < H0
  base : w.heap.size ≤ lo ∧ w.heap.size ≤ B ∧ w.heap.size ≤ b ∧ w.heap.size ≤ nb ∧ w.heap.size ≤ g
  gb : g ≠ b ∧ g ≠ nb ∧ g ≠ w.heap.size ∧ g ≠ w.heap.size + 1
  gy : g ∉ fpR y1 ∧ g ∉ fpR y2
  len : l0.length = M
section
variable {w W W' : World} {lo b nb B H0 : Nat} {f : F} {N : I} {q : Value} {gi ci gd cd g M c : Nat} {y1 y2 : Value} {fb : Array Value} {l0 : List Int} {o : Nat} {ins : List I} {d : List ByteArray} {pre : List Int}
theorem wi_below (h : WI w lo b nb B H0 f N q gi ci gd cd g M c y1 y2 fb l0 o ins d pre W) (hb : Below W.heap.size W W') : WI w lo b nb B H0 f N q gi ci gd cd g M c y1 y2 fb l0 o ins d pre W' := by
  obtain ⟨S, h1, h2, h3, h4, h5, h6, h7, h8, h9, h10⟩ := h
  exact ⟨S, h1.below hb, h2.all hb, row_below h3 hb, AeF.own_below h4 hb, AeF.own_below h5 hb, h6.all hb, h7.all hb, h8, Nat.le_trans h9 hb.size, h10.trans (hb.mono h10.size)⟩
theorem in_rr {x : Nat} (h : x ∈ [w.heap.size, w.heap.size + 1, b, nb, g]) : x ∈ Rr w b nb g y1 y2 := by unfold Rr; simp only [List.mem_append]; exact .inl (.inl h)
/-- A change of blocks that the file system alone has. -/
theorem wi_chg {S S' T : List Nat} {ins' : List I} {d' : List ByteArray} (hs : WS w lo b nb B H0 g M l0 y1 y2) (h : WI w lo b nb B H0 f N q gi ci gd cd g M c y1 y2 fb l0 o ins d pre W) (hc : Chg W W' T) (hT : ∀ x ∈ T, x ∉ Rr w b nb g y1 y2 ∧ w.heap.size ≤ x) (hfo : FO W' lo b { f with inodes := ins', data := d' } q gi ci gd cd S') (hS' : Apart S' (Rr w b nb g y1 y2)) : WI w lo b nb B H0 f N q gi ci gd cd g M c y1 y2 fb l0 o ins' d' pre W' := by
  obtain ⟨S0, h1, h2, h3, h4, h5, h6, h7, h8, h9, h10⟩ := h
  have nin : ∀ x, x ∈ Rr w b nb g y1 y2 → x ∉ T := fun x hx hh => (hT x hh).1 hx
  have hap : ∀ L : List Nat, (∀ x ∈ L, x ∈ Rr w b nb g y1 y2) → Apart L T := fun L hL x hx => nin x (hL x hx)
  have hgf : ∀ x ∈ fpR (.slice (some ⟨g, 0, none⟩) M c), x ∈ Rr w b nb g y1 y2 := fun x hx => by
    have e : x = g := by simpa [fpR, Value.ownBlock] using hx
    rw [e]; exact in_rr (by simp)
  exact ⟨S', hfo, FoB.Bk.chg h2 hc (nin _ (in_rr (by simp))), row_chg h3 hc (hap _ hgf), AeF.own_chg h4 hc (hap _ (fun x hx => by unfold Rr; simp [hx])), AeF.own_chg h5 hc (hap _ (fun x hx => by unfold Rr; simp [hx])), FoB.Bk.chg h6 hc (nin _ (in_rr (by simp))), FoB.Bk.chg h7 hc (nin _ (in_rr (by simp))), hS', Nat.le_trans h9 hc.size, h10.trans (hc.below h10.size (fun x hx => (hT x hx).2))⟩
theorem wi_data (hs : WS w lo b nb B H0 g M l0 y1 y2) (h : WI w lo b nb B H0 f N q gi ci gd cd g M c y1 y2 fb l0 o ins d pre W) {t : Nat} (ht : t < 56) (s : ByteArray) : WI w lo b nb B H0 f N q gi ci gd cd g M c y1 y2 fb l0 o ins (d.set t s) pre (W.setCell ⟨gd, t, none⟩ (.string s)) := by
  have h' := h
  obtain ⟨S, h1, h2, h3, h4, h5, h6, h7, h8, h9, h10⟩ := h
  have hb := hs.base
  refine wi_chg (S := S) (S' := S) (T := [gd]) hs h' (chg_set W ⟨gd, t, none⟩ (.string s)) (fun x hx => ?_) (h1.setD ht s) h8
  rw [List.mem_singleton] at hx
  subst hx
  exact ⟨h8 _ h1.gd_mem, by have := h1.gd_lt.1; omega⟩
theorem wi_set {x : Int} (hs : WS w lo b nb B H0 g M l0 y1 y2) (h : WI w lo b nb B H0 f N q gi ci gd cd g M c y1 y2 fb l0 o ins d pre W) (hj : o + pre.length < l0.length) : WI w lo b nb B H0 f N q gi ci gd cd g M c y1 y2 fb l0 o ins d (pre ++ [x]) (W.setCell ⟨g, o + pre.length, none⟩ (.int .i64 x)) := by
  obtain ⟨S, h1, h2, h3, h4, h5, h6, h7, h8, h9, h10⟩ := h
  have hc := chg_set W ⟨g, o + pre.length, none⟩ (.int .i64 x)
  have hb := hs.base
  have hg := hs.gb
  have hy := hs.gy
  have one : ∀ T : List Nat, g ∉ T → Apart T [g] := fun T hT y hy hh => by rw [List.mem_singleton] at hh; exact hT (hh ▸ hy)
  have hst := (h3.stored (o + pre.length) (.int .i64 x)).1
  rw [show (NiF.cells (mid l0 o pre)).set (o + pre.length) (.int .i64 x) = NiF.cells ((mid l0 o pre).set (o + pre.length) x) from by simp [NiF.cells, List.map_set], mid_set x hj] at hst
  exact ⟨S, h1.chg hc (by simp; exact fun e => hg.1 e.symm) (one _ fun hh => h8 _ hh (in_rr (by simp))), FoB.Bk.chg h2 hc (by simp; exact fun e => hg.2.1 e.symm), hst, AeF.own_chg h4 hc (one _ hy.1), AeF.own_chg h5 hc (one _ hy.2), FoB.Bk.chg h6 hc (by simp; exact fun e => hg.2.2.1 e.symm), FoB.Bk.chg h7 hc (by simp; exact fun e => hg.2.2.2 e.symm), h8, by simp; exact h9, h10.trans (FoB.Chg.from hc h10.size hb.2.2.2.2)⟩
theorem wi_skip (h : WI w lo b nb B H0 f N q gi ci gd cd g M c y1 y2 fb l0 o ins d pre W) (hj : o + pre.length < l0.length) : WI w lo b nb B H0 f N q gi ci gd cd g M c y1 y2 fb l0 o ins d (pre ++ [l0.getD (o + pre.length) 0]) W := by
  obtain ⟨S, h1, h2, h3, h4⟩ := h
  exact ⟨S, h1, h2, by rw [← mid_skip hj]; exact h3, h4⟩
theorem wi_ino {W0 : World} {k : Nat} {n' : I} {T : List Nat} {u0 u1 u2 u3 u4 u5 u6 u7 u8 u9 : Value} (hs : WS w lo b nb B H0 g M l0 y1 y2) (h0 : WI w lo b nb B H0 f N q gi ci gd cd g M c y1 y2 fb l0 o ins d pre W0) (hbl : Below W0.heap.size W0 W) (hk : k < 20) (hn0 : In.Own W W0.heap.size (.agg #[u0, u1, u2, u3, u4, u5, u6, u7, u8, u9]) n' T) : WI w lo b nb B H0 f N q gi ci gd cd g M c y1 y2 fb l0 o (ins.set k n') d pre (FoB.row10 W gi k u0 u1 u2 u3 u4 u5 u6 u7 u8 u9) := by
  have h := wi_below h0 hbl
  have h' := h
  have hL := In.own_lies hn0
  obtain ⟨S, z1, _, _, _, _, _, _, z8, z9, _⟩ := h0
  have h1 := z1.below hbl
  have hT : ∀ x ∈ T, x ∉ Rr w b nb g y1 y2 := fun x hx hh => by
    have := (hL x hx).1
    have := hs.low x hh
    omega
  have hTS : Apart T S := fun x hx hh => by
    have := (hL x hx).1
    have := (z1.lies x hh).2
    omega
  have hn := In.own_mono hn0 (show lo ≤ W0.heap.size from by have := z1.gd_lt; omega)
  have h8 := z8
  have hb := hs.base
  obtain ⟨S', hfo, hsub⟩ := h1.setI hk hn hTS (fun hh => hT _ hh (in_rr (by simp)))
  refine wi_chg (S := S) (S' := S') (T := [gi]) hs h' (FoB.row10_chg W gi k u0 u1 u2 u3 u4 u5 u6 u7 u8 u9) (fun x hx => ?_) hfo (fun x hx => ?_)
  · rw [List.mem_singleton] at hx
    subst hx
    exact ⟨h8 _ h1.gi_mem, by have := h1.gi_lt.1; omega⟩
  · rcases hsub x hx with hx | hx
    · exact h8 x hx
    · exact hT x hx
end

/-! The numbers: what is done so far. -/
def VI (f : F) (k u : Nat) (N : I) (qv : Int) (win l0 : List Int) (o j : Nat) (pre : List Int) (s : Int → Bool) (ins : List I) : Prop :=
  Don (14 * u) qv isHole (hasB (allB f.inodes)) s (win.take j) pre ∧ (∀ z, s z = (hasB (allB f.inodes) z || hasB pre z)) ∧ ((ins = f.inodes ∧ ∀ z ∈ pre, z ∈ allB f.inodes) ∨ ins = f.inodes.set k { N with blocks := mid l0 o pre })
theorem has_snoc2 (pre : List Int) (x z : Int) : hasB (pre ++ [x]) z = (hasB pre z || decide (z = x)) := by
  rw [FsV.has_snoc]
  congr 1
  exact decide_eq_decide.2 eq_comm
theorem vi_zero (f : F) (k u : Nat) (N : I) (qv : Int) (win l0 : List Int) (o : Nat) : VI f k u N qv win l0 o 0 [] (hasB (allB f.inodes)) f.inodes :=
  ⟨don_zero _ _ _ _, fun z => by show _ = (_ || false); simp, .inl ⟨rfl, fun z hz => by cases hz⟩⟩
section
variable {f : F} {k u : Nat} {N : I} {qv : Int} {win l0 : List Int} {o j L : Nat} {pre : List Int} {s : Int → Bool} {ins : List I}
theorem vi_len (h : VI f k u N qv win l0 o j pre s ins) (hj : j ≤ win.length) : pre.length = j := by
  have := don_len h.1
  rw [this, List.length_take]; omega
theorem vi_skip (h : VI f k u N qv win l0 o j pre s ins) (hj : j < win.length) (hw : win.getD j 0 = l0.getD (o + j) 0) (hl : o + j < l0.length) (hb : l0.getD (o + j) 0 ≠ -1) (hu : l0.getD (o + j) 0 ∈ allB f.inodes) : VI f k u N qv win l0 o (j + 1) (pre ++ [l0.getD (o + pre.length) 0]) s ins := by
  have hp := vi_len h (by omega)
  obtain ⟨h1, h2, h3⟩ := h
  refine ⟨?_, fun z => ?_, ?_⟩
  · rw [take_next hj, hp, ← hw]
    exact don_skip h1 (by rw [hw]; simpa [isHole] using hb)
  · rw [has_snoc2, h2 z, hp]
    by_cases e : z = l0.getD (o + j) 0
    · subst e
      rw [FsV.has_mem.2 hu]; simp
    · rw [decide_eq_false e]; simp
  · rcases h3 with ⟨h3, h4⟩ | h3
    · refine .inl ⟨h3, fun z hz => ?_⟩
      rcases List.mem_append.1 hz with hz | hz
      · exact h4 z hz
      · rw [List.mem_singleton, hp] at hz
        rw [hz]; exact hu
    · exact .inr (by rw [← mid_skip (by rw [hp]; exact hl)]; exact h3)
theorem vi_new {x : Int} (h : VI f k u N qv win l0 o j pre s ins) (hj : j < win.length) (hw : win.getD j 0 = l0.getD (o + j) 0) (hb : l0.getD (o + j) 0 = -1) (hp : pk (14 * u) qv s = (x, 0)) : VI f k u N qv win l0 o (j + 1) (pre ++ [x]) (more s x) (ins.set k { N with blocks := mid l0 o (pre ++ [x]) }) := by
  obtain ⟨h1, h2, h3⟩ := h
  refine ⟨?_, fun z => ?_, .inr ?_⟩
  · rw [take_next hj]
    exact don_new h1 (by rw [hw, hb]; rfl) hp
  · rw [has_snoc2]
    unfold more
    rw [h2 z, Bool.or_comm, Bool.or_assoc]
  · rcases h3 with ⟨h3, _⟩ | h3
    · rw [h3]
    · rw [h3, List.set_set]
theorem vi_fail {x c : Int} (h : VI f k u N qv win l0 o j pre s ins) (hj : j < win.length) (hw : win.getD j 0 = l0.getD (o + j) 0) (hb : l0.getD (o + j) 0 = -1) (hp : pk (14 * u) qv s = (x, c)) (hc : c ≠ 0) : (renew (14 * u) qv isHole (hasB (allB f.inodes)) win).2 = c := by
  rw [take_split hj]
  exact don_fail h.1 (by rw [hw, hb]; rfl) hp hc
theorem vi_end (h : VI f k u N qv win l0 o win.length pre s ins) : renew (14 * u) qv isHole (hasB (allB f.inodes)) win = (pre, 0) := by
  have := don_all h.1
  rwa [List.take_length] at this
/-- What the allocation finds. -/
theorem vi_half (g : GoodF f k) (hu : (ino f k).uid = u) {m : Nat} (hl : l0 = holes (ino f k).blocks m) (hm : (ino f k).blocks.length ≤ m) (ho : o ≤ l0.length) (hw : win = (l0.take L).drop o) (hN : N.uid = u) (hj : j ≤ win.length) (h : VI f k u N qv win l0 o j pre s ins) (d : List ByteArray) (hd : d.length = 56) : Half { f with inodes := ins, data := d } ∧ pick (useB { f with inodes := ins, data := d }) (14 * u) 14 qv = pk (14 * u) qv s ∧ Fil u (allB f.inodes) l0 o pre := by
  obtain ⟨h1, h2, h3⟩ := h
  have hf : Fil u (allB f.inodes) l0 o pre := fil_of ho (j := j) (by rw [← hw]; exact hj) (by rw [← hw]; exact h1)
  have hh := FsV.half_of g.ok
  have key : ∀ ns : List I, (∀ z, hasB (allB ns) z = (hasB (allB f.inodes) z || hasB pre z)) → pick (useB { f with inodes := ns, data := d }) (14 * u) 14 qv = pk (14 * u) qv s := fun ns hz => pick_congr fun y _ => by
    show hasB (allB ns) _ = s _
    rw [hz, h2]
  rcases h3 with ⟨rfl, h4⟩ | rfl
  · refine ⟨⟨hh.quotas, hh.inodes, hd, hh.uids, hh.own⟩, key _ (fun z => ?_), hf⟩
    by_cases e : hasB pre z = true
    · rw [e, FsV.has_mem.2 (h4 z (FsV.has_mem.1 e))]; rfl
    · rw [Bool.not_eq_true] at e
      rw [e, Bool.or_false]
  · obtain ⟨r1, r2⟩ := fil_half (n' := { N with blocks := mid l0 o pre }) g hu hl hm hf hN rfl d hd
    exact ⟨r1, key _ r2, hf⟩
/-- What the file system takes up then. -/
theorem vi_cost (g : GoodF f k) (hM : l0.length ≤ 8) (hNa : N.acl = (ino f k).acl ∧ N.dflt = (ino f k).dflt) (hf : Fil u (allB f.inodes) l0 o pre) (h : VI f k u N qv win l0 o j pre s ins) (d : List ByteArray) (hd : d.length = 56) (hs : ∀ x ∈ d, x.size = 32) : FsF.cost { f with inodes := ins, data := d } ≤ 4096 := by
  have hp := FsV.parts_of (FsV.ok_parts g.ok).2.1
  have h1 := AclV.ok_len (InoV.ok_acls g.inode).1
  have h2 := AclV.ok_len (InoV.ok_acls g.inode).2
  have hcs : IF.csum ins ≤ 20 * ins.length ∧ ins.length = 20 := by
    rcases h.2.2 with ⟨rfl, _⟩ | rfl
    · exact ⟨FsOk.csum_ok _ hp.2.2.2.2.1, hp.2.1⟩
    · refine ⟨?_, by rw [List.length_set]; exact hp.2.1⟩
      have hall : ∀ n ∈ f.inodes.set k { N with blocks := mid l0 o pre }, In.cost n ≤ 20 := fun n hn => by
        rcases List.mem_or_eq_of_mem_set hn with hn | rfl
        · exact FsOk.inode_cost (hp.2.2.2.2.1 n hn)
        · show (mid l0 o pre).length + N.acl.length + N.dflt.length ≤ 20
          rw [mid_len hf.fit, hNa.1, hNa.2]; omega
      have : ∀ l : List I, (∀ n ∈ l, In.cost n ≤ 20) → IF.csum l ≤ 20 * l.length := by
        intro l
        induction l with
        | nil => intro _; exact Nat.le_refl _
        | cons a r ih =>
          intro hl
          have e : IF.csum (a :: r) = In.cost a + IF.csum r := by simp [IF.csum]
          have := hl a (by simp)
          have := ih fun x hx => hl x (by simp [hx])
          rw [e, List.length_cons]; omega
      exact this _ hall
  have e2 := FsOk.data_cost d hs
  show QF.cost f.quotas + (ins.length + IF.csum ins) + SF.cost d ≤ 4096
  have e3 : QF.cost f.quotas = f.quotas.length := rfl
  have := hp.1
  omega
theorem vi_rng (g : GoodF f k) (hu : (ino f k).uid = u) (hu3 : u ≤ 3) {m : Nat} (hl : l0 = holes (ino f k).blocks m) (hm : (ino f k).blocks.length ≤ m) (hf : Fil u (allB f.inodes) l0 o pre) : ∀ b ∈ pre, 0 ≤ b ∧ b ≤ 55 := fun b hb => by
  rcases pre_in hf hb with ⟨t, ht, e, h1, h2⟩ | ⟨t, ht, e, h1, h2, kk, hk, h3⟩
  · rw [hl, holes_used hm h2] at h1
    exact (FsV.own_facts g.ok).2 b (g.used (usedV_of.2 ⟨h1, h2⟩))
  · omega
theorem seg_len (a : Nat) (s : List UInt8) (g : GoodF f k) : (segD a s o pre f.data).length = 56 := by rw [segD_len]; exact g.dlen
theorem seg_sz {a : Nat} {s : List UInt8} (g : GoodF f k) (hr : ∀ b ∈ pre, 0 ≤ b ∧ b ≤ 55) (h1 : a / 32 ≤ o) (h2 : ∀ t, t < pre.length → 32 * (o + t) < a + s.length) : ∀ x ∈ segD a s o pre f.data, x.size = 32 :=
  segD_size a s pre o f.data g.dsz (fun t ht => (seg_fit (by omega) (h2 t ht)).1) (fun b hb => by rw [g.dlen]; have := hr b hb; omega)
theorem old_used (g : GoodF f k) {m : Nat} (hl : l0 = holes (ino f k).blocks m) (hm : (ino f k).blocks.length ≤ m) {t : Nat} (ht : t < l0.length) (hb : l0.getD t 0 ≠ -1) : l0.getD t 0 ∈ allB f.inodes := by
  have h1 : l0.getD t 0 ∈ l0 := FsV.mem_getD ht
  have h2 : l0.getD t 0 ∈ holes (ino f k).blocks m := by rw [← hl]; exact h1
  rw [holes_used hm hb] at h2
  exact g.used (usedV_of.2 ⟨h2, hb⟩)
end
/-- What the round's test leaves. -/
def Stp (f : F) (k u : Nat) (N : I) (qv : Int) (win l0 : List Int) (o j : Nat) (pre : List Int) (Q : List I → List Int → World → Prop) (W : World) : Prop :=
  ∃ (x : Nat) (s : Int → Bool) (ins : List I), x < 56 ∧ VI f k u N qv win l0 o (j + 1) (pre ++ [(x : Int)]) s ins ∧ Q ins (pre ++ [(x : Int)]) W
/-- A part of the string. -/
theorem part_seg (s : ByteArray) (a K : Nat) : (s.extract (max a (32 * K) - a) (min (a + s.data.toList.length) (32 * K + 32) - a)).data.toList = segS a s.data.toList K := by
  rw [ByteArray.data_extract, Array.toList_extract, List.extract_eq_take_drop]
  unfold segS
  rw [List.drop_take]
end Go.Proofs.YtbbnginolidedaaGreatDoor.SpWp
