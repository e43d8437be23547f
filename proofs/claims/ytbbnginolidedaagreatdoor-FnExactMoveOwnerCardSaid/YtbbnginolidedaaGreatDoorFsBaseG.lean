/- Helper texts joined, one behind another (a claim has at most 60 files): what each proves, its own head says: YtbbnginolidedaaGreatDoorFsH. -/
import Derived.Test.YtbbnginolidedaaGreatDoorFsBaseC
import Derived.Test.YtbbnginolidedaaGreatDoorFsBaseD
import Derived.Test.YtbbnginolidedaaGreatDoorFsBaseB

-- YtbbnginolidedaaGreatDoorFsH
/- Contracts and plain facts that a law of this seat leans on. Conditions: as each theorem types them. -/
namespace Go.Proofs.YtbbnginolidedaaGreatDoor.FsH
open Go.ChangeShapes Go.WideShapes Go.ChangeAt Go.RowKit
open Foot Bx
open InoV (I usedV hasB)
open FsV (F cnt first pick useI useB usersB okF inoV blkV nextI nextB cntO allB ownerV)
open Dk (ret_bool)
open Strs (ret_int)
open FsC (pairV ret_pair pick_quota pick_some pick_none)
set_option linter.unusedVariables false

theorem user_spec (u : Int) (w : World) : Calls Tryz.prog 93 #[.int .i64 u] w fun e w' => e = .returned (.bool (usersB u)) ∧ w = w' := Pm.user_spec u w

set_option maxRecDepth 100000 in
set_option maxHeartbeats 3200000 in
theorem blk_any (w : World) (v : Value) (f : F) (k : Nat) (hk : k ≤ 3) (hc : FsF.cost f ≤ 1073741824) (hok : FsV.Half f) (h : FsF.Holds w v f) :
    Calls Tryz.prog 188 #[v, .int .i64 k] w fun e w' => e = .returned (.int .i64 (cnt (useB f) (14 * k) 14 : Nat)) ∧ Below w.heap.size w w' := by
  rw [FsV.blk_own hok hk]
  have hcs : IF.csum f.inodes ≤ 1073741824 := Nat.le_trans (Nat.le_trans (Nat.le_add_left _ _) (FsF.le_inodes f)) hc
  have HCA := Lib.hid (fun i (hi : i < f.inodes.length) => Nat.le_trans (IF.cost_at hi) hcs)
  have HSL := Lib.hid (fun i j hi => Nat.le_trans (FsU.seen_len f.inodes i j hi) hcs)
  obtain ⟨r0, r1, r2, rfl, g0, g1, g2⟩ := h
  obtain ⟨qa, qc, rfl, hQ⟩ := Qt.atL g0
  obtain ⟨ia, ic, rfl, _, hI⟩ := IF.atL g1
  obtain ⟨da, dc, rfl⟩ := SF.form g2
  have HQ := Lib.hid hQ
  have HI := Lib.hid hI
  obtain ⟨hQ4, hI20, hD56, hqs, _⟩ := hok
  have HL1 := Lib.hid hQ4
  have HL2 := Lib.hid hI20
  obtain ⟨T, hT⟩ : ∃ T, T = f.tick := ⟨_, rfl⟩
  rw [← hT, hQ4, hI20, hD56]
  clear hT g0 g1 g2 hQ hI hQ4 hI20 hD56
  clear hqs hc hcs
  obtain ⟨l, hll⟩ : ∃ l, l = f.inodes := ⟨_, rfl⟩
  rw [← hll] at HI HCA HSL HL2 ⊢
  clear hll
  have HB0 := Lib.hid ((Below.refl w.heap.size w).alloc (Nat.le_refl _) (.cells #[.int .i64 T, .slice qa 4 qc, .slice ia 20 ic, .slice da 56 dc] 27))
  have HX0 := Lib.hid (new w #[.int .i64 T, .slice qa 4 qc, .slice ia 20 ic, .slice da 56 dc] 27)
  go_enter Tryz.func188, Tryz.ntmps188
  go_wp2
  go_loopw [5, 13] (fun nv iv wr => ∃ i : Nat, i ≤ 20 ∧ iv = .int .i64 i ∧ nv = .int .i64 (cntO k (FsV.seen l i 0) : Nat) ∧ Below w.heap.size w wr) (fun _ iv _ => 20 - (intOf iv).toNat)
  case atStart => exact ⟨0, Nat.zero_le _, rfl, rfl, HB0.out⟩
  case round =>
    obtain ⟨i, hi, rfl, rfl, hbel⟩ := hrel
    have HB := Lib.hid hbel
    have hsz := hbel.size
    clear hbel HB0 HX0
    by_cases hlt : i < 20
    · have hlx : i < l.length := by rw [HL2.out]; exact hlt
      obtain ⟨b, o, rfl, hb, r0, r1, r2, hC, hP⟩ := HI.out i hlx
      obtain ⟨p0, p1, p2⟩ := hP
      obtain ⟨a0, d0, rfl, hble, hbat⟩ := p0
      obtain ⟨a1, d1, rfl⟩ := AeF.form p1
      obtain ⟨a2, d2, rfl⟩ := AeF.form p2
      obtain ⟨c0, c1, c2, c3, c4, c5, c6, c7, c8, c9⟩ := hC.below hb HB.out
      clear hC p1 p2
      have hcx := HCA.out i hlx
      have HBA := Lib.hid hbat
      have HE1 := Lib.hid (FsV.seen_end l i hlx)
      have HSN := Lib.hid (FsV.seen_snoc l i)
      have HSI := Lib.hid (fun j => HSL.out i j hlx)
      have HLE := Lib.hid (fun (u : Int) (x : List Int) => show cntO u x ≤ x.length from List.length_filter_le _ _)
      rw [show InoV.zero = IF.z0 from rfl] at HE1 HSN
      clear hbat
      generalize l.getD i IF.z0 = n at c0 c1 c2 c3 c4 c5 c6 c7 c8 c9 hcx HBA HE1 HSN hble
      have hbl : n.blocks.length ≤ 1073741824 := Nat.le_trans (In.le_blocks n) hcx
      obtain ⟨m, hm⟩ : ∃ m, m = n.blocks.length := ⟨_, rfl⟩
      have HJE := Lib.hid (FsK.jj_end n.blocks m hm)
      rw [← hm] at c7 hbl hble HBA
      have HML := Lib.hid hm
      clear hm
      have HN := Lib.hid (HB.out.alloc hsz (.cells #[.int .i64 n.kind, .int .i64 n.mode, .int .i64 n.uid, .int .i64 n.gid, .int .i64 n.links, .int .i64 n.size, .int .i64 n.tick, .slice a0 m d0, .slice a1 n.acl.length d1, .slice a2 n.dflt.length d2] 34))
      have HIX := Lib.hid (show FsK.jj n.blocks 0 = 0 from FsK.jj_zero _)
      go_wp2
      rw [show decide ((i : Int) < 20) = true from decide_eq_true (by omega)]
      generalize wr.alloc (.cells #[.int .i64 n.kind, .int .i64 n.mode, .int .i64 n.uid, .int .i64 n.gid, .int .i64 n.links, .int .i64 n.size, .int .i64 n.tick, .slice a0 m d0, .slice a1 n.acl.length d1, .slice a2 n.dflt.length d2] 34) = w9 at *
      clear c0 c1 c2 c3 c4 c5 c6 c7 c8 c9
      go_loopw [5, 20] (fun nv jv wq => ∃ j : Nat, j ≤ m ∧ jv = .int .i64 j ∧ nv = .int .i64 (cntO k (FsV.seen l i (FsK.jj n.blocks j)) : Nat) ∧ wq = w9) (fun _ jv _ => m - (intOf jv).toNat)
      case atStart => exact ⟨0, Nat.zero_le _, rfl, by rw [HIX.out], by first | rfl | trivial⟩
      case round =>
        obtain ⟨j, hj, rfl, rfl, rfl⟩ := hrel
        have hbd := Nat.le_trans (HLE.out (k : Int) (FsV.seen l i (FsK.jj n.blocks j))) (HSI.out (FsK.jj n.blocks j))
        by_cases hltj : j < m
        · obtain ⟨b2, o2, rfl, hlt2, g0⟩ := HBA.out j hltj
          rw [← HN.out.cell (p := ⟨b2, o2 + j, none⟩) hlt2] at g0
          have hjl : j < n.blocks.length := by rw [← HML.out]; exact hltj
          have HJH := Lib.hid (fun h => FsK.jj_hole (l := n.blocks) hjl h)
          have HJB := Lib.hid (fun h => FsK.jj_block (l := n.blocks) hjl h)
          generalize n.blocks.getD j 0 = x at g0 HJH HJB
          by_cases hm1 : x = -1
          · subst hm1
            have HS := Lib.hid (show cntO k (FsV.seen l i (FsK.jj n.blocks (j + 1))) = cntO k (FsV.seen l i (FsK.jj n.blocks j)) from by rw [HJH.out rfl])
            generalize cntO (k : Int) (FsV.seen l i (FsK.jj n.blocks j)) = C at hbd HS ⊢
            go_wp2
            go_roundw
            case rel => exact ⟨j + 1, by omega, by go_num, by rw [HS.out], by first | rfl | trivial⟩
            case measure => simp [intOf]; omega
          · obtain ⟨hj1, hj2, hj3⟩ := HJB.out hm1
            have hx1 : (x == -1) = false := by simpa using hm1
            have hx2 : (x != -1) = true := by simpa using hm1
            have HSJ := Lib.hid (show cntO k (FsV.seen l i (FsK.jj n.blocks (j + 1))) = cntO k (FsV.seen l i (FsK.jj n.blocks j)) + (if ownerV x = (k : Int) then 1 else 0) from by rw [hj1, HSN.out _ hj2, hj3, FsV.cntO_snoc])
            clear hj1 hj2 hj3 hm1 HJH HJB
            have HOW := Lib.hid (fun W => FsO.owner_spec x W)
            generalize cntO (k : Int) (FsV.seen l i (FsK.jj n.blocks j)) = C at hbd HSJ ⊢
            by_cases hown : ownerV x = (k : Int)
            · have HS := Lib.hid (show cntO k (FsV.seen l i (FsK.jj n.blocks (j + 1))) = C + 1 from by rw [HSJ.out, if_pos hown])
              have hB1 : (ownerV x == (k : Int)) = true := by simpa using hown
              clear hown
              go_wp2_with fail
              refine (HOW.out _).mono ?_
              rintro e w3 ⟨rfl, rfl⟩
              go_wp2
              go_roundw
              case rel => exact ⟨j + 1, by omega, by go_num, by rw [HS.out]; go_num, by first | rfl | trivial⟩
              case measure => simp [intOf]; omega
            · have HS := Lib.hid (show cntO k (FsV.seen l i (FsK.jj n.blocks (j + 1))) = C from by rw [HSJ.out, if_neg hown]; rfl)
              have hB1 : (ownerV x == (k : Int)) = false := by simpa using hown
              clear hown
              go_wp2_with fail
              refine (HOW.out _).mono ?_
              rintro e w3 ⟨rfl, rfl⟩
              go_wp2
              go_roundw
              case rel => exact ⟨j + 1, by omega, by go_num, by rw [HS.out], by first | rfl | trivial⟩
              case measure => simp [intOf]; omega
        · obtain rfl : j = m := by omega
          have HS := Lib.hid (show cntO (k : Int) (FsV.seen l (i + 1) 0) = cntO (k : Int) (FsV.seen l i (FsK.jj n.blocks j)) from by rw [← HE1.out, ← HJE.out])
          generalize cntO (k : Int) (FsV.seen l i (FsK.jj n.blocks j)) = C at hbd HS ⊢
          go_wp2
          go_roundw
          case rel => exact ⟨i + 1, by omega, by go_num, by rw [HS.out], HN.out⟩
          case measure => simp [intOf]; omega
    · obtain rfl : i = 20 := by omega
      have HS := Lib.hid (show cntO (k : Int) (FsV.seen l 20 0) = cntO (k : Int) (allB l) from by rw [FsV.seen_zero, List.take_of_length_le (by rw [HL2.out]; exact Nat.le_refl _)])
      rw [HS.out]
      go_wp2
      go_ret
      exact ⟨rfl, HB.out⟩

set_option maxRecDepth 100000 in
set_option maxHeartbeats 3200000 in
theorem nblk_any (w : World) (v : Value) (f : F) (k : Nat) (hk : k ≤ 3) (hc : FsF.cost f ≤ 1073741824) (hok : FsV.Half f) (h : FsF.Holds w v f) :
    Calls Tryz.prog 145 #[v, .int .i64 k] w fun e w' => e = .returned (pairV (pick (useB f) (14 * k) 14 (f.quotas.getD k (0, 0)).2)) ∧ Below w.heap.size w w' := by
  have HFS := Lib.hid h
  have HCC := Lib.hid hc
  have HOK := Lib.hid hok
  have HUID := Lib.hid (fun n (hn : n ∈ f.inodes) => (hok.uids n hn).1)
  have HOWN := Lib.hid hok.own
  obtain ⟨r0, r1, r2, rfl, g0, g1, g2⟩ := h
  obtain ⟨qa, qc, rfl, hQ⟩ := Qt.atL g0
  obtain ⟨ia, ic, rfl, _, hI⟩ := IF.atL g1
  obtain ⟨da, dc, rfl⟩ := SF.form g2
  have HQ := Lib.hid hQ
  have HI := Lib.hid hI
  obtain ⟨hQ4, hI20, hD56, hqs, _⟩ := hok
  have HL1 := Lib.hid hQ4
  have HL2 := Lib.hid hI20
  have HCL := Lib.hid (FsV.cnt_le (useB f) (14 * k) 14)
  have hkq : k < f.quotas.length := by omega
  rw [hQ4, hI20, hD56] at HFS
  obtain ⟨T, hT⟩ : ∃ T, T = f.tick := ⟨_, rfl⟩
  rw [← hT] at HFS
  rw [← hT, hQ4, hI20, hD56]
  clear hT g0 g1 g2 hQ hI hQ4 hI20 hD56
  clear hqs hc
  obtain ⟨b1, o1, rfl, hb1, hC⟩ := HQ.out k hkq
  rw [show Qt.a0 = ((0, 0) : Int × Int) from rfl] at hC
  obtain ⟨qv, hqv⟩ : ∃ q, q = f.quotas.getD k (0, 0) := ⟨_, rfl⟩
  rw [← hqv] at hC ⊢
  obtain ⟨C, hCn⟩ : ∃ C, C = cnt (useB f) (14 * k) 14 := ⟨_, rfl⟩
  have HPQ := Lib.hid (fun (h : qv.2 ≤ (C : Nat)) => pick_quota (p := useB f) (a := 14 * k) (m := 14) (q := qv.2) (by rw [← hCn]; exact h))
  have HPS := Lib.hid (fun (h : ¬ qv.2 ≤ (C : Nat)) j hk hp hn => pick_some (p := useB f) (a := 14 * k) (m := 14) (k := j) (q := qv.2) (by rw [← hCn]; exact h) hk hp hn)
  have HPN := Lib.hid (fun (h : ¬ qv.2 ≤ (C : Nat)) hp => pick_none (p := useB f) (a := 14 * k) (m := 14) (q := qv.2) (by rw [← hCn]; exact h) hp)
  have HCN := Lib.hid (fun (W : World) (v : Value) (hF : FsF.Holds W v f) => show Calls Tryz.prog 188 #[v, .int .i64 k] W fun e w' => e = .returned (.int .i64 (C : Nat)) ∧ Below W.heap.size W w' from by rw [hCn]; exact blk_any W v f k hk HCC.out HOK.out hF)
  have hCl := HCL.out
  rw [← hCn] at hCl
  obtain ⟨c0, c1⟩ := hC
  clear hqv hCn HCL
  have HB0 := Lib.hid ((Below.refl w.heap.size w).alloc (Nat.le_refl _) (.cells #[.int .i64 T, .slice (some ⟨b1, o1, none⟩) 4 qc, .slice ia 20 ic, .slice da 56 dc] 27))
  have HX0 := Lib.hid (new w #[.int .i64 T, .slice (some ⟨b1, o1, none⟩) 4 qc, .slice ia 20 ic, .slice da 56 dc] 27)
  go_enter Tryz.func145, Tryz.ntmps145
  go_wp2_with fail
  refine (HCN.out _ _ (FsF.holds_below HFS.out HB0.out)).mono ?_
  rintro e w1 ⟨rfl, hb⟩
  have HB1 := Lib.hid (HB0.out.trans (hb.mono HB0.out.size))
  have HX1 := Lib.hid (HX0.out.all hb)
  clear hb
  obtain ⟨x0, x1, x2, x3⟩ := Bk.c4 HX1.out
  have d0 := HB1.out.cell (p := ⟨b1, o1 + k * 2 + 1, none⟩) hb1
  rw [c1] at d0
  have hk4 : (k : Int) < 4 := by omega
  clear c0 c1
  have hw1 : IntKind.i64.wrap ((k : Int) * 14) = ((k * 14 : Nat) : Int) := by rw [IntKind.wrap_i64]; omega
  have hw2 : IntKind.i64.wrap (((k : Int) + 1) * 14) = ((k * 14 + 14 : Nat) : Int) := by rw [IntKind.wrap_i64]; omega
  by_cases hq : qv.2 ≤ (C : Nat)
  · have HF := Lib.hid (HPQ.out hq)
    go_wp2
    go_ret2
    exact ⟨ret_pair HF.out, HB1.out⟩
  · have HQQ := Lib.hid hq
    go_wp2_with fail
    clear d0 x0 x1 x2 x3 hq
    refine (FsK.used_any _ _ f HCC.out HUID.out (FsF.holds_below HFS.out HB1.out)).mono ?_
    rintro e w2 ⟨y, rfl, hrow, hb⟩
    obtain ⟨g, rfl, hrow⟩ := hrow HOWN.out
    rw [HOWN.out]
    have HROW := Lib.hid hrow
    have HB2 := Lib.hid (HB1.out.trans (hb.mono HB1.out.size))
    have HX2 := Lib.hid (HX1.out.all hb)
    clear hb hrow
    go_wp2
    go_loopw [9] (fun iv wr => ∃ j : Nat, j ≤ 14 ∧ iv = .int .i64 ((k * 14 + j : Nat) : Int) ∧ wr = w2 ∧ ∀ i, i < j → useB f (14 * k + i) = true) (fun iv _ => k * 14 + 14 - (intOf iv).toNat)
    case atStart => exact ⟨0, Nat.zero_le _, by first | rfl | (simp; done), by first | rfl | trivial, fun j hj => absurd hj (Nat.not_lt_zero _)⟩
    case round =>
      obtain ⟨j, hj, rfl, rfl, hall⟩ := hrel
      have HALL := Lib.hid hall
      clear hall
      by_cases hlt : j < 14
      · have e0 := HROW.out.cellAt (k * 14 + j) (by omega)
        rw [FsK.bl_at _ (k * 14 + j) (by omega)] at e0
        have huse : useB f (14 * k + j) = hasB (allB f.inodes) ((k * 14 + j : Nat) : Int) := by rw [useB, Nat.mul_comm 14 k]
        have HNX := Lib.hid (fun (h : useB f (14 * k + j) = true) => show ∀ i, i < j + 1 → useB f (14 * k + i) = true from fun i hi => (by
            rcases Nat.lt_or_ge i j with hij | hij
            · exact HALL.out i hij
            · rw [show i = j from by omega]; exact h))
        have HSO := Lib.hid (fun (h : useB f (14 * k + j) = false) => HPS.out HQQ.out j hlt HALL.out h)
        generalize hasB (allB f.inodes) ((k * 14 + j : Nat) : Int) = A at e0 huse
        obtain ⟨J, hJ⟩ : ∃ J, J = k * 14 + j := ⟨_, rfl⟩
        rw [← hJ] at e0 ⊢
        have hJ1 : (J : Int) < ((k * 14 + 14 : Nat) : Int) := by omega
        have hJ2 : (J : Int) < 56 := by omega
        have HJ := Lib.hid hJ
        have HU := Lib.hid huse
        clear hJ huse
        cases A
        · have HF := Lib.hid (HSO.out HU.out)
          go_wp2
          go_ret2
          exact ⟨ret_pair (by rw [HF.out, HJ.out, Nat.mul_comm 14 k]), HB2.out⟩
        · have HN := Lib.hid (HNX.out HU.out)
          go_wp2
          go_roundw
          case rel => exact ⟨j + 1, by omega, by rw [HJ.out]; go_num, by first | rfl | trivial, HN.out⟩
          case measure => simp [intOf]; have := HJ.out; omega
      · obtain rfl : j = 14 := by omega
        have HF := Lib.hid (HPN.out HQQ.out HALL.out)
        have hJ1 : ¬ (((k * 14 + 14 : Nat) : Int) < ((k * 14 + 14 : Nat) : Int)) := by omega
        go_wp2
        go_ret2
        exact ⟨ret_pair HF.out, HB2.out⟩

end Go.Proofs.YtbbnginolidedaaGreatDoor.FsH
