/- Contract: the program's haveOwnBlocks tells whether each block in use belongs to the pool of its inode's owner, and to no other inode. Conditions: as the theorem types them. -/
import Derived.Test.YtafmpllkehbmeaaGreatDoorFsU
namespace Go.Proofs.YtafmpllkehbmeaaGreatDoor.FsW
open Go.ChangeShapes Go.WideShapes Go.ChangeAt Go.RowKit
open Foot Bx
open InoV (I usedV hasB)
open FsV (F allB pre goB ownB oneB ownerV)
open Dk (ret_bool)
open MpB (Is)
open FsU (row_at used_mem)
set_option linter.unusedVariables false

theorem one_of {l : List I} {i j : Nat} {u x : Int} {A B : Bool} (hA : hasB (allB l) x = true) (hs : (hasB (allB l) x && !hasB (FsV.seen l i j) x) = A) (hB : decide (ownerV x = u) = B) : oneB (FsV.seen l i j) (u, x) = (B && A) := by
  rw [oneB, ← hs, ← hB, hA]; rfl

set_option maxRecDepth 100000 in
set_option maxHeartbeats 6400000 in
theorem own_impl (w : World) (v : Value) (l : List I) (hc : IF.cost l ≤ 1073741824) (hl : IF.Lim l) (h : IF.Holds w v l) :
    Calls Tryz.prog 74 #[v] w fun e w' => e = .returned (.bool (ownB l)) ∧ Below w.heap.size w w' := by
  have HIU := Lib.hid (fun W (hb : Below w.heap.size w W) => FsU.inuse_any W v l hc hl (IF.holds_below h hb))
  obtain ⟨a, cap, rfl, hle, hat⟩ := IF.atL h
  have HC := Lib.hid hat
  have hlen : l.length ≤ 1073741824 := Nat.le_trans (Nat.le_add_right _ _) hc
  have hcs : IF.csum l ≤ 1073741824 := Nat.le_trans (Nat.le_add_left _ _) hc
  have HLM := Lib.hid hl.2
  have HCA := Lib.hid (fun i (hi : i < l.length) => Nat.le_trans (IF.cost_at hi) hcs)
  have HHA := Lib.hid (fun i j hi hj => FsV.has_at (ns := l) (i := i) (j := j) hi hj)
  have HNO := Lib.hid (fun i j hi hj => FsV.own_no l i j hi hj)
  have HST := Lib.hid (fun i j hj => FsV.own_step l i j hj)
  have HEN := Lib.hid (fun i hi => FsV.own_end l i hi)
  obtain ⟨M, hM⟩ : ∃ M, M = l.length := ⟨_, rfl⟩
  rw [← hM] at hlen hle HIU ⊢
  have HM := Lib.hid hM
  clear hM hat h hc hl hcs
  go_enter Tryz.func74, Tryz.ntmps74
  go_wp2_with fail
  refine (HIU.out _ (Below.refl _ _)).mono ?_
  rintro e w0 ⟨N, rfl, his0, hb0⟩
  have HI0 := Lib.hid (show Is w0 w.heap.size N (fun x => hasB (allB l) x && !hasB (FsV.seen l 0 0) x) from his0.as fun x _ => by rw [show hasB (FsV.seen l 0 0) x = false from rfl]; simp)
  have HB0 := Lib.hid hb0
  clear his0 hb0 HIU
  go_wp2
  go_loopw [12] (fun iv wr => ∃ i : Nat, i ≤ M ∧ iv = .int .i64 i ∧ Is wr w.heap.size N (fun x => hasB (allB l) x && !hasB (FsV.seen l i 0) x) ∧ goB [] (pre l i 0) = true ∧ Below w.heap.size w wr) (fun iv _ => M - (intOf iv).toNat)
  case atStart => exact ⟨0, Nat.zero_le _, rfl, HI0.out, rfl, HB0.out⟩
  case round =>
    obtain ⟨i, hi, rfl, his, hgo, hbel⟩ := hrel
    have HB := Lib.hid hbel
    have HI := Lib.hid his
    have HG := Lib.hid hgo
    have hsz := hbel.size
    clear his hbel hgo HI0 HB0
    by_cases hlt : i < M
    · have hlx : i < l.length := by rw [← HM.out]; exact hlt
      obtain ⟨b, o, rfl, hb, r0, r1, r2, hC, hP⟩ := HC.out i hlx
      have HP := Lib.hid (IF.parts_holds (IF.parts_below hP HB.out))
      obtain ⟨p0, p1, p2⟩ := hP
      obtain ⟨a0, d0, rfl⟩ := NiF.form p0
      obtain ⟨a1, d1, rfl⟩ := AeF.form p1
      obtain ⟨a2, d2, rfl⟩ := AeF.form p2
      obtain ⟨c0, c1, c2, c3, c4, c5, c6, c7, c8, c9⟩ := hC.below hb HB.out
      clear hC p0 p1 p2
      have hcx := HCA.out i hlx
      have HRX := Lib.hid (HLM.out _ (IF.mem_getD hlx)).blocks.2
      have HE1 := Lib.hid (FsV.seen_end l i hlx)
      have HE2 := Lib.hid (FsV.pre_end l i hlx)
      have HSN := Lib.hid (FsV.seen_snoc l i)
      have HNI := Lib.hid (fun j hj => HNO.out i j hlx hj)
      have HSI := Lib.hid (fun j hj => HST.out i j hj)
      have HHI := Lib.hid (fun j hj => HHA.out i j hlx hj)
      rw [show InoV.zero = IF.z0 from rfl] at HE1 HE2 HSN HNI HSI HHI
      generalize l.getD i IF.z0 = n at c0 c1 c2 c3 c4 c5 c6 c7 c8 c9 HP hcx HRX HE1 HE2 HSN HNI HSI HHI
      have hbl : n.blocks.length ≤ 1073741824 := Nat.le_trans (In.le_blocks n) hcx
      have HN := Lib.hid (HB.out.alloc hsz (.cells #[.int .i64 n.kind, .int .i64 n.mode, .int .i64 n.uid, .int .i64 n.gid, .int .i64 n.links, .int .i64 n.size, .int .i64 n.tick, .slice a0 n.blocks.length d0, .slice a1 n.acl.length d1, .slice a2 n.dflt.length d2] 34))
      have HIN := Lib.hid (HI.out.alloc (.cells #[.int .i64 n.kind, .int .i64 n.mode, .int .i64 n.uid, .int .i64 n.gid, .int .i64 n.links, .int .i64 n.size, .int .i64 n.tick, .slice a0 n.blocks.length d0, .slice a1 n.acl.length d1, .slice a2 n.dflt.length d2] 34))
      have HPN := Lib.hid (In.holds_below HP.out ((Below.refl wr.heap.size wr).alloc (Nat.le_refl _) (.cells #[.int .i64 n.kind, .int .i64 n.mode, .int .i64 n.uid, .int .i64 n.gid, .int .i64 n.links, .int .i64 n.size, .int .i64 n.tick, .slice a0 n.blocks.length d0, .slice a1 n.acl.length d1, .slice a2 n.dflt.length d2] 34)))
      have HXN := Lib.hid (new wr #[.int .i64 n.kind, .int .i64 n.mode, .int .i64 n.uid, .int .i64 n.gid, .int .i64 n.links, .int .i64 n.size, .int .i64 n.tick, .slice a0 n.blocks.length d0, .slice a1 n.acl.length d1, .slice a2 n.dflt.length d2] 34)
      go_wp2_with fail
      refine (InEq.used_impl _ _ n hbl HPN.out).mono ?_
      rintro e w1 ⟨y, S, rfl, hown, hb1⟩
      obtain ⟨ya, yc, rfl⟩ := NiF.own_form hown
      have hs1 := hb1.size
      have hbs := HIN.out.lt
      have hbs0 := HI.out.lt
      simp only [World.size_alloc] at hs1 hbs
      have HO := Lib.hid (NiF.own_mono hown (show w.heap.size + 1 ≤ _ by simp only [World.size_alloc]; omega))
      replace HN := Lib.hid (HN.out.trans (hb1.mono HN.out.size))
      replace HIN := Lib.hid (HIN.out.below hb1)
      replace HXN := Lib.hid (HXN.out.all hb1)
      have HUM := Lib.hid (fun x (hx : x ∈ usedV n.blocks) => HRX.out x (used_mem hx))
      obtain ⟨ul, hul⟩ : ∃ ul, ul = usedV n.blocks := ⟨_, rfl⟩
      rw [← hul] at HO HE1 HE2 HSN HUM HNI HSI HHI ⊢
      have hul2 : ul.length ≤ 1073741824 := by rw [hul]; exact Nat.le_trans (InEq.used_len _) hbl
      obtain ⟨m, hm⟩ : ∃ m, m = ul.length := ⟨_, rfl⟩
      have HOA := Lib.hid HO.out
      rw [← hm] at HOA HE1 HE2 HSN HNI HSI HHI hul2 ⊢
      have HML := Lib.hid hm
      obtain ⟨W1, hW1⟩ : ∃ W1, W1 = wr.heap.size := ⟨_, rfl⟩
      rw [← hW1] at HXN ⊢
      have hbx : w.heap.size < W1 := by omega
      have hbx1 : W1 < w1.heap.size := by omega
      clear hown hb1 hul hm c0 c1 c2 c3 c4 c5 c6 c7 c8 c9 HO hW1
      go_wp2
      go_loopw [19] (fun jv wq => ∃ j : Nat, j ≤ m ∧ jv = .int .i64 j ∧ Is wq w.heap.size N (fun x => hasB (allB l) x && !hasB (FsV.seen l i j) x) ∧ goB [] (pre l i j) = true ∧ NiF.Own wq (w.heap.size + 1) (.slice ya m yc) ul S ∧ Bk wq W1 #[.int .i64 n.kind, .int .i64 n.mode, .int .i64 n.uid, .int .i64 n.gid, .int .i64 n.links, .int .i64 n.size, .int .i64 n.tick, .slice a0 n.blocks.length d0, .slice a1 n.acl.length d1, .slice a2 n.dflt.length d2] 34 ∧ W1 < wq.heap.size ∧ Below w.heap.size w wq) (fun jv _ => m - (intOf jv).toNat)
      case atStart => exact ⟨0, Nat.zero_le _, rfl, HIN.out, HG.out, HOA.out, HXN.out, hbx1, HN.out⟩
      case round =>
        obtain ⟨j, hj, rfl, his, hgo, hown, hxn, hszq, hbel⟩ := hrel
        replace HN := Lib.hid hbel
        replace HIN := Lib.hid his
        replace HOA := Lib.hid hown
        replace HG := Lib.hid hgo
        replace HXN := Lib.hid hxn
        clear his hown hbel hgo hxn hbx1
        by_cases hltj : j < m
        · have hjl : j < ul.length := by rw [← HML.out]; exact hltj
          have hown := HOA.out
          rw [HML.out] at hown
          obtain ⟨b2, o2, rfl, g0⟩ := row_at hown j hjl
          have hrg : Rg (ul.getD j 0) := HUM.out _ (FsV.mem_getD hjl)
          have HSJ := Lib.hid (HSN.out j hltj)
          have HNJ := Lib.hid (HNI.out j hltj)
          have HSK := Lib.hid (HSI.out j hltj HG.out)
          have HHJ := Lib.hid (HHI.out j hltj)
          clear hown
          generalize ul.getD j 0 = x at g0 hrg HSJ HNJ HSK HHJ
          have HRG := Lib.hid hrg
          clear hrg
          obtain ⟨A, hA⟩ : ∃ A, (hasB (allB l) x && !hasB (FsV.seen l i j) x) = A := ⟨_, rfl⟩
          have HA := Lib.hid hA
          clear hA
          have hu2 := Fam.cell (W := wr) (p := ⟨W1, 2, none⟩) hszq (show _ = some (.int .i64 n.uid) from HXN.out.cell 2)
          have HOW := Lib.hid (fun W => FsO.owner_impl x W)
          have hlk : ∀ q : Fam.Ix wr, (Instr.lookup 81 (.map (some w.heap.size)) (.int .i64 x) false).run Tryz.prog (Fam.wld wr q) = .ok (.bool A) (Fam.wld wr q) := fun q => by
            rw [← HA.out]; exact (HIN.out.below (Fam.wld_below wr q)).look HRG.out
          obtain ⟨B, hB⟩ : ∃ B, decide (ownerV x = n.uid) = B := ⟨_, rfl⟩
          have HOB := Lib.hid hB
          have hB1 : (ownerV x == n.uid) = B := by rw [← hB]; by_cases hh : ownerV x = n.uid <;> simp [hh]
          have hB2 : (ownerV x != n.uid) = !B := by rw [bne, hB1]
          clear hB
          go_wp2
          refine Fam.region (by kernel_rfl) (by kernel_rfl) ?_
          cases A
          · repeat (go_big_quiet_step (first | (go_at_call 28; with_reducible refine Fam.calls_same (HOW.out _))))
            refine wpQuiet_nil ?_
            intro _ hw'
            obtain ⟨nq, hw''⟩ := hw'
            subst hw''
            have hbq := Fam.wld_below _ nq
            generalize Fam.wld _ nq = w9 at hbq ⊢
            have HF := Lib.hid (HNJ.out (by rw [one_of HHJ.out HA.out HOB.out]; simp))
            have HB9 := Lib.hid (HN.out.trans (hbq.mono HN.out.size))
            clear hbq hu2 hlk g0
            go_wp2
            go_ret
            exact ⟨ret_bool HF.out.symm, HB9.out⟩
          · cases B
            · repeat (go_big_quiet_step (first | (go_at_call 28; with_reducible refine Fam.calls_same (HOW.out _))))
              refine wpQuiet_nil ?_
              intro _ hw'
              obtain ⟨nq, hw''⟩ := hw'
              subst hw''
              have hbq := Fam.wld_below _ nq
              generalize Fam.wld _ nq = w9 at hbq ⊢
              have HF := Lib.hid (HNJ.out (by rw [one_of HHJ.out HA.out HOB.out]; simp))
              have HB9 := Lib.hid (HN.out.trans (hbq.mono HN.out.size))
              clear hbq hu2 hlk g0
              go_wp2
              go_ret
              exact ⟨ret_bool HF.out.symm, HB9.out⟩
            · repeat (go_big_quiet_step (first | (go_at_call 28; with_reducible refine Fam.calls_same (HOW.out _))))
              refine wpQuiet_nil ?_
              intro _ hw'
              obtain ⟨nq, hw''⟩ := hw'
              subst hw''
              have hbq := Fam.wld_below _ nq
              generalize Fam.wld _ nq = w9 at hbq ⊢
              have HS := Lib.hid (HSK.out (by rw [one_of HHJ.out HA.out HOB.out]; rfl))
              have HB9 := Lib.hid (HN.out.trans (hbq.mono HN.out.size))
              have HI9 := Lib.hid (HIN.out.below hbq)
              have HO9 := Lib.hid (NiF.own_below HOA.out hbq)
              have HX9 := Lib.hid (HXN.out.all hbq)
              have hs9 := hbq.size
              clear hbq hu2 hlk g0 hB1 hB2
              go_wp2_with (at_delete; refine MpB.wpList_del _ rfl _ _ rfl w.heap.size _ _ rfl HI9.out x rfl HRG.out ?_)
              intro w2 his2 hg2
              have HI2 := Lib.hid (show Is w2 w.heap.size N (fun y => hasB (allB l) y && !hasB (FsV.seen l i (j + 1)) y) from his2.as fun y _ => by
                rw [HSJ.out, FsV.has_snoc]
                by_cases hyx : y = x
                · subst hyx; simp
                · have : ¬ x = y := fun e => hyx e.symm
                  simp [hyx, this])
              have HO2 := Lib.hid (NiF.own_chg HO9.out (Chg.of_grown hg2) (fun z hz hz2 => by
                have h1 := NiF.own_lies HO9.out z hz
                have h2 : z = w.heap.size := by simpa using hz2
                omega))
              have HX2 := Lib.hid (HX9.out.grown hg2 (by simp; omega))
              have hsz2 := hg2.size
              have HB2 := Lib.hid ((HB9.out.grown hg2 HB9.out.size (fun k hk => by cases hk; exact Nat.le_refl _)))
              clear his2 hg2
              go_wp2
              go_roundw
              case rel => exact ⟨j + 1, by omega, by go_num, HI2.out, HS.out, HO2.out, HX2.out, by omega, HB2.out⟩
              case measure => simp [intOf]; omega
        · obtain rfl : j = m := by omega
          have HI3 := Lib.hid (show Is wr w.heap.size N (fun x => hasB (allB l) x && !hasB (FsV.seen l (i + 1) 0) x) from by rw [← HE1.out]; exact HIN.out)
          have HG3 := Lib.hid (show goB [] (pre l (i + 1) 0) = true from by rw [← HE2.out]; exact HG.out)
          go_wp2
          go_roundw
          case rel => exact ⟨i + 1, by omega, by go_num, HI3.out, HG3.out, HN.out⟩
          case measure => simp [intOf]; omega
    · obtain rfl : i = M := by omega
      have HF := Lib.hid (HEN.out i HM.out HG.out)
      go_wp2
      go_ret
      exact ⟨ret_bool HF.out.symm, HB.out⟩
end Go.Proofs.YtafmpllkehbmeaaGreatDoor.FsW
