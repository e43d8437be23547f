/- Contracts: the program's blocksInUse (a map that has each block in use) and haveOwnBlocks. Conditions: as each theorem types them. -/
import Derived.Test.YtafmpllkehbmeaaGreatDoorFsP
import Derived.Test.YtafmpllkehbmeaaGreatDoorMpB
import Derived.Test.YtafmpllkehbmeaaGreatDoorInEq
import Derived.Test.YtafmpllkehbmeaaGreatDoorFam
namespace Go.Proofs.YtafmpllkehbmeaaGreatDoor.FsU
open Go.ChangeShapes Go.WideShapes Go.ChangeAt Go.RowKit
open Foot Bx
open InoV (I usedV hasB)
open FsV (F allB pre goB ownB oneB ownerV)
open Dk (ret_bool)
open MpB (Is)
set_option linter.unusedVariables false

theorem allB_len (l : List I) : (allB l).length ≤ IF.csum l := by
  induction l with
  | nil => exact Nat.le_refl _
  | cons n r ih =>
    have h1 : allB (n :: r) = usedV n.blocks ++ allB r := rfl
    have h2 : IF.csum (n :: r) = In.cost n + IF.csum r := by simp [IF.csum]
    have h3 := InEq.used_len n.blocks
    have h4 : n.blocks.length ≤ In.cost n := In.le_blocks n
    rw [h1, h2, List.length_append]; omega
theorem seen_len (l : List I) (i j : Nat) (hi : i < l.length) : (FsV.seen l i j).length ≤ IF.csum l := by
  have h1 : (FsV.seen l i j).length ≤ (allB (l.take (i + 1))).length := by
    rw [FsV.take_snoc l InoV.zero i hi, FsV.all_app, List.length_append, FsV.seen, List.length_append, List.length_take]
    simp [allB]; omega
  have h2 := allB_len (l.take (i + 1))
  have h3 := IF.csum_le l (i + 1)
  omega
theorem used_mem {l : List Int} {x : Int} (h : x ∈ usedV l) : x ∈ l := (List.mem_filter.1 h).1
/-- What stands at a place of a row of ints that the call owns. -/
theorem row_at {w : World} {base : Nat} {a : Option Addr} {c : Nat} {l : List Int} {S : List Nat} (h : NiF.Own w base (.slice a l.length c) l S) (j : Nat) (hj : j < l.length) : ∃ b o, a = some ⟨b, o, none⟩ ∧ w.cell? ⟨b, o + j, none⟩ = some (.int .i64 (l.getD j 0)) := by
  obtain ⟨a', c', e, _, hc⟩ := NiF.own_holds h
  rw [Value.slice.injEq] at e
  obtain ⟨rfl, _, rfl⟩ := e
  obtain ⟨b, o, e, _, hcell⟩ := hc j hj
  exact ⟨b, o, e, hcell⟩

set_option maxRecDepth 100000 in
set_option maxHeartbeats 3200000 in
theorem inuse_le (w : World) (v : Value) (l : List I) (hc : IF.cost l ≤ 1073741824) (hl : IF.Lim l) (h : IF.Holds w v l) :
    Calls Tryz.prog 128 #[v] w fun e w' => ∃ n, n ≤ 1073741824 ∧ e = .returned (.map (some w.heap.size)) ∧ Is w' w.heap.size n (hasB (allB l)) ∧ Below w.heap.size w w' := by
  obtain ⟨a, cap, rfl, hle, hat⟩ := IF.atL h
  have HC := Lib.hid hat
  have hlen : l.length ≤ 1073741824 := Nat.le_trans (Nat.le_add_right _ _) hc
  have hcs : IF.csum l ≤ 1073741824 := Nat.le_trans (Nat.le_add_left _ _) hc
  have HLM := Lib.hid hl.2
  have HCA := Lib.hid (fun i (hi : i < l.length) => Nat.le_trans (IF.cost_at hi) hcs)
  have HSL := Lib.hid (fun i j hi => Nat.le_trans (seen_len l i j hi) hcs)
  have HAL := Lib.hid (Nat.le_trans (allB_len l) hcs)
  obtain ⟨M, hM⟩ : ∃ M, M = l.length := ⟨_, rfl⟩
  rw [← hM] at hlen hle ⊢
  have HM := Lib.hid hM
  clear hM hat h hc hl hcs
  have HS0 := Lib.hid (show (fun _ => false) = hasB (FsV.seen l 0 0) from by funext x; rfl)
  have HBW := Lib.hid ((Below.refl w.heap.size w).alloc (Nat.le_refl _) (.map #[] 0))
  have HI0 := Lib.hid (MpB.made w)
  have hmm := @run_makeMap Tryz.prog
  go_enter Tryz.func128, Tryz.ntmps128
  go_wp2
  go_loopw [11] (fun iv wr => ∃ i : Nat, i ≤ M ∧ iv = .int .i64 i ∧ Is wr w.heap.size (FsV.seen l i 0).length (hasB (FsV.seen l i 0)) ∧ Below w.heap.size w wr) (fun iv _ => M - (intOf iv).toNat)
  case atStart => exact ⟨0, Nat.zero_le _, rfl, by rw [← HS0.out]; exact HI0.out, HBW.out⟩
  case round =>
    obtain ⟨i, hi, rfl, his, hbel⟩ := hrel
    have HB := Lib.hid hbel
    have HI := Lib.hid his
    have hsz := hbel.size
    clear his hbel HBW HI0 hmm
    by_cases hlt : i < M
    · have hlx : i < l.length := by rw [← HM.out]; exact hlt
      obtain ⟨b, o, rfl, hb, r0, r1, r2, hC, hP⟩ := HC.out i hlx
      have HP := Lib.hid (IF.parts_holds (IF.parts_below hP HB.out))
      obtain ⟨p0, p1, p2⟩ := hP
      obtain ⟨a0, d0, rfl⟩ := NiF.form p0
      obtain ⟨a1, d1, rfl⟩ := AeF.form p1
      obtain ⟨a2, d2, rfl⟩ := AeF.form p2
      obtain ⟨c0, c1, c2, c3, c4, c5, c6, c7, c8, c9⟩ := hC.below hb HB.out
      clear hC p0 p1 p2
      have hcx := HCA.out i hlx
      have HRX := Lib.hid (HLM.out _ (IF.mem_getD hlx)).blocks.2
      have HEND := Lib.hid (FsV.seen_end l i hlx)
      have HSN := Lib.hid (FsV.seen_snoc l i)
      have HSB := Lib.hid (fun j => HSL.out i j hlx)
      rw [show InoV.zero = IF.z0 from rfl] at HEND HSN
      generalize l.getD i IF.z0 = n at c0 c1 c2 c3 c4 c5 c6 c7 c8 c9 HP hcx HRX HEND HSN
      have hbl : n.blocks.length ≤ 1073741824 := Nat.le_trans (In.le_blocks n) hcx
      have HN := Lib.hid (HB.out.alloc hsz (.cells #[.int .i64 n.kind, .int .i64 n.mode, .int .i64 n.uid, .int .i64 n.gid, .int .i64 n.links, .int .i64 n.size, .int .i64 n.tick, .slice a0 n.blocks.length d0, .slice a1 n.acl.length d1, .slice a2 n.dflt.length d2] 34))
      have HIN := Lib.hid (HI.out.alloc (.cells #[.int .i64 n.kind, .int .i64 n.mode, .int .i64 n.uid, .int .i64 n.gid, .int .i64 n.links, .int .i64 n.size, .int .i64 n.tick, .slice a0 n.blocks.length d0, .slice a1 n.acl.length d1, .slice a2 n.dflt.length d2] 34))
      have HPN := Lib.hid (In.holds_below HP.out ((Below.refl wr.heap.size wr).alloc (Nat.le_refl _) (.cells #[.int .i64 n.kind, .int .i64 n.mode, .int .i64 n.uid, .int .i64 n.gid, .int .i64 n.links, .int .i64 n.size, .int .i64 n.tick, .slice a0 n.blocks.length d0, .slice a1 n.acl.length d1, .slice a2 n.dflt.length d2] 34)))
      go_wp2_with fail
      refine (InEq.used_impl _ _ n hbl HPN.out).mono ?_
      rintro e w1 ⟨y, S, rfl, hown, hb1⟩
      obtain ⟨ya, yc, rfl⟩ := NiF.own_form hown
      have hs1 := hb1.size
      have hbs := HIN.out.lt
      simp only [World.size_alloc] at hs1 hbs
      have HO := Lib.hid (NiF.own_mono hown (show w.heap.size + 1 ≤ _ by simp only [World.size_alloc]; omega))
      replace HN := Lib.hid (HN.out.trans (hb1.mono HN.out.size))
      replace HIN := Lib.hid (HIN.out.below hb1)
      have HUM := Lib.hid (fun x (hx : x ∈ usedV n.blocks) => HRX.out x (used_mem hx))
      obtain ⟨ul, hul⟩ : ∃ ul, ul = usedV n.blocks := ⟨_, rfl⟩
      rw [← hul] at HO HEND HSN HUM ⊢
      have hul2 : ul.length ≤ 1073741824 := by rw [hul]; exact Nat.le_trans (InEq.used_len _) hbl
      obtain ⟨m, hm⟩ : ∃ m, m = ul.length := ⟨_, rfl⟩
      have HOA := Lib.hid HO.out
      rw [← hm] at HOA HEND HSN hul2 ⊢
      have HML := Lib.hid hm
      clear hown hb1 hul hm c0 c1 c2 c3 c4 c5 c6 c7 c8 c9 HO
      go_wp2
      go_loopw [18] (fun jv wq => ∃ j : Nat, j ≤ m ∧ jv = .int .i64 j ∧ Is wq w.heap.size (FsV.seen l i j).length (hasB (FsV.seen l i j)) ∧ NiF.Own wq (w.heap.size + 1) (.slice ya m yc) ul S ∧ w.heap.size < wq.heap.size ∧ Below w.heap.size w wq) (fun jv _ => m - (intOf jv).toNat)
      case atStart => exact ⟨0, Nat.zero_le _, rfl, HIN.out, HOA.out, by omega, HN.out⟩
      case round =>
        obtain ⟨j, hj, rfl, his, hown, hszq, hbel⟩ := hrel
        replace HN := Lib.hid hbel
        replace HIN := Lib.hid his
        replace HOA := Lib.hid hown
        clear his hown hbel
        by_cases hltj : j < m
        · have hjl : j < ul.length := by rw [← HML.out]; exact hltj
          have hown := HOA.out
          rw [HML.out] at hown
          obtain ⟨b2, o2, rfl, g0⟩ := row_at hown j hjl
          have hrg : Rg (ul.getD j 0) := HUM.out _ (FsV.mem_getD hjl)
          have hst := HSN.out j hltj
          have hbnd := HSB.out (j + 1)
          rw [hst, List.length_append, List.length_singleton] at hbnd
          have HST := Lib.hid hst
          clear hst hown
          generalize ul.getD j 0 = x at g0 hrg HST
          have HRG := Lib.hid hrg
          clear hrg
          go_wp2_with (at_mapUpdate; refine MpB.wpList_put _ rfl _ _ _ rfl w.heap.size _ _ rfl HIN.out ?c1 x rfl rfl HRG.out ?_)
          case c1 => unfold maxLen; omega
          intro w2 his2 hg2
          have HI2 := Lib.hid (show Is w2 w.heap.size (FsV.seen l i (j + 1)).length (hasB (FsV.seen l i (j + 1))) from by
            rw [HST.out]
            refine (his2.mono (by simp)).as fun y _ => ?_
            rw [FsV.has_snoc, Bool.or_comm]
            congr 1
            exact decide_eq_decide.2 eq_comm)
          have HO2 := Lib.hid (NiF.own_chg HOA.out (Chg.of_grown hg2) (fun z hz hz2 => by
            have h1 := NiF.own_lies HOA.out z hz
            have h2 : z = w.heap.size := by simpa using hz2
            omega))
          have hsz2 := hg2.size
          have HB2 := Lib.hid ((HN.out.grown hg2 HN.out.size (fun k hk => by cases hk; exact Nat.le_refl _)))
          clear his2 hg2
          go_wp2
          go_roundw
          case rel => exact ⟨j + 1, by omega, by go_num, HI2.out, HO2.out, by omega, HB2.out⟩
          case measure => simp [intOf]; omega
        · obtain rfl : j = m := by omega
          have HI3 := Lib.hid (show Is wr w.heap.size (FsV.seen l (i + 1) 0).length (hasB (FsV.seen l (i + 1) 0)) from by rw [← HEND.out]; exact HIN.out)
          go_wp2
          go_roundw
          case rel => exact ⟨i + 1, by omega, by go_num, HI3.out, HN.out⟩
          case measure => simp [intOf]; omega
    · obtain rfl : i = M := by omega
      have HLE := Lib.hid (show (FsV.seen l i 0).length ≤ 1073741824 from by
        rw [FsV.seen_zero, List.take_of_length_le (by rw [← HM.out]; exact Nat.le_refl _)]
        exact HAL.out)
      have HI3 := Lib.hid (show Is wr w.heap.size (FsV.seen l i 0).length (hasB (allB l)) from by
        have := HI.out
        rw [FsV.seen_zero, List.take_of_length_le (by rw [← HM.out]; exact Nat.le_refl _)] at this
        rw [FsV.seen_zero, List.take_of_length_le (by rw [← HM.out]; exact Nat.le_refl _)]
        exact this)
      go_wp2
      go_ret
      exact ⟨_, HLE.out, rfl, HI3.out, HB.out⟩
theorem inuse_any (w : World) (v : Value) (l : List I) (hc : IF.cost l ≤ 1073741824) (hl : IF.Lim l) (h : IF.Holds w v l) :
    Calls Tryz.prog 128 #[v] w fun e w' => ∃ n, e = .returned (.map (some w.heap.size)) ∧ Is w' w.heap.size n (hasB (allB l)) ∧ Below w.heap.size w w' :=
  (inuse_le w v l hc hl h).mono fun e w' ⟨n, _, h⟩ => ⟨n, h⟩
end Go.Proofs.YtafmpllkehbmeaaGreatDoor.FsU
