/- Helper texts joined, one behind another (a claim has at most 60 files): what each proves, its own head says: YthppbcnejapbiaaGreatDoorFsK. -/
import Derived.Test.YthppbcnejapbiaaGreatDoorAdF

-- YthppbcnejapbiaaGreatDoorFsK
/- A part. -/
namespace Go.Proofs.YthppbcnejapbiaaGreatDoor.FsK
open Go.ChangeShapes Go.WideShapes Go.ChangeAt Go.RowKit
open Foot Bx
open InoV (I usedV hasB)
open FsV (F allB pre goB ownB oneB ownerV)
open Dk (ret_bool)
set_option linter.unusedVariables false
def bl (l : List Int) : List Value := (List.range 56).map fun (b : Nat) => .bool (hasB l b)
theorem bl_length (l : List Int) : (bl l).length = 56 := by simp [bl]
theorem bl_at (l : List Int) (k : Nat) (h : k < 56) : (bl l)[k]? = some (.bool (hasB l k)) := by
 simp [bl, List.getElem?_map, List.getElem?_range h]
theorem bl_set (l : List Int) (k : Nat) (h : k < 56) : (bl l).set k (.bool true) = bl (l ++ [(k : Int)]) := by
 refine List.ext_getElem? fun j => ?_
 by_cases hj : j < 56
 ·rw [List.getElem?_set, bl_at (l ++ [(k : Int)]) j hj, bl_length, FsV.has_snoc]
  by_cases hkj : k = j
  ·subst hkj; simp [h]
  ·have : ¬ (k : Int) = (j : Int) := by omega
   rw [if_neg hkj, bl_at l j hj]; simp [this]
 ·rw [List.getElem?_eq_none (by rw [List.length_set, bl_length]; omega), List.getElem?_eq_none (by rw [bl_length]; omega)]
theorem bl_nil : bl [] = List.replicate 56 (.bool false) := by
 refine List.ext_getElem? fun j => ?_
 by_cases hj : j < 56
 ·rw [bl_at [] j hj, List.getElem?_replicate, if_pos hj]; rfl
 ·rw [List.getElem?_eq_none (by rw [bl_length]; omega), List.getElem?_eq_none (by simp; omega)]
def jj (l : List Int) (j : Nat) : Nat := (usedV (l.take j)).length
theorem used_split (l : List Int) (j : Nat) : usedV l = usedV (l.take j) ++ usedV (l.drop j) := by
 rw [usedV, usedV, usedV, <- List.filter_append, List.take_append_drop]
theorem jj_zero (l : List Int) : jj l 0 = 0 := by simp [jj, usedV]
theorem jj_end (l : List Int) (j : Nat) (h : j = l.length) : jj l j = (usedV l).length := by rw [jj, h, List.take_length]
theorem jj_hole {l : List Int} {j : Nat} (h : j < l.length) (hb : l.getD j 0 = -1) : jj l (j + 1) = jj l j := by
 rw [jj, jj, FsV.take_snoc l 0 j h, hb]; simp [usedV]
theorem jj_block {l : List Int} {j : Nat} (h : j < l.length) (hb : l.getD j 0 ≠ -1) : jj l (j + 1) = jj l j + 1 /\ jj l j < (usedV l).length /\ (usedV l).getD (jj l j) 0 = l.getD j 0 := by
 have e : usedV (l.take (j + 1)) = usedV (l.take j) ++ [l.getD j 0] := by
  rw [FsV.take_snoc l 0 j h, usedV, List.filter_append, <- usedV]
  have : [l.getD j 0].filter (fun b => decide (b ≠ -1)) = [l.getD j 0] := by rw [List.filter_cons_of_pos (by simpa using hb)]; rfl
  rw [this]
 have h1 : jj l (j + 1) = jj l j + 1 := by rw [jj, e, List.length_append, <- jj]; rfl
 have h2 : usedV l = usedV (l.take j) ++ (l.getD j 0 :: usedV (l.drop (j + 1))) := by
  rw [used_split l (j + 1), e, List.append_assoc]; rfl
 refine ⟨h1, ?_, ?_⟩
 ·rw [h2, List.length_append, <- jj, List.length_cons]; omega
 ·rw [h2, List.getD_eq_getElem?_getD, List.getElem?_append_right (by rw [<- jj]; exact Nat.le_refl _), <- jj, Nat.sub_self]; rfl
theorem boolInfo : (Tryz.prog.info? 4).map (fun i => (i.zero, i.size, i.bytes)) = some (some (.bool false), 1, 1) := by kernel_rfl
set_option maxRecDepth 100000 in
set_option maxHeartbeats 6400000 in
theorem used_any (w : World) (v : Value) (f : F) (hc : FsF.cost f <= 1073741824) (hu : ∀ n ∈ f.inodes, 0 <= n.uid) (h : FsF.Holds w v f) :
  Calls Tryz.prog 131 #[v] w fun e w' => ∃ y, e = .returned (.tuple #[y, .bool (ownB f.inodes)]) /\ (ownB f.inodes = true -> ∃ g, y = .slice (some ⟨g, 0, none⟩) 56 56 /\ w'.ownsRow w.heap.size 4 1 y 56 (bl (allB f.inodes))) /\ Below w.heap.size w w' := by
 obtain ⟨i0, hi0, hz0, hz1, hz2⟩ := info_parts boolInfo
 have hci : IF.cost f.inodes <= 1073741824 := Nat.le_trans (FsF.le_inodes f) hc
 obtain ⟨r0, r1, r2, rfl, g0, g1, g2⟩ := h
 obtain ⟨qa, qc, rfl⟩ := QF.form g0
 obtain ⟨da, dc, rfl⟩ := SF.form g2
 obtain ⟨ia, ic, rfl, hle, hat⟩ := IF.atL g1
 have HC := Lib.hid hat
 obtain ⟨l, hll⟩ : ∃ l, l = f.inodes := ⟨_, rfl⟩
 rw [<- hll] at hu hci hle HC ⊢
 have hlen : l.length <= 1073741824 := Nat.le_trans (Nat.le_add_right _ _) hci
 have hcs : IF.csum l <= 1073741824 := Nat.le_trans (Nat.le_add_left _ _) hci
 have HCA := Lib.hid (fun i (hi : i < l.length) => Nat.le_trans (IF.cost_at hi) hcs)
 have HU := Lib.hid hu
 have HNO := Lib.hid (fun i j hi hj => FsV.own_no l i j hi hj)
 have HST := Lib.hid (fun i j hj => FsV.own_step l i j hj)
 have HEN := Lib.hid (fun i hi => FsV.own_end l i hi)
 obtain ⟨M, hM⟩ : ∃ M, M = l.length := ⟨_, rfl⟩
 rw [<- hM] at hlen hle ⊢
 have HM := Lib.hid hM
 generalize f.quotas.length = DQ at *
 generalize f.data.length = DD at *
 generalize f.tick = T at *
 clear hM hat hc hci hcs g0 g1 g2 hu hll
 have HRO := Lib.hid (show i0.bytes * 56 <= 281474976710656 by rw [hz2]; omega)
 have HB0 := Lib.hid ((Below.refl w.heap.size w).alloc (Nat.le_refl _) (.cells #[.int .i64 T, .slice qa DQ qc, .slice ia M ic, .slice da DD dc] 33))
 have HX0 := Lib.hid (new w #[.int .i64 T, .slice qa DQ qc, .slice ia M ic, .slice da DD dc] 33)
 clear hz2
 go_enter Tryz.func131, Tryz.ntmps131
 go_wp2_with (at_make; refine wpList_make_full _ rfl _ _ 149 rfl (w.heap.size + 1) 4 i0 (.bool false) 1 Tryz.underlying149 hi0 hz0 hz1 .i64 .i64 _ _ 56 rfl rfl rfl rfl ?c1 ?c2 ?c3 ?_)
 case c1 => exact HRO.out
 case c2 => unfold maxLen; omega
 case c3 => simp
 intro w1 hown1 hg1
 have HO1 := Lib.hid (show w1.ownsRow (w.heap.size + 1) 4 1 (.slice (some ⟨w.heap.size + 1, 0, none⟩) 56 56) 56 (bl (FsV.seen l 0 0)) from by
  have e : FsV.seen l 0 0 = [] := rfl
  rw [e, bl_nil]
  have key : ∀ xs, w1.ownsRow (w.heap.size + 1) 4 1 (.slice (some ⟨w.heap.size + 1, 0, none⟩) 56 56) 56 xs -> xs = List.replicate 56 (.bool false) -> w1.ownsRow (w.heap.size + 1) 4 1 (.slice (some ⟨w.heap.size + 1, 0, none⟩) 56 56) 56 (List.replicate 56 (.bool false)) := fun xs h e => e ▸ h
  exact key _ (by simpa only [World.size_alloc] using hown1) (by kernel_rfl))
 have HX1 := Lib.hid (HX0.out.grown hg1 (by simp))
 have HB1 := Lib.hid (HB0.out.grown hg1 HB0.out.size (fun k hk => by cases hk))
 have hsz1 := hg1.size
 simp only [World.size_alloc] at hsz1
 have hx2 := HX1.out.cell 2
 dsimp at hx2
 clear hown1 hg1 HX0 HB0
 go_wp2
 clear hx2
 go_loopw [13] (fun iv wr => ∃ i : Nat, i <= M /\ iv = .int .i64 i /\ wr.ownsRow (w.heap.size + 1) 4 1 (.slice (some ⟨w.heap.size + 1, 0, none⟩) 56 56) 56 (bl (FsV.seen l i 0)) /\ goB [] (pre l i 0) = true /\ Below w.heap.size w wr) (fun iv _ => M - (intOf iv).toNat)
 case atStart => exact ⟨0, Nat.zero_le _, rfl, HO1.out, rfl, HB1.out⟩
 case round =>
  obtain ⟨i, hi, rfl, hown, hgo, hbel⟩ := hrel
  have HB := Lib.hid hbel
  have HO := Lib.hid hown
  have HG := Lib.hid hgo
  have hsz := hbel.size
  clear hown hbel hgo HO1 HB1 HX1 hsz1
  by_cases hlt : i < M
  ·have hlx : i < l.length := by rw [<- HM.out]; exact hlt
   obtain ⟨b, o, rfl, hb, r0, r1, r2, hC, hP⟩ := HC.out i hlx
   obtain ⟨p0, p1, p2⟩ := hP
   obtain ⟨a0, d0, rfl, hble, hbat⟩ := p0
   obtain ⟨a1, d1, rfl⟩ := AeF.form p1
   obtain ⟨a2, d2, rfl⟩ := AeF.form p2
   obtain ⟨c0, c1, c2, c3, c4, c5, c6, c7, c8, c9⟩ := hC.below hb HB.out
   clear hC p1 p2
   have hcx := HCA.out i hlx
   have HUI := Lib.hid (HU.out _ (IF.mem_getD hlx))
   have HBA := Lib.hid hbat
   have HE1 := Lib.hid (FsV.seen_end l i hlx)
   have HE2 := Lib.hid (FsV.pre_end l i hlx)
   have HSN := Lib.hid (FsV.seen_snoc l i)
   have HNI := Lib.hid (fun j hj => HNO.out i j hlx hj)
   have HSI := Lib.hid (fun j hj => HST.out i j hj)
   rw [show InoV.zero = IF.z0 from rfl] at HE1 HE2 HSN HNI HSI
   clear hbat
   generalize l.getD i IF.z0 = n at c0 c1 c2 c3 c4 c5 c6 c7 c8 c9 hcx HUI HBA HE1 HE2 HSN HNI HSI hble
   have hbl : n.blocks.length <= 1073741824 := Nat.le_trans (In.le_blocks n) hcx
   obtain ⟨m, hm⟩ : ∃ m, m = n.blocks.length := ⟨_, rfl⟩
   have HJE := Lib.hid (jj_end n.blocks m hm)
   rw [<- hm] at c7 hbl hble HBA
   have HML := Lib.hid hm
   clear hm
   have HN := Lib.hid (HB.out.alloc hsz (.cells #[.int .i64 n.kind, .int .i64 n.mode, .int .i64 n.uid, .int .i64 n.gid, .int .i64 n.links, .int .i64 n.size, .int .i64 n.tick, .slice a0 m d0, .slice a1 n.acl.length d1, .slice a2 n.dflt.length d2] 89))
   have HXN := Lib.hid (new wr #[.int .i64 n.kind, .int .i64 n.mode, .int .i64 n.uid, .int .i64 n.gid, .int .i64 n.links, .int .i64 n.size, .int .i64 n.tick, .slice a0 m d0, .slice a1 n.acl.length d1, .slice a2 n.dflt.length d2] 89)
   have HON := Lib.hid (Strs.own_below HO.out ((Below.refl wr.heap.size wr).alloc (Nat.le_refl _) (.cells #[.int .i64 n.kind, .int .i64 n.mode, .int .i64 n.uid, .int .i64 n.gid, .int .i64 n.links, .int .i64 n.size, .int .i64 n.tick, .slice a0 m d0, .slice a1 n.acl.length d1, .slice a2 n.dflt.length d2] 89)))
   have hrl : w.heap.size + 1 < wr.heap.size := by
    rcases HO.out.2 with ⟨hh, _⟩ | ⟨g, c', cur, hh, _, hg, _⟩
    ·cases hh
    ·simp only [Value.slice.injEq, Option.some.injEq, Addr.mk.injEq, and_true, true_and] at hh
     obtain ⟨rfl, _⟩ := hh
     exact (Array.getElem?_eq_some_iff.1 hg).1
   obtain ⟨W1, hW1⟩ : ∃ W1, W1 = wr.heap.size := ⟨_, rfl⟩
   have HXW := Lib.hid HXN.out
   have HBW := Lib.hid (Below.refl wr.heap.size wr)
   have HB2 := Lib.hid ((Below.refl wr.heap.size wr).alloc (Nat.le_refl _) (.cells #[.int .i64 n.kind, .int .i64 n.mode, .int .i64 n.uid, .int .i64 n.gid, .int .i64 n.links, .int .i64 n.size, .int .i64 n.tick, .slice a0 m d0, .slice a1 n.acl.length d1, .slice a2 n.dflt.length d2] 89))
   rw [<- hW1] at HXW hrl
   have hwl : W1 < wr.heap.size + 1 := by omega
   have HIX := Lib.hid (show jj n.blocks 0 = 0 from jj_zero _)
   go_wp2
   rw [<- hW1]
   clear c0 c1 c2 c3 c4 c5 c6 c7 c8 c9
   go_loopw [20] (fun jv wq => ∃ j : Nat, j <= m /\ jv = .int .i64 j /\ wq.ownsRow (w.heap.size + 1) 4 1 (.slice (some ⟨w.heap.size + 1, 0, none⟩) 56 56) 56 (bl (FsV.seen l i (jj n.blocks j))) /\ goB [] (pre l i (jj n.blocks j)) = true /\ Bk wq W1 #[.int .i64 n.kind, .int .i64 n.mode, .int .i64 n.uid, .int .i64 n.gid, .int .i64 n.links, .int .i64 n.size, .int .i64 n.tick, .slice a0 m d0, .slice a1 n.acl.length d1, .slice a2 n.dflt.length d2] 89 /\ W1 < wq.heap.size /\ Below w.heap.size w wq) (fun jv _ => m - (intOf jv).toNat)
   case atStart => exact ⟨0, Nat.zero_le _, rfl, by rw [HIX.out]; exact HON.out, by rw [HIX.out]; exact HG.out, HXW.out, by simpa using hwl, HN.out⟩
   case round =>
    obtain ⟨j, hj, rfl, hown, hgo, hxn, hszq, hbel⟩ := hrel
    replace HN := Lib.hid hbel
    replace HON := Lib.hid hown
    replace HG := Lib.hid hgo
    replace HXN := Lib.hid hxn
    clear hown hbel hgo hxn HXW HBW HB2 hW1 hwl
    by_cases hltj : j < m
    ·obtain ⟨b2, o2, rfl, hlt2, g0⟩ := HBA.out j hltj
     rw [<- HN.out.cell (p := ⟨b2, o2 + j, none⟩) hlt2] at g0
     have hjl : j < n.blocks.length := by rw [<- HML.out]; exact hltj
     have HJH := Lib.hid (fun h => jj_hole (l := n.blocks) hjl h)
     have HJB := Lib.hid (fun h => jj_block (l := n.blocks) hjl h)
     generalize n.blocks.getD j 0 = x at g0 HJH HJB
     by_cases hm1 : x = -1
     ·subst hm1
      have HON2 := Lib.hid (show wr.ownsRow (w.heap.size + 1) 4 1 (.slice (some ⟨w.heap.size + 1, 0, none⟩) 56 56) 56 (bl (FsV.seen l i (jj n.blocks (j + 1)))) from by rw [HJH.out rfl]; exact HON.out)
      have HG2 := Lib.hid (show goB [] (pre l i (jj n.blocks (j + 1))) = true from by rw [HJH.out rfl]; exact HG.out)
      go_wp2
      go_roundw
      case rel => exact ⟨j + 1, by omega, by go_num, HON2.out, HG2.out, HXN.out, hszq, HN.out⟩
      case measure => simp [intOf]; omega
     ·obtain ⟨hj1, hj2, hj3⟩ := HJB.out hm1
      have hx1 : (x == -1) = false := by simpa using hm1
      have hx2 : (x != -1) = true := by simpa using hm1
      have HNJ := Lib.hid (HNI.out _ hj2)
      have HSK := Lib.hid (HSI.out _ hj2 HG.out)
      have HSJ := Lib.hid (HSN.out _ hj2)
      have HJ1 := Lib.hid hj1
      rw [hj3] at HNJ HSK HSJ
      clear hj1 hj2 hj3 hm1 HJH HJB
      have hu2 := Fam.cell (W := wr) (p := ⟨W1, 2, none⟩) hszq (show _ = some (.int .i64 n.uid) from HXN.out.cell 2)
      have HOW := Lib.hid (fun W => FsO.owner_spec x W)
      by_cases hown : ownerV x = n.uid
      ·obtain ⟨hx0, hx55, _⟩ := FsV.owner_in hown (by have := HUI.out; omega)
       have HOB := Lib.hid (decide_eq_true hown)
       have hB1 : (ownerV x == n.uid) = true := by simpa using hown
       have hB2 : (ownerV x != n.uid) = false := by simpa using hown
       clear hown
       obtain ⟨k, rfl⟩ : ∃ k : Nat, x = k := ⟨x.toNat, by omega⟩
       have hk : k < 56 := by omega
       have hrow := HON.out.cellAt k (by omega)
       rw [bl_at _ k hk] at hrow
       obtain ⟨C, hC⟩ : ∃ C, hasB (FsV.seen l i (jj n.blocks j)) (k : Int) = C := ⟨_, rfl⟩
       rw [hC] at hrow
       have HCC := Lib.hid hC
       have HONE := Lib.hid (show oneB (FsV.seen l i (jj n.blocks j)) (n.uid, (k : Int)) = !C from by rw [oneB, HOB.out, hC]; rfl)
       have hzr := Fam.cell (W := wr) (p := ⟨w.heap.size + 1, k, none⟩) (by show w.heap.size + 1 < _; omega) hrow
       clear hC hx0 hx55 hrow
       go_wp2
       clear g0 hx1 hx2
       refine Fam.region (by kernel_rfl) (by kernel_rfl) ?_
       cases C
       ·repeat (go_big_quiet_step (first | (go_at_call 170; with_reducible refine Fam.calls_same (HOW.out _))))
        refine wpQuiet_nil ?_
        intro _ hw'
        obtain ⟨nq, hw''⟩ := hw'
        subst hw''
        have hbq := Fam.wld_below _ nq
        generalize Fam.wld _ nq = w9 at hbq ⊢
        have HS := Lib.hid (HSK.out (by rw [HONE.out]; rfl))
        have HB9 := Lib.hid (HN.out.trans (hbq.mono HN.out.size))
        have HO9 := Lib.hid (Strs.own_below HON.out hbq)
        have HX9 := Lib.hid (HXN.out.all hbq)
        have hs9 := hbq.size
        have hck := HO9.out.cellAt k (by omega)
        rw [bl_at _ k hk] at hck
        have hfk := HO9.out.frozenAt k
        have hst := HO9.out.stored k (.bool true)
        rw [bl_set _ k hk, <- HSJ.out, <- HJ1.out] at hst
        have HST2 := Lib.hid hst.1
        have HX2 := Lib.hid (HX9.out.grown hst.2 (by simp; omega))
        have HB2 := Lib.hid (HB9.out.setCell (p := ⟨w.heap.size + 1, k, none⟩) (by simp) (.bool true))
        clear hbq hu2 hzr hB1 hB2 hst
        go_wp2
        go_roundw
        case rel => exact ⟨j + 1, by omega, by go_num, HST2.out, by rw [HJ1.out]; exact HS.out, HX2.out, by simp; omega, HB2.out⟩
        case measure => simp [intOf]; omega
       ·repeat (go_big_quiet_step (first | (go_at_call 170; with_reducible refine Fam.calls_same (HOW.out _))))
        refine wpQuiet_nil ?_
        intro _ hw'
        obtain ⟨nq, hw''⟩ := hw'
        subst hw''
        have hbq := Fam.wld_below _ nq
        generalize Fam.wld _ nq = w9 at hbq ⊢
        have HF := Lib.hid (HNJ.out (by rw [HONE.out]; rfl))
        have HB9 := Lib.hid (HN.out.trans (hbq.mono HN.out.size))
        clear hbq hu2 hzr hB1 hB2
        go_wp2
        go_ret2
        exact ⟨_, by rw [HF.out]; rfl, (fun h => by rw [HF.out] at h; cases h), HB9.out⟩
      ·have HONE := Lib.hid (show oneB (FsV.seen l i (jj n.blocks j)) (n.uid, x) = false from by rw [oneB, decide_eq_false hown]; rfl)
       have hB1 : (ownerV x == n.uid) = false := by simpa using hown
       have hB2 : (ownerV x != n.uid) = true := by simpa using hown
       clear hown
       go_wp2
       clear g0 hx1 hx2
       refine Fam.region (by kernel_rfl) (by kernel_rfl) ?_
       repeat (go_big_quiet_step (first | (go_at_call 170; with_reducible refine Fam.calls_same (HOW.out _))))
       refine wpQuiet_nil ?_
       intro _ hw'
       obtain ⟨nq, hw''⟩ := hw'
       subst hw''
       have hbq := Fam.wld_below _ nq
       generalize Fam.wld _ nq = w9 at hbq ⊢
       have HF := Lib.hid (HNJ.out HONE.out)
       have HB9 := Lib.hid (HN.out.trans (hbq.mono HN.out.size))
       clear hbq hu2 hB1 hB2
       go_wp2
       go_ret2
       exact ⟨_, by rw [HF.out]; rfl, (fun h => by rw [HF.out] at h; cases h), HB9.out⟩
    ·obtain rfl : j = m := by omega
     have HO3 := Lib.hid (show wr.ownsRow (w.heap.size + 1) 4 1 (.slice (some ⟨w.heap.size + 1, 0, none⟩) 56 56) 56 (bl (FsV.seen l (i + 1) 0)) from by rw [<- HE1.out, <- HJE.out]; exact HON.out)
     have HG3 := Lib.hid (show goB [] (pre l (i + 1) 0) = true from by rw [<- HE2.out, <- HJE.out]; exact HG.out)
     go_wp2
     go_roundw
     case rel => exact ⟨i + 1, by omega, by go_num, HO3.out, HG3.out, HN.out⟩
     case measure => simp [intOf]; omega
  ·obtain rfl : i = M := by omega
   have HF := Lib.hid (HEN.out i HM.out HG.out)
   have HO3 := Lib.hid (show wr.ownsRow w.heap.size 4 1 (.slice (some ⟨w.heap.size + 1, 0, none⟩) 56 56) 56 (bl (allB l)) from by
    have := HO.out
    rw [FsV.seen_zero, List.take_of_length_le (by rw [<- HM.out]; exact Nat.le_refl _)] at this
    exact row_mono this (by omega))
   go_wp2
   go_ret2
   exact ⟨_, by rw [HF.out]; rfl, (fun _ => ⟨_, rfl, HO3.out⟩), HB.out⟩
end Go.Proofs.YthppbcnejapbiaaGreatDoor.FsK
