/- Helper texts joined, one behind another (a claim has at most 60 files): what each proves, its own head says: YthppbcnejapbiaaGreatDoorSpFr, YthppbcnejapbiaaGreatDoorSpFe, YthppbcnejapbiaaGreatDoorSpSz, YthppbcnejapbiaaGreatDoorFsH, YthppbcnejapbiaaGreatDoorSpPt, YthppbcnejapbiaaGreatDoorSpWp, YthppbcnejapbiaaGreatDoorSpWr. -/
import Derived.Test.YthppbcnejapbiaaGreatDoorAdK
import Derived.Test.YthppbcnejapbiaaGreatDoorAdO
import Derived.Test.YthppbcnejapbiaaGreatDoorAdJ
import Derived.Deep.RegionLaw
import Derived.Deep.RegionHeld3
import Derived.Test.YthppbcnejapbiaaGreatDoorAdG
import Derived.Test.YthppbcnejapbiaaGreatDoorAdN
import Derived.Deep.Cut
import Derived.Test.YthppbcnejapbiaaGreatDoorAdI
import Derived.Test.YthppbcnejapbiaaGreatDoorAdC
import Derived.Test.YthppbcnejapbiaaGreatDoorRowG
import Derived.Test.YthppbcnejapbiaaGreatDoorIsName
set_option linter.unusedSimpArgs false

-- YthppbcnejapbiaaGreatDoorSpFr
/- A part. -/
namespace Go.Proofs.YthppbcnejapbiaaGreatDoor.SpFr
open Go.ChangeShapes Go.WideShapes Go.ChangeAt Go.RowKit
open Foot Bx
open InoV (I usedV needV)
open FsV (F okF e0 z32)
open FsY FsZ FoB CoN CoFr
open RowG (cellsB cellsB_length)
set_option linter.unusedVariables false
end Go.Proofs.YthppbcnejapbiaaGreatDoor.SpFr

-- YthppbcnejapbiaaGreatDoorSpFe
/- A part. -/
namespace Go.Proofs.YthppbcnejapbiaaGreatDoor.SpFe
open Go.ChangeShapes Go.WideShapes Go.ChangeAt Go.RowKit
open Foot Bx
open InoV (I usedV needV)
open FsV (F okF e0 z32)
open FsY FsZ FoB CoN CoFr SpFr
set_option linter.unusedVariables false
end Go.Proofs.YthppbcnejapbiaaGreatDoor.SpFe

-- YthppbcnejapbiaaGreatDoorSpSz
/- A part. -/
namespace Go.Proofs.YthppbcnejapbiaaGreatDoor.SpSz
open Go.ChangeShapes Go.WideShapes Go.ChangeAt Go.RowKit
open Foot Bx
open InoV (I usedV needV)
open FsV (F okF e0 z32)
open FsY FsZ FoB CoN CoFr SpFe
set_option linter.unusedVariables false
def Far (w : World) (b nb gd : Nat) (S R : List Nat) : Prop := (∀ k ∈ S, w.heap.size + 1 < k /\ k < b) /\ b < nb /\ (∀ k ∈ R, b < k /\ k < nb) /\ gd ∈ S
section
variable {w W : World} {lo b nb B : Nat} {f : F} {n : I} {q : Value} {gi ci gd cd : Nat} {S : List Nat} {a : Option Addr} {c : Nat} {y1 y2 : Value} {j : Nat} {d : List ByteArray}
end
def Grw (w : World) (lo b nb B : Nat) (f : F) (n : I) (q : Value) (gi ci gd cd : Nat) (S : List Nat) (a0 : Option Addr) (c0 : Nat) (y1 y2 : Value) (X m : Nat) (d : List ByteArray) (jj : Nat) (a : Option Addr) (c : Nat) (W : World) : Prop :=
 FO W lo b { f with data := d } q gi ci gd cd S /\ Bk W nb #[.int .i64 n.kind, .int .i64 n.mode, .int .i64 n.uid, .int .i64 n.gid, .int .i64 n.links, .int .i64 n.size, .int .i64 n.tick, .slice a (X + jj) c, y1, y2] 89 /\ (X < m -> X = n.blocks.length /\ W.ownsRow B 3 1 (.slice a (X + jj) c) (X + jj) (NiF.cells (CoW.grown n.blocks jj))) /\ (m <= X -> X = m /\ m <= n.blocks.length /\ a = a0 /\ c = c0 /\ jj = 0 /\ W.ownsRow B 3 1 (.slice a0 n.blocks.length c0) n.blocks.length (NiF.cells n.blocks)) /\ AeF.Own W B y1 n.acl (fpR y1) /\ AeF.Own W B y2 n.dflt (fpR y2) /\ Bk W (w.heap.size + 1) #[.int .i64 0, .slice none 0 0, .slice none 0 0, .slice none 0 0] 33 /\ Below w.heap.size w W
theorem grw_app {w W w6 : World} {lo b nb B : Nat} {f : F} {n : I} {q : Value} {gi ci gd cd : Nat} {S : List Nat} {a0 : Option Addr} {c0 : Nat} {y1 y2 : Value} {X m : Nat} {d : List ByteArray} {jj : Nat} {a b6 : Option Addr} {c c6 : Nat} (h : Grw w lo b nb B f n q gi ci gd cd S a0 c0 y1 y2 X m d jj a c W) (hlt : X + jj < m) (hw : w.heap.size <= B) (hB : B <= nb) (hb : b < B) (hS : ∀ k ∈ S, k < b)
  (hown : w6.ownsRow B 3 1 (.slice b6 (X + jj + 1) c6) (X + jj + 1) (NiF.cells (CoW.grown n.blocks jj) ++ [.int .i64 (-1)])) (hg : (W.alloc (.cells #[.int .i64 (-1)] 3)).grownBy w6 (Value.slice a (X + jj) c).ownBlock) : Grw w lo b nb B f n q gi ci gd cd S a0 c0 y1 y2 X m d (jj + 1) b6 c6 (w6.setCell ⟨nb, 7, none⟩ (.slice b6 (X + jj + 1) c6)) := by
 obtain ⟨h1, h2, h3, h4, h5, h6, h7, h8⟩ := h
 obtain ⟨hXL, hr⟩ := h3 (by omega)
 have hbA : Below W.heap.size W (W.alloc (.cells #[.int .i64 (-1)] 3)) := (Below.refl _ _).alloc (Nat.le_refl _) _
 replace hr := row_below hr hbA
 replace h1 := h1.below hbA
 replace h2 := h2.all hbA
 replace h5 := AeF.own_below h5 hbA
 replace h6 := AeF.own_below h6 hbA
 replace h7 := h7.all hbA
 replace h8 := h8.trans (hbA.mono h8.size)
 clear hbA
 generalize W.alloc (.cells #[.int .i64 (-1)] 3) = W1 at *
 have hc : Chg W1 w6 (fpR (.slice a (X + jj) c)) := Chg.of_grown hg
 have hl := row_lies hr
 replace h1 := h1.chg hc (fun hh => by have := (hl _ hh).1; omega) (fun k hk hh => by have := (hl _ hh).1; have := hS k hk; omega)
 replace h2 := FoB.Bk.chg h2 hc (CoL.row_nin hr h2 (by decide))
 replace h5 := AeF.own_chg h5 hc (FsM.rows_apart h5.1 hr (by decide))
 replace h6 := AeF.own_chg h6 hc (FsM.rows_apart h6.1 hr (by decide))
 replace h7 := FoB.Bk.chg h7 hc (CoL.row_nin hr h7 (by decide))
 replace h8 := h8.trans (hc.below h8.size (fun k hk => by have := (hl _ hk).1; omega))
 have hc2 := chg_set w6 ⟨nb, 7, none⟩ (.slice b6 (X + jj + 1) c6)
 have hX : Bk _ nb #[.int .i64 n.kind, .int .i64 n.mode, .int .i64 n.uid, .int .i64 n.gid, .int .i64 n.links, .int .i64 n.size, .int .i64 n.tick, .slice b6 (X + jj + 1) c6, y1, y2] _ := Bk.put (l := [.int .i64 n.kind, .int .i64 n.mode, .int .i64 n.uid, .int .i64 n.gid, .int .i64 n.links, .int .i64 n.size, .int .i64 n.tick, .slice a (X + jj) c, y1, y2]) h2 7 (.slice b6 (X + jj + 1) c6)
 have one : ∀ T : List Nat, nb ∉ T -> Apart T [nb] := fun T hT k hk hh => by rw [List.mem_singleton] at hh; exact hT (hh ▸ hk)
 refine ⟨h1.chg hc2 (by simp; omega) (one _ fun hh => by have := hS _ hh; omega), hX, fun _ => ⟨hXL, ?_⟩, fun hh => absurd hh (by omega), AeF.own_chg h5 hc2 (one _ (CoL.row_nin h5.1 h2 (by decide))), AeF.own_chg h6 hc2 (one _ (CoL.row_nin h6.1 h2 (by decide))), FoB.Bk.chg h7 hc2 (fun hh => by rw [List.mem_singleton] at hh; exact FsM.bk_ne h7 h2 (by decide) hh), h8.trans (FoB.Chg.from hc2 h8.size (show w.heap.size <= nb by omega))⟩
 rw [CoW.grown_succ]
 exact row_chg hown hc2 (one _ (CoL.row_nin hown h2 (by decide)))
end Go.Proofs.YthppbcnejapbiaaGreatDoor.SpSz

-- YthppbcnejapbiaaGreatDoorFsH
/- A part. -/
namespace Go.Proofs.YthppbcnejapbiaaGreatDoor.FsH
set_option maxHeartbeats 3200000
set_option maxRecDepth 100000
open Go.ChangeShapes Go.WideShapes Go.ChangeAt Go.RowKit
open Foot Bx
open InoV (I usedV hasB)
open FsV (F cnt first pick useB okF cntO allB ownerV)
open Dk (ret_bool)
open Strs (ret_int)
open FsC (pairV ret_pair pick_quota pick_some pick_none)
set_option linter.unusedVariables false
theorem blk_any (w : World) (v : Value) (f : F) (k : Nat) (hk : k <= 3) (hc : FsF.cost f <= 1073741824) (hok : FsV.Half f) (h : FsF.Holds w v f) :
  Calls Tryz.prog 197 #[v, .int .i64 k] w fun e w' => e = .returned (.int .i64 (cnt (useB f) (14 * k) 14 : Nat)) /\ Below w.heap.size w w' := by
 rw [FsV.blk_own hok hk]
 have hcs : IF.csum f.inodes <= 1073741824 := Nat.le_trans (Nat.le_trans (Nat.le_add_left _ _) (FsF.le_inodes f)) hc
 have HCA := Lib.hid (fun i (hi : i < f.inodes.length) => Nat.le_trans (IF.cost_at hi) hcs)
 have HSL := Lib.hid (fun i j hi => Nat.le_trans (FsU.seen_len f.inodes i j hi) hcs)
 obtain ⟨r0, r1, r2, rfl, g0, g1, g2⟩ := h
 obtain ⟨qa, qc, rfl, hQ⟩ := Qt.atL g0
 obtain ⟨ia, ic, rfl, _, hI⟩ := IF.atL g1
 obtain ⟨da, dc, rfl⟩ := SF.form g2
 have HQ := Lib.hid hQ
 have HI := Lib.hid hI
 obtain ⟨hQ4, hI20, hD56, hqs, _⟩ := hok
 have HL1 := Lib.hid hQ4
 have HL2 := Lib.hid hI20
 obtain ⟨T, hT⟩ : ∃ T, T = f.tick := ⟨_, rfl⟩
 rw [<- hT, hQ4, hI20, hD56]
 clear hT g0 g1 g2 hQ hI hQ4 hI20 hD56
 clear hqs hc hcs
 obtain ⟨l, hll⟩ : ∃ l, l = f.inodes := ⟨_, rfl⟩
 rw [<- hll] at HI HCA HSL HL2 ⊢
 clear hll
 have HB0 := Lib.hid ((Below.refl w.heap.size w).alloc (Nat.le_refl _) (.cells #[.int .i64 T, .slice qa 4 qc, .slice ia 20 ic, .slice da 56 dc] 33))
 have HX0 := Lib.hid (new w #[.int .i64 T, .slice qa 4 qc, .slice ia 20 ic, .slice da 56 dc] 33)
 go_enter Tryz.func197, Tryz.ntmps197
 go_wp2
 go_loopw [5, 13] (fun nv iv wr => ∃ i : Nat, i <= 20 /\ iv = .int .i64 i /\ nv = .int .i64 (cntO k (FsV.seen l i 0) : Nat) /\ Below w.heap.size w wr) (fun _ iv _ => 20 - (intOf iv).toNat)
 case atStart => exact ⟨0, Nat.zero_le _, rfl, rfl, HB0.out⟩
 case round =>
  obtain ⟨i, hi, rfl, rfl, hbel⟩ := hrel
  have HB := Lib.hid hbel
  have hsz := hbel.size
  clear hbel HB0 HX0
  by_cases hlt : i < 20
  ·have hlx : i < l.length := by rw [HL2.out]; exact hlt
   obtain ⟨b, o, rfl, hb, r0, r1, r2, hC, hP⟩ := HI.out i hlx
   obtain ⟨p0, p1, p2⟩ := hP
   obtain ⟨a0, d0, rfl, hble, hbat⟩ := p0
   obtain ⟨a1, d1, rfl⟩ := AeF.form p1
   obtain ⟨a2, d2, rfl⟩ := AeF.form p2
   obtain ⟨c0, c1, c2, c3, c4, c5, c6, c7, c8, c9⟩ := hC.below hb HB.out
   clear hC p1 p2
   have hcx := HCA.out i hlx
   have HBA := Lib.hid hbat
   have HE1 := Lib.hid (FsV.seen_end l i hlx)
   have HSN := Lib.hid (FsV.seen_snoc l i)
   have HSI := Lib.hid (fun j => HSL.out i j hlx)
   have HLE := Lib.hid (fun (u : Int) (x : List Int) => show cntO u x <= x.length from List.length_filter_le _ _)
   rw [show InoV.zero = IF.z0 from rfl] at HE1 HSN
   clear hbat
   generalize l.getD i IF.z0 = n at c0 c1 c2 c3 c4 c5 c6 c7 c8 c9 hcx HBA HE1 HSN hble
   have hbl : n.blocks.length <= 1073741824 := Nat.le_trans (In.le_blocks n) hcx
   obtain ⟨m, hm⟩ : ∃ m, m = n.blocks.length := ⟨_, rfl⟩
   have HJE := Lib.hid (FsK.jj_end n.blocks m hm)
   rw [<- hm] at c7 hbl hble HBA
   have HML := Lib.hid hm
   clear hm
   have HN := Lib.hid (HB.out.alloc hsz (.cells #[.int .i64 n.kind, .int .i64 n.mode, .int .i64 n.uid, .int .i64 n.gid, .int .i64 n.links, .int .i64 n.size, .int .i64 n.tick, .slice a0 m d0, .slice a1 n.acl.length d1, .slice a2 n.dflt.length d2] 89))
   have HIX := Lib.hid (show FsK.jj n.blocks 0 = 0 from FsK.jj_zero _)
   go_wp2
   rw [show decide ((i : Int) < 20) = true from decide_eq_true (by omega)]
   generalize wr.alloc (.cells #[.int .i64 n.kind, .int .i64 n.mode, .int .i64 n.uid, .int .i64 n.gid, .int .i64 n.links, .int .i64 n.size, .int .i64 n.tick, .slice a0 m d0, .slice a1 n.acl.length d1, .slice a2 n.dflt.length d2] 89) = w9 at *
   clear c0 c1 c2 c3 c4 c5 c6 c7 c8 c9
   go_loopw [5, 20] (fun nv jv wq => ∃ j : Nat, j <= m /\ jv = .int .i64 j /\ nv = .int .i64 (cntO k (FsV.seen l i (FsK.jj n.blocks j)) : Nat) /\ wq = w9) (fun _ jv _ => m - (intOf jv).toNat)
   case atStart => exact ⟨0, Nat.zero_le _, rfl, by rw [HIX.out], by first | rfl | trivial⟩
   case round =>
    obtain ⟨j, hj, rfl, rfl, rfl⟩ := hrel
    have hbd := Nat.le_trans (HLE.out (k : Int) (FsV.seen l i (FsK.jj n.blocks j))) (HSI.out (FsK.jj n.blocks j))
    by_cases hltj : j < m
    ·obtain ⟨b2, o2, rfl, hlt2, g0⟩ := HBA.out j hltj
     rw [<- HN.out.cell (p := ⟨b2, o2 + j, none⟩) hlt2] at g0
     have hjl : j < n.blocks.length := by rw [<- HML.out]; exact hltj
     have HJH := Lib.hid (fun h => FsK.jj_hole (l := n.blocks) hjl h)
     have HJB := Lib.hid (fun h => FsK.jj_block (l := n.blocks) hjl h)
     generalize n.blocks.getD j 0 = x at g0 HJH HJB
     by_cases hm1 : x = -1
     ·subst hm1
      have HS := Lib.hid (show cntO k (FsV.seen l i (FsK.jj n.blocks (j + 1))) = cntO k (FsV.seen l i (FsK.jj n.blocks j)) from by rw [HJH.out rfl])
      generalize cntO (k : Int) (FsV.seen l i (FsK.jj n.blocks j)) = C at hbd HS ⊢
      go_wp2
      go_roundw
      case rel => exact ⟨j + 1, by omega, by go_num, by rw [HS.out], by first | rfl | trivial⟩
      case measure => simp [intOf]; omega
     ·obtain ⟨hj1, hj2, hj3⟩ := HJB.out hm1
      have hx1 : (x == -1) = false := by simpa using hm1
      have hx2 : (x != -1) = true := by simpa using hm1
      have HSJ := Lib.hid (show cntO k (FsV.seen l i (FsK.jj n.blocks (j + 1))) = cntO k (FsV.seen l i (FsK.jj n.blocks j)) + (if ownerV x = (k : Int) then 1 else 0) from by rw [hj1, HSN.out _ hj2, hj3, FsV.cntO_snoc])
      clear hj1 hj2 hj3 hm1 HJH HJB
      have HOW := Lib.hid (fun W => FsO.owner_spec x W)
      generalize cntO (k : Int) (FsV.seen l i (FsK.jj n.blocks j)) = C at hbd HSJ ⊢
      by_cases hown : ownerV x = (k : Int)
      ·have HS := Lib.hid (show cntO k (FsV.seen l i (FsK.jj n.blocks (j + 1))) = C + 1 from by rw [HSJ.out, if_pos hown])
       have hB1 : (ownerV x == (k : Int)) = true := by simpa using hown
       clear hown
       go_wp2_with fail
       refine (HOW.out _).mono ?_
       rintro e w3 ⟨rfl, rfl⟩
       go_wp2
       go_roundw
       case rel => exact ⟨j + 1, by omega, by go_num, by rw [HS.out]; go_num, by first | rfl | trivial⟩
       case measure => simp [intOf]; omega
      ·have HS := Lib.hid (show cntO k (FsV.seen l i (FsK.jj n.blocks (j + 1))) = C from by rw [HSJ.out, if_neg hown]; rfl)
       have hB1 : (ownerV x == (k : Int)) = false := by simpa using hown
       clear hown
       go_wp2_with fail
       refine (HOW.out _).mono ?_
       rintro e w3 ⟨rfl, rfl⟩
       go_wp2
       go_roundw
       case rel => exact ⟨j + 1, by omega, by go_num, by rw [HS.out], by first | rfl | trivial⟩
       case measure => simp [intOf]; omega
    ·obtain rfl : j = m := by omega
     have HS := Lib.hid (show cntO (k : Int) (FsV.seen l (i + 1) 0) = cntO (k : Int) (FsV.seen l i (FsK.jj n.blocks j)) from by rw [<- HE1.out, <- HJE.out])
     generalize cntO (k : Int) (FsV.seen l i (FsK.jj n.blocks j)) = C at hbd HS ⊢
     go_wp2
     go_roundw
     case rel => exact ⟨i + 1, by omega, by go_num, by rw [HS.out], HN.out⟩
     case measure => simp [intOf]; omega
  ·obtain rfl : i = 20 := by omega
   have HS := Lib.hid (show cntO (k : Int) (FsV.seen l 20 0) = cntO (k : Int) (allB l) from by rw [FsV.seen_zero, List.take_of_length_le (by rw [HL2.out]; exact Nat.le_refl _)])
   rw [HS.out]
   go_wp2
   go_ret
   exact ⟨rfl, HB.out⟩
theorem nblk_any (w : World) (v : Value) (f : F) (k : Nat) (hk : k <= 3) (hc : FsF.cost f <= 1073741824) (hok : FsV.Half f) (h : FsF.Holds w v f) :
  Calls Tryz.prog 154 #[v, .int .i64 k] w fun e w' => e = .returned (pairV (pick (useB f) (14 * k) 14 (f.quotas.getD k (0, 0)).2)) /\ Below w.heap.size w w' := by
 have HFS := Lib.hid h
 have HCC := Lib.hid hc
 have HOK := Lib.hid hok
 have HUID := Lib.hid (fun n (hn : n ∈ f.inodes) => (hok.uids n hn).1)
 have HOWN := Lib.hid hok.own
 obtain ⟨r0, r1, r2, rfl, g0, g1, g2⟩ := h
 obtain ⟨qa, qc, rfl, hQ⟩ := Qt.atL g0
 obtain ⟨ia, ic, rfl, _, hI⟩ := IF.atL g1
 obtain ⟨da, dc, rfl⟩ := SF.form g2
 have HQ := Lib.hid hQ
 have HI := Lib.hid hI
 obtain ⟨hQ4, hI20, hD56, hqs, _⟩ := hok
 have HL1 := Lib.hid hQ4
 have HL2 := Lib.hid hI20
 have HCL := Lib.hid (FsV.cnt_le (useB f) (14 * k) 14)
 have hkq : k < f.quotas.length := by omega
 rw [hQ4, hI20, hD56] at HFS
 obtain ⟨T, hT⟩ : ∃ T, T = f.tick := ⟨_, rfl⟩
 rw [<- hT] at HFS
 rw [<- hT, hQ4, hI20, hD56]
 clear hT g0 g1 g2 hQ hI hQ4 hI20 hD56
 clear hqs hc
 obtain ⟨b1, o1, rfl, hb1, hC⟩ := HQ.out k hkq
 rw [show Qt.a0 = ((0, 0) : Int × Int) from rfl] at hC
 obtain ⟨qv, hqv⟩ : ∃ q, q = f.quotas.getD k (0, 0) := ⟨_, rfl⟩
 rw [<- hqv] at hC ⊢
 obtain ⟨C, hCn⟩ : ∃ C, C = cnt (useB f) (14 * k) 14 := ⟨_, rfl⟩
 have HPQ := Lib.hid (fun (h : qv.2 <= (C : Nat)) => pick_quota (p := useB f) (a := 14 * k) (m := 14) (q := qv.2) (by rw [<- hCn]; exact h))
 have HPS := Lib.hid (fun (h : ¬ qv.2 <= (C : Nat)) j hk hp hn => pick_some (p := useB f) (a := 14 * k) (m := 14) (k := j) (q := qv.2) (by rw [<- hCn]; exact h) hk hp hn)
 have HPN := Lib.hid (fun (h : ¬ qv.2 <= (C : Nat)) hp => pick_none (p := useB f) (a := 14 * k) (m := 14) (q := qv.2) (by rw [<- hCn]; exact h) hp)
 have HCN := Lib.hid (fun (W : World) (v : Value) (hF : FsF.Holds W v f) => show Calls Tryz.prog 197 #[v, .int .i64 k] W fun e w' => e = .returned (.int .i64 (C : Nat)) /\ Below W.heap.size W w' from by rw [hCn]; exact blk_any W v f k hk HCC.out HOK.out hF)
 have hCl := HCL.out
 rw [<- hCn] at hCl
 obtain ⟨c0, c1⟩ := hC
 clear hqv hCn HCL
 have HB0 := Lib.hid ((Below.refl w.heap.size w).alloc (Nat.le_refl _) (.cells #[.int .i64 T, .slice (some ⟨b1, o1, none⟩) 4 qc, .slice ia 20 ic, .slice da 56 dc] 33))
 have HX0 := Lib.hid (new w #[.int .i64 T, .slice (some ⟨b1, o1, none⟩) 4 qc, .slice ia 20 ic, .slice da 56 dc] 33)
 go_enter Tryz.func154, Tryz.ntmps154
 go_wp2_with fail
 refine (HCN.out _ _ (FsF.holds_below HFS.out HB0.out)).mono ?_
 rintro e w1 ⟨rfl, hb⟩
 have HB1 := Lib.hid (HB0.out.trans (hb.mono HB0.out.size))
 have HX1 := Lib.hid (HX0.out.all hb)
 clear hb
 obtain ⟨x0, x1, x2, x3⟩ := Bk.c4 HX1.out
 have d0 := HB1.out.cell (p := ⟨b1, o1 + k * 2 + 1, none⟩) hb1
 rw [c1] at d0
 have hk4 : (k : Int) < 4 := by omega
 clear c0 c1
 have hw1 : IntKind.i64.wrap ((k : Int) * 14) = ((k * 14 : Nat) : Int) := by rw [IntKind.wrap_i64]; omega
 have hw2 : IntKind.i64.wrap (((k : Int) + 1) * 14) = ((k * 14 + 14 : Nat) : Int) := by rw [IntKind.wrap_i64]; omega
 by_cases hq : qv.2 <= (C : Nat)
 ·have HF := Lib.hid (HPQ.out hq)
  go_wp2
  go_ret2
  exact ⟨ret_pair HF.out, HB1.out⟩
 ·have HQQ := Lib.hid hq
  go_wp2_with fail
  clear d0 x0 x1 x2 x3 hq
  refine (FsK.used_any _ _ f HCC.out HUID.out (FsF.holds_below HFS.out HB1.out)).mono ?_
  rintro e w2 ⟨y, rfl, hrow, hb⟩
  obtain ⟨g, rfl, hrow⟩ := hrow HOWN.out
  rw [HOWN.out]
  have HROW := Lib.hid hrow
  have HB2 := Lib.hid (HB1.out.trans (hb.mono HB1.out.size))
  have HX2 := Lib.hid (HX1.out.all hb)
  clear hb hrow
  go_wp2
  go_loopw [9] (fun iv wr => ∃ j : Nat, j <= 14 /\ iv = .int .i64 ((k * 14 + j : Nat) : Int) /\ wr = w2 /\ ∀ i, i < j -> useB f (14 * k + i) = true) (fun iv _ => k * 14 + 14 - (intOf iv).toNat)
  case atStart => exact ⟨0, Nat.zero_le _, by first | rfl | (simp; done), by first | rfl | trivial, fun j hj => absurd hj (Nat.not_lt_zero _)⟩
  case round =>
   obtain ⟨j, hj, rfl, rfl, hall⟩ := hrel
   have HALL := Lib.hid hall
   clear hall
   by_cases hlt : j < 14
   ·have e0 := HROW.out.cellAt (k * 14 + j) (by omega)
    rw [FsK.bl_at _ (k * 14 + j) (by omega)] at e0
    have huse : useB f (14 * k + j) = hasB (allB f.inodes) ((k * 14 + j : Nat) : Int) := by rw [useB, Nat.mul_comm 14 k]
    have HNX := Lib.hid (fun (h : useB f (14 * k + j) = true) => show ∀ i, i < j + 1 -> useB f (14 * k + i) = true from fun i hi => (by
      rcases Nat.lt_or_ge i j with hij | hij
      ·exact HALL.out i hij
      ·rw [show i = j from by omega]; exact h))
    have HSO := Lib.hid (fun (h : useB f (14 * k + j) = false) => HPS.out HQQ.out j hlt HALL.out h)
    generalize hasB (allB f.inodes) ((k * 14 + j : Nat) : Int) = A at e0 huse
    obtain ⟨J, hJ⟩ : ∃ J, J = k * 14 + j := ⟨_, rfl⟩
    rw [<- hJ] at e0 ⊢
    have hJ1 : (J : Int) < ((k * 14 + 14 : Nat) : Int) := by omega
    have hJ2 : (J : Int) < 56 := by omega
    have HJ := Lib.hid hJ
    have HU := Lib.hid huse
    clear hJ huse
    cases A
    ·have HF := Lib.hid (HSO.out HU.out)
     go_wp2
     go_ret2
     exact ⟨ret_pair (by rw [HF.out, HJ.out, Nat.mul_comm 14 k]), HB2.out⟩
    ·have HN := Lib.hid (HNX.out HU.out)
     go_wp2
     go_roundw
     case rel => exact ⟨j + 1, by omega, by rw [HJ.out]; go_num, by first | rfl | trivial, HN.out⟩
     case measure => simp [intOf]; have := HJ.out; omega
   ·obtain rfl : j = 14 := by omega
    have HF := Lib.hid (HPN.out HQQ.out HALL.out)
    have hJ1 : ¬ (((k * 14 + 14 : Nat) : Int) < ((k * 14 + 14 : Nat) : Int)) := by omega
    go_wp2
    go_ret2
    exact ⟨ret_pair HF.out, HB2.out⟩
end Go.Proofs.YthppbcnejapbiaaGreatDoor.FsH

-- YthppbcnejapbiaaGreatDoorSpPt
/- A part. -/
namespace Go.Proofs.YthppbcnejapbiaaGreatDoor.SpPt
open Go.ChangeShapes Go.WideShapes Go.ChangeAt Go.RowKit
open RowG
open FsY (splice splice_at splice_len)
open FsZ (putB)
set_option linter.unusedVariables false
theorem ret_str {a b : ByteArray} (h : a = b) : Ending.returned (.string a) = .returned (.string b) := by rw [h]
def prt (c : List UInt8) (o : Nat) (s : List UInt8) (k : Nat) : List UInt8 := splice c o (s.take k)
theorem prt_zero (c : List UInt8) (o : Nat) (s : List UInt8) : prt c o s 0 = c := by simp [prt, splice]
theorem prt_all (c : List UInt8) (o : Nat) (s : List UInt8) : prt c o s s.length = splice c o s := by simp [prt]
theorem prt_len {c : List UInt8} {o : Nat} {s : List UInt8} {k : Nat} (h : o + s.length <= c.length) (hk : k <= s.length) : (prt c o s k).length = c.length := by
 rw [prt, splice_len (by rw [List.length_take]; omega)]
theorem prt_set {c : List UInt8} {o : Nat} {s : List UInt8} {k : Nat} (h : o + s.length <= c.length) (hk : k < s.length) : (prt c o s k).set (o + k) s[k] = prt c o s (k + 1) := by
 refine List.ext_getElem? fun j => ?_
 have l1 : (s.take k).length = k := by rw [List.length_take]; omega
 have l2 : (s.take (k + 1)).length = k + 1 := by rw [List.length_take]; omega
 rw [List.getElem?_set, prt_len h (by omega), prt, prt, splice_at (by rw [l1]; omega), splice_at (by rw [l2]; omega), l1, l2, List.getElem?_take, List.getElem?_take]
 by_cases h1 : o + k = j
 ·subst h1
  rw [if_pos rfl, if_pos (by omega), if_neg (by omega), if_pos (by omega), if_pos (by omega), Nat.add_sub_cancel_left, List.getElem?_eq_getElem hk]
 ·rw [if_neg h1]
  by_cases h2 : j < o
  ·rw [if_pos h2, if_pos h2]
  ·rw [if_neg h2, if_neg h2]
   by_cases h3 : j < o + k
   ·rw [if_pos h3, if_pos (by omega), if_pos (by omega), if_pos (by omega)]
   ·rw [if_neg h3, if_neg (by omega)]
set_option maxRecDepth 100000 in
set_option maxHeartbeats 1600000 in
theorem put_spec (blk : ByteArray) (o : Nat) (s : ByteArray) (w : World) (hb : blk.size <= 4096) (hfit : o + s.size <= blk.size) :
  Calls Tryz.prog 156 #[.string blk, .int .i64 o, .string s] w fun e w' => e = .returned (.string (putB blk o s.data.toList)) /\ Below w.heap.size w w' := by
 have hkc := Lib.run_convert_string_bytes (P := Tryz.prog) w 9 118 5 blk Tryz.underlying9 Tryz.underlying118 Tryz.underlying5
 have hby := bytes_own w 5 blk (by unfold maxLen; omega)
 have hll : blk.data.toList.length = blk.size := by simp
 have hsl : s.data.toList.length = s.size := by simp
 have hF : o + s.data.toList.length <= blk.data.toList.length := by omega
 have HF := Lib.hid hF
 have HLL := Lib.hid hll
 have HSL := Lib.hid hsl
 clear hF hll hsl
 go_enter Tryz.func156, Tryz.ntmps156
 go_wp2_with fail
 generalize Lib.bytesWorld w 5 blk = w1 at hby ⊢
 obtain ⟨hown, hb1⟩ := hby
 obtain ⟨cap, hcap⟩ : ∃ cap, cap = grownCap w blk.size 0 5 := ⟨_, rfl⟩
 rw [<- hcap] at hown ⊢
 have HOWN := Lib.hid hown
 have HB := Lib.hid hb1
 have HKC := Lib.hid hkc
 clear hown hb1 hkc hcap
 go_loopw [8] (fun iv wr => ∃ k : Nat, k <= s.size /\ iv = .int .i64 k /\ OwnG wr w.heap.size 5 (.slice (some ⟨w.heap.size, 0, none⟩) blk.size cap) blk.size (cellsB (prt blk.data.toList o s.data.toList k)) /\ Below w.heap.size w wr) (fun iv _ => s.size - (intOf iv).toNat)
 case atStart => exact ⟨0, Nat.zero_le _, rfl, by rw [prt_zero]; exact HOWN.out, HB.out⟩
 case round =>
  clear HOWN HB
  obtain ⟨k, hk, rfl, hown, hbe⟩ := hrel
  have HO := Lib.hid hown
  have HBE := Lib.hid hbe
  have hsz := hbe.size
  by_cases hlt : k < s.size
  ·obtain ⟨hkl⟩ : k < s.data.toList.length /\ True := ⟨by have := HSL.out; omega, trivial⟩
   have hst := (hown.stored (o + k) (.int .u8 (s.data.toList[k].toNat : Int)))
   rw [cellsB_set, prt_set HF.out hkl] at hst
   have hsk : s[k] = s.data.toList[k] := by simp [ByteArray.getElem_eq_getElem_data]
   rw [<- hsk] at hst
   have cg : ∃ u, wr.cell? ⟨w.heap.size, o + k, none⟩ = some u := by
    rw [hown.cellAt (o + k) (by omega)]
    exact ⟨_, List.getElem?_eq_getElem (by rw [cellsB_length, prt_len HF.out (by omega)]; have := HLL.out; omega)⟩
   obtain ⟨u, cg⟩ := cg
   have fg := hown.frozenAt (o + k) (by omega)
   have HST := Lib.hid hst.1
   have HB2 := Lib.hid (hbe.grown hst.2 hsz (fun k' hk' => by cases hk'; exact Nat.le_refl _))
   have hbnd : o + k < blk.size := by omega
   have ho1 : o <= 4096 := by omega
   have hk1 : k <= 4096 := by omega
   clear hown hbe hst hsk
   go_wp2
   go_roundw
   case rel => exact ⟨k + 1, by omega, by go_num, HST.out, HB2.out⟩
   case measure => simp [intOf]; omega
  ·obtain rfl : k = s.size := by omega
   have hbk := back HO.out
   have HBK := Lib.hid hbk
   clear hown hbe
   go_wp2_with fail
   go_ret
   exact ⟨ret_str (by unfold putB; rw [<- prt_all, HSL.out]), HBE.out⟩
end Go.Proofs.YthppbcnejapbiaaGreatDoor.SpPt

-- YthppbcnejapbiaaGreatDoorSpWp
/- A part. -/
namespace Go.Proofs.YthppbcnejapbiaaGreatDoor.SpWp
open Go.ChangeShapes Go.WideShapes Go.ChangeAt Go.RowKit
open Foot Bx
open InoV (I okI usedV needV hasB)
open FsV (F okF e0 z32 allB Half pick useB)
open FsY FsZ FoB FsWm
open CoR (mid mid_set mid_skip mid_len mid_zero)
set_option linter.unusedVariables false
theorem max_spec (a b : Int) (w : World) : Calls Tryz.prog 152 #[.int .i64 a, .int .i64 b] w fun e w' => e = .returned (.int .i64 (max a b)) /\ w = w' := by
 by_cases h : b < a
 ·have e1 : max a b = a := by omega
  rw [e1]
  go_enter Tryz.func152, Tryz.ntmps152
  go_wp2
  go_ret
  exact ⟨rfl, rfl⟩
 ·have e1 : max a b = b := by omega
  rw [e1]
  have h2 : ¬ a > b := h
  go_enter Tryz.func152, Tryz.ntmps152
  go_wp2
  go_ret
  exact ⟨rfl, rfl⟩
theorem min_spec (a b : Int) (w : World) : Calls Tryz.prog 155 #[.int .i64 a, .int .i64 b] w fun e w' => e = .returned (.int .i64 (min a b)) /\ w = w' := by
 by_cases h : a < b
 ·have e1 : min a b = a := by omega
  rw [e1]
  go_enter Tryz.func155, Tryz.ntmps155
  go_wp2
  go_ret
  exact ⟨rfl, rfl⟩
 ·have e1 : min a b = b := by omega
  rw [e1]
  go_enter Tryz.func155, Tryz.ntmps155
  go_wp2
  go_ret
  exact ⟨rfl, rfl⟩
def Rr (w : World) (b nb g : Nat) (y1 y2 : Value) : List Nat := [w.heap.size, w.heap.size + 1, b, nb, g] ++ fpR y1 ++ fpR y2
def WI (w : World) (lo b nb B H0 : Nat) (f : F) (N : I) (q : Value) (gi ci gd cd g M c : Nat) (y1 y2 : Value) (fb : Array Value) (l0 : List Int) (o : Nat) (ins : List I) (d : List ByteArray) (pre : List Int) (W : World) : Prop :=
 ∃ S, FO W lo b { f with inodes := ins, data := d } q gi ci gd cd S /\ Bk W nb #[.int .i64 N.kind, .int .i64 N.mode, .int .i64 N.uid, .int .i64 N.gid, .int .i64 N.links, .int .i64 N.size, .int .i64 N.tick, .slice (some ⟨g, 0, none⟩) M c, y1, y2] 89 /\ W.ownsRow B 3 1 (.slice (some ⟨g, 0, none⟩) M c) M (NiF.cells (mid l0 o pre)) /\ AeF.Own W B y1 N.acl (fpR y1) /\ AeF.Own W B y2 N.dflt (fpR y2) /\ Bk W w.heap.size fb 33 /\ Bk W (w.heap.size + 1) #[.int .i64 0, .slice none 0 0, .slice none 0 0, .slice none 0 0] 33 /\ Apart S (Rr w b nb g y1 y2) /\ H0 <= W.heap.size /\ Below w.heap.size w W
structure WS (w : World) (lo b nb B H0 g M : Nat) (l0 : List Int) (y1 y2 : Value) : Prop where
 low : ∀ x ∈ Rr w b nb g y1 y2, x < H0
 base : w.heap.size <= lo /\ w.heap.size <= B /\ w.heap.size <= b /\ w.heap.size <= nb /\ w.heap.size <= g
 gb : g ≠ b /\ g ≠ nb /\ g ≠ w.heap.size /\ g ≠ w.heap.size + 1
 gy : g ∉ fpR y1 /\ g ∉ fpR y2
 len : l0.length = M
section
variable {w W W' : World} {lo b nb B H0 : Nat} {f : F} {N : I} {q : Value} {gi ci gd cd g M c : Nat} {y1 y2 : Value} {fb : Array Value} {l0 : List Int} {o : Nat} {ins : List I} {d : List ByteArray} {pre : List Int}
theorem wi_below (h : WI w lo b nb B H0 f N q gi ci gd cd g M c y1 y2 fb l0 o ins d pre W) (hb : Below W.heap.size W W') : WI w lo b nb B H0 f N q gi ci gd cd g M c y1 y2 fb l0 o ins d pre W' := by
 obtain ⟨S, h1, h2, h3, h4, h5, h6, h7, h8, h9, h10⟩ := h
 exact ⟨S, h1.below hb, h2.all hb, row_below h3 hb, AeF.own_below h4 hb, AeF.own_below h5 hb, h6.all hb, h7.all hb, h8, Nat.le_trans h9 hb.size, h10.trans (hb.mono h10.size)⟩
theorem in_rr {x : Nat} (h : x ∈ [w.heap.size, w.heap.size + 1, b, nb, g]) : x ∈ Rr w b nb g y1 y2 := by unfold Rr; simp only [List.mem_append]; exact .inl (.inl h)
theorem wi_chg {S S' T : List Nat} {ins' : List I} {d' : List ByteArray} (hs : WS w lo b nb B H0 g M l0 y1 y2) (h : WI w lo b nb B H0 f N q gi ci gd cd g M c y1 y2 fb l0 o ins d pre W) (hc : Chg W W' T) (hT : ∀ x ∈ T, x ∉ Rr w b nb g y1 y2 /\ w.heap.size <= x) (hfo : FO W' lo b { f with inodes := ins', data := d' } q gi ci gd cd S') (hS' : Apart S' (Rr w b nb g y1 y2)) : WI w lo b nb B H0 f N q gi ci gd cd g M c y1 y2 fb l0 o ins' d' pre W' := by
 obtain ⟨S0, h1, h2, h3, h4, h5, h6, h7, h8, h9, h10⟩ := h
 have nin : ∀ x, x ∈ Rr w b nb g y1 y2 -> x ∉ T := fun x hx hh => (hT x hh).1 hx
 have hap : ∀ L : List Nat, (∀ x ∈ L, x ∈ Rr w b nb g y1 y2) -> Apart L T := fun L hL x hx => nin x (hL x hx)
 have hgf : ∀ x ∈ fpR (.slice (some ⟨g, 0, none⟩) M c), x ∈ Rr w b nb g y1 y2 := fun x hx => by
  have e : x = g := by simpa [fpR, Value.ownBlock] using hx
  rw [e]; exact in_rr (by simp)
 exact ⟨S', hfo, FoB.Bk.chg h2 hc (nin _ (in_rr (by simp))), row_chg h3 hc (hap _ hgf), AeF.own_chg h4 hc (hap _ (fun x hx => by unfold Rr; simp [hx])), AeF.own_chg h5 hc (hap _ (fun x hx => by unfold Rr; simp [hx])), FoB.Bk.chg h6 hc (nin _ (in_rr (by simp))), FoB.Bk.chg h7 hc (nin _ (in_rr (by simp))), hS', Nat.le_trans h9 hc.size, h10.trans (hc.below h10.size (fun x hx => (hT x hx).2))⟩
theorem wi_data (hs : WS w lo b nb B H0 g M l0 y1 y2) (h : WI w lo b nb B H0 f N q gi ci gd cd g M c y1 y2 fb l0 o ins d pre W) {t : Nat} (ht : t < 56) (s : ByteArray) : WI w lo b nb B H0 f N q gi ci gd cd g M c y1 y2 fb l0 o ins (d.set t s) pre (W.setCell ⟨gd, t, none⟩ (.string s)) := by
 have h' := h
 obtain ⟨S, h1, h2, h3, h4, h5, h6, h7, h8, h9, h10⟩ := h
 have hb := hs.base
 refine wi_chg (S := S) (S' := S) (T := [gd]) hs h' (chg_set W ⟨gd, t, none⟩ (.string s)) (fun x hx => ?_) (h1.setD ht s) h8
 rw [List.mem_singleton] at hx
 subst hx
 exact ⟨h8 _ h1.gd_mem, by have := h1.gd_lt.1; omega⟩
theorem wi_set {x : Int} (hs : WS w lo b nb B H0 g M l0 y1 y2) (h : WI w lo b nb B H0 f N q gi ci gd cd g M c y1 y2 fb l0 o ins d pre W) (hj : o + pre.length < l0.length) : WI w lo b nb B H0 f N q gi ci gd cd g M c y1 y2 fb l0 o ins d (pre ++ [x]) (W.setCell ⟨g, o + pre.length, none⟩ (.int .i64 x)) := by
 obtain ⟨S, h1, h2, h3, h4, h5, h6, h7, h8, h9, h10⟩ := h
 have hc := chg_set W ⟨g, o + pre.length, none⟩ (.int .i64 x)
 have hb := hs.base
 have hg := hs.gb
 have hy := hs.gy
 have one : ∀ T : List Nat, g ∉ T -> Apart T [g] := fun T hT y hy hh => by rw [List.mem_singleton] at hh; exact hT (hh ▸ hy)
 have hst := (h3.stored (o + pre.length) (.int .i64 x)).1
 rw [show (NiF.cells (mid l0 o pre)).set (o + pre.length) (.int .i64 x) = NiF.cells ((mid l0 o pre).set (o + pre.length) x) from by simp [NiF.cells, List.map_set], mid_set x hj] at hst
 exact ⟨S, h1.chg hc (by simp; exact fun e => hg.1 e.symm) (one _ fun hh => h8 _ hh (in_rr (by simp))), FoB.Bk.chg h2 hc (by simp; exact fun e => hg.2.1 e.symm), hst, AeF.own_chg h4 hc (one _ hy.1), AeF.own_chg h5 hc (one _ hy.2), FoB.Bk.chg h6 hc (by simp; exact fun e => hg.2.2.1 e.symm), FoB.Bk.chg h7 hc (by simp; exact fun e => hg.2.2.2 e.symm), h8, by simp; exact h9, h10.trans (FoB.Chg.from hc h10.size hb.2.2.2.2)⟩
theorem wi_skip (h : WI w lo b nb B H0 f N q gi ci gd cd g M c y1 y2 fb l0 o ins d pre W) (hj : o + pre.length < l0.length) : WI w lo b nb B H0 f N q gi ci gd cd g M c y1 y2 fb l0 o ins d (pre ++ [l0.getD (o + pre.length) 0]) W := by
 obtain ⟨S, h1, h2, h3, h4⟩ := h
 exact ⟨S, h1, h2, by rw [<- mid_skip hj]; exact h3, h4⟩
theorem wi_ino {W0 : World} {k : Nat} {n' : I} {T : List Nat} {u0 u1 u2 u3 u4 u5 u6 u7 u8 u9 : Value} (hs : WS w lo b nb B H0 g M l0 y1 y2) (h0 : WI w lo b nb B H0 f N q gi ci gd cd g M c y1 y2 fb l0 o ins d pre W0) (hbl : Below W0.heap.size W0 W) (hk : k < 20) (hn0 : In.Own W W0.heap.size (.agg #[u0, u1, u2, u3, u4, u5, u6, u7, u8, u9]) n' T) : WI w lo b nb B H0 f N q gi ci gd cd g M c y1 y2 fb l0 o (ins.set k n') d pre (FoB.row10 W gi k u0 u1 u2 u3 u4 u5 u6 u7 u8 u9) := by
 have h := wi_below h0 hbl
 have h' := h
 have hL := In.own_lies hn0
 obtain ⟨S, z1, _, _, _, _, _, _, z8, z9, _⟩ := h0
 have h1 := z1.below hbl
 have hT : ∀ x ∈ T, x ∉ Rr w b nb g y1 y2 := fun x hx hh => by
  have := (hL x hx).1
  have := hs.low x hh
  omega
 have hTS : Apart T S := fun x hx hh => by
  have := (hL x hx).1
  have := (z1.lies x hh).2
  omega
 have hn := In.own_mono hn0 (show lo <= W0.heap.size from by have := z1.gd_lt; omega)
 have h8 := z8
 have hb := hs.base
 obtain ⟨S', hfo, hsub⟩ := h1.setI hk hn hTS (fun hh => hT _ hh (in_rr (by simp)))
 refine wi_chg (S := S) (S' := S') (T := [gi]) hs h' (FoB.row10_chg W gi k u0 u1 u2 u3 u4 u5 u6 u7 u8 u9) (fun x hx => ?_) hfo (fun x hx => ?_)
 ·rw [List.mem_singleton] at hx
  subst hx
  exact ⟨h8 _ h1.gi_mem, by have := h1.gi_lt.1; omega⟩
 ·rcases hsub x hx with hx | hx
  ·exact h8 x hx
  ·exact hT x hx
end
def VI (f : F) (k u : Nat) (N : I) (qv : Int) (win l0 : List Int) (o j : Nat) (pre : List Int) (s : Int -> Bool) (ins : List I) : Prop :=
 Don (14 * u) qv isHole (hasB (allB f.inodes)) s (win.take j) pre /\ (∀ z, s z = (hasB (allB f.inodes) z || hasB pre z)) /\ ((ins = f.inodes /\ ∀ z ∈ pre, z ∈ allB f.inodes) \/ ins = f.inodes.set k { N with blocks := mid l0 o pre })
theorem has_snoc2 (pre : List Int) (x z : Int) : hasB (pre ++ [x]) z = (hasB pre z || decide (z = x)) := by
 rw [FsV.has_snoc]
 congr 1
 exact decide_eq_decide.2 eq_comm
theorem vi_zero (f : F) (k u : Nat) (N : I) (qv : Int) (win l0 : List Int) (o : Nat) : VI f k u N qv win l0 o 0 [] (hasB (allB f.inodes)) f.inodes :=
 ⟨don_zero _ _ _ _, fun z => by show _ = (_ || false); simp, .inl ⟨rfl, fun z hz => by cases hz⟩⟩
section
variable {f : F} {k u : Nat} {N : I} {qv : Int} {win l0 : List Int} {o j L : Nat} {pre : List Int} {s : Int -> Bool} {ins : List I}
theorem vi_len (h : VI f k u N qv win l0 o j pre s ins) (hj : j <= win.length) : pre.length = j := by
 have := don_len h.1
 rw [this, List.length_take]; omega
theorem vi_skip (h : VI f k u N qv win l0 o j pre s ins) (hj : j < win.length) (hw : win.getD j 0 = l0.getD (o + j) 0) (hl : o + j < l0.length) (hb : l0.getD (o + j) 0 ≠ -1) (hu : l0.getD (o + j) 0 ∈ allB f.inodes) : VI f k u N qv win l0 o (j + 1) (pre ++ [l0.getD (o + pre.length) 0]) s ins := by
 have hp := vi_len h (by omega)
 obtain ⟨h1, h2, h3⟩ := h
 refine ⟨?_, fun z => ?_, ?_⟩
 ·rw [take_next hj, hp, <- hw]
  exact don_skip h1 (by rw [hw]; simpa [isHole] using hb)
 ·rw [has_snoc2, h2 z, hp]
  by_cases e : z = l0.getD (o + j) 0
  ·subst e
   rw [FsV.has_mem.2 hu]; simp
  ·rw [decide_eq_false e]; simp
 ·rcases h3 with ⟨h3, h4⟩ | h3
  ·refine .inl ⟨h3, fun z hz => ?_⟩
   rcases List.mem_append.1 hz with hz | hz
   ·exact h4 z hz
   ·rw [List.mem_singleton, hp] at hz
    rw [hz]; exact hu
  ·exact .inr (by rw [<- mid_skip (by rw [hp]; exact hl)]; exact h3)
theorem vi_new {x : Int} (h : VI f k u N qv win l0 o j pre s ins) (hj : j < win.length) (hw : win.getD j 0 = l0.getD (o + j) 0) (hb : l0.getD (o + j) 0 = -1) (hp : pk (14 * u) qv s = (x, 0)) : VI f k u N qv win l0 o (j + 1) (pre ++ [x]) (more s x) (ins.set k { N with blocks := mid l0 o (pre ++ [x]) }) := by
 obtain ⟨h1, h2, h3⟩ := h
 refine ⟨?_, fun z => ?_, .inr ?_⟩
 ·rw [take_next hj]
  exact don_new h1 (by rw [hw, hb]; rfl) hp
 ·rw [has_snoc2]
  unfold more
  rw [h2 z, Bool.or_comm, Bool.or_assoc]
 ·rcases h3 with ⟨h3, _⟩ | h3
  ·rw [h3]
  ·rw [h3, List.set_set]
theorem vi_fail {x c : Int} (h : VI f k u N qv win l0 o j pre s ins) (hj : j < win.length) (hw : win.getD j 0 = l0.getD (o + j) 0) (hb : l0.getD (o + j) 0 = -1) (hp : pk (14 * u) qv s = (x, c)) (hc : c ≠ 0) : (renew (14 * u) qv isHole (hasB (allB f.inodes)) win).2 = c := by
 rw [take_split hj]
 exact don_fail h.1 (by rw [hw, hb]; rfl) hp hc
theorem vi_end (h : VI f k u N qv win l0 o win.length pre s ins) : renew (14 * u) qv isHole (hasB (allB f.inodes)) win = (pre, 0) := by
 have := don_all h.1
 rwa [List.take_length] at this
theorem vi_half (g : GoodF f k) (hu : (ino f k).uid = u) {m : Nat} (hl : l0 = holes (ino f k).blocks m) (hm : (ino f k).blocks.length <= m) (ho : o <= l0.length) (hw : win = (l0.take L).drop o) (hN : N.uid = u) (hj : j <= win.length) (h : VI f k u N qv win l0 o j pre s ins) (d : List ByteArray) (hd : d.length = 56) : Half { f with inodes := ins, data := d } /\ pick (useB { f with inodes := ins, data := d }) (14 * u) 14 qv = pk (14 * u) qv s /\ Fil u (allB f.inodes) l0 o pre := by
 obtain ⟨h1, h2, h3⟩ := h
 have hf : Fil u (allB f.inodes) l0 o pre := fil_of ho (j := j) (by rw [<- hw]; exact hj) (by rw [<- hw]; exact h1)
 have hh := FsV.half_of g.ok
 have key : ∀ ns : List I, (∀ z, hasB (allB ns) z = (hasB (allB f.inodes) z || hasB pre z)) -> pick (useB { f with inodes := ns, data := d }) (14 * u) 14 qv = pk (14 * u) qv s := fun ns hz => pick_congr fun y _ => by
  show hasB (allB ns) _ = s _
  rw [hz, h2]
 rcases h3 with ⟨rfl, h4⟩ | rfl
 ·refine ⟨⟨hh.quotas, hh.inodes, hd, hh.uids, hh.own⟩, key _ (fun z => ?_), hf⟩
  by_cases e : hasB pre z = true
  ·rw [e, FsV.has_mem.2 (h4 z (FsV.has_mem.1 e))]; rfl
  ·rw [Bool.not_eq_true] at e
   rw [e, Bool.or_false]
 ·obtain ⟨r1, r2⟩ := fil_half (n' := { N with blocks := mid l0 o pre }) g hu hl hm hf hN rfl d hd
  exact ⟨r1, key _ r2, hf⟩
theorem vi_cost (g : GoodF f k) (hM : l0.length <= 8) (hNa : N.acl = (ino f k).acl /\ N.dflt = (ino f k).dflt) (hf : Fil u (allB f.inodes) l0 o pre) (h : VI f k u N qv win l0 o j pre s ins) (d : List ByteArray) (hd : d.length = 56) (hs : ∀ x ∈ d, x.size = 32) : FsF.cost { f with inodes := ins, data := d } <= 4096 := by
 have hp := FsV.parts_of (FsV.ok_parts g.ok).2.1
 have h1 := AclV.ok_len (InoV.ok_acls g.inode).1
 have h2 := AclV.ok_len (InoV.ok_acls g.inode).2
 have hcs : IF.csum ins <= 20 * ins.length /\ ins.length = 20 := by
  rcases h.2.2 with ⟨rfl, _⟩ | rfl
  ·exact ⟨FsOk.csum_ok _ hp.2.2.2.2.1, hp.2.1⟩
  ·refine ⟨?_, by rw [List.length_set]; exact hp.2.1⟩
   have hall : ∀ n ∈ f.inodes.set k { N with blocks := mid l0 o pre }, In.cost n <= 20 := fun n hn => by
    rcases List.mem_or_eq_of_mem_set hn with hn | rfl
    ·exact FsOk.inode_cost (hp.2.2.2.2.1 n hn)
    ·show (mid l0 o pre).length + N.acl.length + N.dflt.length <= 20
     rw [mid_len hf.fit, hNa.1, hNa.2]; omega
   have : ∀ l : List I, (∀ n ∈ l, In.cost n <= 20) -> IF.csum l <= 20 * l.length := by
    intro l
    induction l with
    | nil => intro _; exact Nat.le_refl _
    | cons a r ih =>
     intro hl
     have e : IF.csum (a :: r) = In.cost a + IF.csum r := by simp [IF.csum]
     have := hl a (by simp)
     have := ih fun x hx => hl x (by simp [hx])
     rw [e, List.length_cons]; omega
   exact this _ hall
 have e2 := FsOk.data_cost d hs
 show QF.cost f.quotas + (ins.length + IF.csum ins) + SF.cost d <= 4096
 have e3 : QF.cost f.quotas = f.quotas.length := rfl
 have := hp.1
 omega
theorem vi_rng (g : GoodF f k) (hu : (ino f k).uid = u) (hu3 : u <= 3) {m : Nat} (hl : l0 = holes (ino f k).blocks m) (hm : (ino f k).blocks.length <= m) (hf : Fil u (allB f.inodes) l0 o pre) : ∀ b ∈ pre, 0 <= b /\ b <= 55 := fun b hb => by
 rcases pre_in hf hb with ⟨t, ht, e, h1, h2⟩ | ⟨t, ht, e, h1, h2, kk, hk, h3⟩
 ·rw [hl, holes_used hm h2] at h1
  exact (FsV.own_facts g.ok).2 b (g.used (usedV_of.2 ⟨h1, h2⟩))
 ·omega
theorem seg_len (a : Nat) (s : List UInt8) (g : GoodF f k) : (segD a s o pre f.data).length = 56 := by rw [segD_len]; exact g.dlen
theorem seg_sz {a : Nat} {s : List UInt8} (g : GoodF f k) (hr : ∀ b ∈ pre, 0 <= b /\ b <= 55) (h1 : a / 32 <= o) (h2 : ∀ t, t < pre.length -> 32 * (o + t) < a + s.length) : ∀ x ∈ segD a s o pre f.data, x.size = 32 :=
 segD_size a s pre o f.data g.dsz (fun t ht => (seg_fit (by omega) (h2 t ht)).1) (fun b hb => by rw [g.dlen]; have := hr b hb; omega)
theorem old_used (g : GoodF f k) {m : Nat} (hl : l0 = holes (ino f k).blocks m) (hm : (ino f k).blocks.length <= m) {t : Nat} (ht : t < l0.length) (hb : l0.getD t 0 ≠ -1) : l0.getD t 0 ∈ allB f.inodes := by
 have h1 : l0.getD t 0 ∈ l0 := FsV.mem_getD ht
 have h2 : l0.getD t 0 ∈ holes (ino f k).blocks m := by rw [<- hl]; exact h1
 rw [holes_used hm hb] at h2
 exact g.used (usedV_of.2 ⟨h2, hb⟩)
end
def Stp (f : F) (k u : Nat) (N : I) (qv : Int) (win l0 : List Int) (o j : Nat) (pre : List Int) (Q : List I -> List Int -> World -> Prop) (W : World) : Prop :=
 ∃ (x : Nat) (s : Int -> Bool) (ins : List I), x < 56 /\ VI f k u N qv win l0 o (j + 1) (pre ++ [(x : Int)]) s ins /\ Q ins (pre ++ [(x : Int)]) W
theorem part_seg (s : ByteArray) (a K : Nat) : (s.extract (max a (32 * K) - a) (min (a + s.data.toList.length) (32 * K + 32) - a)).data.toList = segS a s.data.toList K := by
 rw [ByteArray.data_extract, Array.toList_extract, List.extract_eq_take_drop]
 unfold segS
 rw [List.drop_take]
end Go.Proofs.YthppbcnejapbiaaGreatDoor.SpWp

-- YthppbcnejapbiaaGreatDoorSpWr
/- A part. -/
namespace Go.Proofs.YthppbcnejapbiaaGreatDoor.SpWr
open Go.ChangeShapes Go.WideShapes Go.ChangeAt Go.RowKit
open Foot Bx
open InoV (I okI usedV needV hasB)
open FsV (F okF e0 z32 allB Half pick useB)
open FsY FsZ FoB FsWm SpWp
open SpSz (Far Grw grw_app)
open CoR (mid mid_set mid_skip mid_len mid_zero mid_at)
set_option linter.unusedVariables false
theorem grw_below {w W W' : World} {lo b nb B : Nat} {f : F} {n : I} {q : Value} {gi ci gd cd : Nat} {S : List Nat} {a0 : Option Addr} {c0 : Nat} {y1 y2 : Value} {X m : Nat} {d : List ByteArray} {jj : Nat} {a : Option Addr} {c : Nat} (h : Grw w lo b nb B f n q gi ci gd cd S a0 c0 y1 y2 X m d jj a c W) (hb : Below W.heap.size W W') : Grw w lo b nb B f n q gi ci gd cd S a0 c0 y1 y2 X m d jj a c W' := by
 obtain ⟨h1, h2, h3, h4, h5, h6, h7, h8⟩ := h
 exact ⟨h1.below hb, h2.all hb, fun hh => ⟨(h3 hh).1, row_below (h3 hh).2 hb⟩, fun hh => ⟨(h4 hh).1, (h4 hh).2.1, (h4 hh).2.2.1, (h4 hh).2.2.2.1, (h4 hh).2.2.2.2.1, row_below (h4 hh).2.2.2.2.2 hb⟩, AeF.own_below h5 hb, AeF.own_below h6 hb, h7.all hb, h8.trans (hb.mono h8.size)⟩
theorem grw_full {w W : World} {lo b nb B : Nat} {f : F} {n : I} {q : Value} {gi ci gd cd : Nat} {S : List Nat} {a0 : Option Addr} {c0 : Nat} {y1 y2 : Value} {m : Nat} {d : List ByteArray} {jj : Nat} {a : Option Addr} {c : Nat} (h : Grw w lo b nb B f n q gi ci gd cd S a0 c0 y1 y2 n.blocks.length m d jj a c W) (hj : n.blocks.length + jj = m) : W.ownsRow B 3 1 (.slice a m c) m (NiF.cells (holes n.blocks m)) := by
 obtain ⟨_, _, h3, h4, _⟩ := h
 have e1 := CoW.grown_holes (l := n.blocks) (m := m) (j := jj) (by omega)
 rw [List.take_of_length_le (by rw [CoW.grown_len]; omega)] at e1
 by_cases hX : n.blocks.length < m
 ·have := (h3 hX).2
  rw [hj, e1] at this
  exact this
 ·obtain ⟨hx, _, rfl, rfl, rfl, hr⟩ := h4 (by omega)
  rw [CoW.grown_zero] at e1
  rw [<- e1, <- hx]
  exact hr
set_option maxRecDepth 100000 in
set_option maxHeartbeats 12800000 in
theorem lwrite_spec (w : World) (v : Value) (f : F) (k : Nat) (a : Int) (s : ByteArray) (hc : FsF.cost f <= 1073741824) (hob : hasObjB f k = true) (hs : s.size <= 1073741824) (h : FsF.Holds w v f) :
  Calls Tryz.prog 110 #[v, .int .i64 k, .int .i64 a, .string s] w fun e w' => ∃ v' S, e = .returned (.tuple #[v', .int .i64 (writeV f k a s).2]) /\ FsF.Own w' w.heap.size v' (writeV f k a s).1 S /\ Below w.heap.size w w' := by
 have HFS := Lib.hid h
 have HCC := Lib.hid hc
 have HOB := Lib.hid hob
 have g := (FsOk.has_kind hob).1
 have HG := Lib.hid g
 have hk20 : k < 20 := g.lt
 obtain ⟨r0, r1, r2, rfl, g0, g1, g2⟩ := h
 have HIL := Lib.hid (show f.inodes.length = 20 from (FsV.parts_of (FsV.ok_parts g.ok).2.1).2.1)
 have HDL := Lib.hid g.dlen
 obtain ⟨qa, qc, rfl⟩ := QF.form g0
 obtain ⟨ia, ic, rfl⟩ := IF.form g1
 obtain ⟨da, dc, rfl⟩ := SF.form g2
 clear g0 g1 g2 hc hob
 have HCA := Lib.hid (fun (W : World) (hw : Below w.heap.size w W) => show Calls Tryz.prog 61 #[.agg #[.int .i64 f.tick, .slice qa f.quotas.length qc, .slice ia f.inodes.length ic, .slice da f.data.length dc]] W fun e w' => ∃ v' S, e = .returned v' /\ FsF.Own w' W.heap.size v' f S /\ Below W.heap.size W w' from CoS.copy_spec W _ f HCC.out (FsF.holds_below HFS.out hw))
 have HCX := Lib.hid (show In.cost (ino f k) <= 1073741824 from Nat.le_trans (IF.cost_mem g.mem) (Nat.le_trans (Nat.le_trans (Nat.le_add_left _ _) (FsF.le_inodes f)) HCC.out))
 obtain ⟨T, hT⟩ : ∃ T, T = f.tick := ⟨_, rfl⟩
 obtain ⟨Q, hQ⟩ : ∃ Q, Q = f.quotas.length := ⟨_, rfl⟩
 obtain ⟨M0, hM⟩ : ∃ M, M = f.inodes.length := ⟨_, rfl⟩
 obtain ⟨D, hD⟩ : ∃ D, D = f.data.length := ⟨_, rfl⟩
 rw [<- hT, <- hQ, <- hM, <- hD] at HFS HCA ⊢
 clear hT hQ hM hD g
 have HB0 := Lib.hid (((Below.refl w.heap.size w).alloc (Nat.le_refl _) (.cells #[.int .i64 T, .slice qa Q qc, .slice ia M0 ic, .slice da D dc] 33)).alloc (by simp) (.cells #[.int .i64 0, .slice none 0 0, .slice none 0 0, .slice none 0 0] 33))
 have HX0 := Lib.hid ((new w #[.int .i64 T, .slice qa Q qc, .slice ia M0 ic, .slice da D dc] 33).alloc (.cells #[.int .i64 0, .slice none 0 0, .slice none 0 0, .slice none 0 0] 33))
 have HR0 := Lib.hid (new_at (w.alloc (.cells #[.int .i64 T, .slice qa Q qc, .slice ia M0 ic, .slice da D dc] 33)) #[.int .i64 0, .slice none 0 0, .slice none 0 0, .slice none 0 0] 33 (w.heap.size + 1) (by simp))
 have HS0 := Lib.hid (show w.heap.size + 1 + 1 <= ((w.alloc (.cells #[.int .i64 T, .slice qa Q qc, .slice ia M0 ic, .slice da D dc] 33)).alloc (.cells #[.int .i64 0, .slice none 0 0, .slice none 0 0, .slice none 0 0] 33)).heap.size by simp)
 obtain ⟨x0, x1, x2, x3⟩ := Bk.c4 HX0.out
 by_cases ha : 0 <= a
 rotate_left
 ·have HVV := Lib.hid (show writeV f k a s = (f, 1) from by unfold writeV; rw [HOB.out, decide_eq_false ha]; rfl)
  have q0 : decide (a < 0) = true := decide_eq_true (by omega)
  clear ha x0 x1 x2 x3
  go_enter Tryz.func110, Tryz.ntmps110
  go_wp2_with fail
  refine (HCA.out _ HB0.out).mono ?_
  rintro e w2 ⟨y, S, rfl, hown, hb⟩
  obtain ⟨z0, z1a, z1n, z1c, z2a, z2n, z2c, z3a, z3n, z3c, rfl⟩ := FsF.own_form hown
  have HBq := Lib.hid (HB0.out.trans (hb.mono HB0.out.size))
  have HRq := Lib.hid (HR0.out.all hb)
  have HNS := Lib.hid (show w.heap.size + 1 ∉ S from fun hh => by have h1 := (FsF.own_lies hown _ hh).1; have h2 := HS0.out; omega)
  have HOW := Lib.hid (FsF.own_mono hown HB0.out.size)
  clear hb hown
  obtain ⟨r0, r1, r2, r3⟩ := Bk.c4 HRq.out
  have f0 := HRq.out.free 0
  have f1 := HRq.out.free 1
  have f2 := HRq.out.free 2
  have f3 := HRq.out.free 3
  go_wp2
  have hF := FoB.box4_bk HRq.out (.int .i64 z0) (.slice z1a z1n z1c) (.slice z2a z2n z2c) (.slice z3a z3n z3c)
  have hC9 := FoB.box4_chg w2 (w.heap.size + 1) (.int .i64 z0) (.slice z1a z1n z1c) (.slice z2a z2n z2c) (.slice z3a z3n z3c)
  unfold FoB.box4 at hF hC9
  generalize ((((w2.setCell ⟨w.heap.size + 1, 0, none⟩ (.int .i64 z0)).setCell ⟨w.heap.size + 1, 1, none⟩ (.slice z1a z1n z1c)).setCell ⟨w.heap.size + 1, 2, none⟩ (.slice z2a z2n z2c)).setCell ⟨w.heap.size + 1, 3, none⟩ (.slice z3a z3n z3c)) = w9 at hF hC9 ⊢
  obtain ⟨e0, e1, e2, e3⟩ := Bk.c4 hF
  have hres := FsF.own_mono (FsF.own_chg HOW.out hC9 (fun x hx hh => by rw [List.mem_singleton] at hh; subst hh; exact HNS.out hx)) (show w.heap.size <= w.heap.size from Nat.le_refl _)
  refine bodyPost_ret (v := .tuple #[.agg #[.int .i64 z0, .slice z1a z1n z1c, .slice z2a z2n z2c, .slice z3a z3n z3c], .int .i64 1]) (by simp [results, Tryz.results110, go_sem, e0, e1, e2, e3]) rfl ?_
  exact ⟨_, S, by rw [HVV.out], by rw [HVV.out]; exact hres, HBq.out.trans (FoB.Chg.from hC9 HBq.out.size (Nat.le_succ _))⟩
 ·have q0 : decide (a < 0) = false := decide_eq_false (by omega)
  by_cases hm : 256 - (s.size : Int) < a
  ·have HVV := Lib.hid (show writeV f k a s = (f, 9) from by unfold writeV; rw [HOB.out, decide_eq_true ha]; exact if_pos hm)
   have q1 : decide (256 - (s.size : Int) < a) = true := decide_eq_true hm
   clear ha hm x0 x1 x2 x3
   go_enter Tryz.func110, Tryz.ntmps110
   go_wp2_with fail
   refine (HCA.out _ HB0.out).mono ?_
   rintro e w2 ⟨y, S, rfl, hown, hb⟩
   obtain ⟨z0, z1a, z1n, z1c, z2a, z2n, z2c, z3a, z3n, z3c, rfl⟩ := FsF.own_form hown
   have HBq := Lib.hid (HB0.out.trans (hb.mono HB0.out.size))
   have HRq := Lib.hid (HR0.out.all hb)
   have HNS := Lib.hid (show w.heap.size + 1 ∉ S from fun hh => by have h1 := (FsF.own_lies hown _ hh).1; have h2 := HS0.out; omega)
   have HOW := Lib.hid (FsF.own_mono hown HB0.out.size)
   clear hb hown
   obtain ⟨r0, r1, r2, r3⟩ := Bk.c4 HRq.out
   have f0 := HRq.out.free 0
   have f1 := HRq.out.free 1
   have f2 := HRq.out.free 2
   have f3 := HRq.out.free 3
   go_wp2
   have hF := FoB.box4_bk HRq.out (.int .i64 z0) (.slice z1a z1n z1c) (.slice z2a z2n z2c) (.slice z3a z3n z3c)
   have hC9 := FoB.box4_chg w2 (w.heap.size + 1) (.int .i64 z0) (.slice z1a z1n z1c) (.slice z2a z2n z2c) (.slice z3a z3n z3c)
   unfold FoB.box4 at hF hC9
   generalize ((((w2.setCell ⟨w.heap.size + 1, 0, none⟩ (.int .i64 z0)).setCell ⟨w.heap.size + 1, 1, none⟩ (.slice z1a z1n z1c)).setCell ⟨w.heap.size + 1, 2, none⟩ (.slice z2a z2n z2c)).setCell ⟨w.heap.size + 1, 3, none⟩ (.slice z3a z3n z3c)) = w9 at hF hC9 ⊢
   obtain ⟨e0, e1, e2, e3⟩ := Bk.c4 hF
   have hres := FsF.own_mono (FsF.own_chg HOW.out hC9 (fun x hx hh => by rw [List.mem_singleton] at hh; subst hh; exact HNS.out hx)) (show w.heap.size <= w.heap.size from Nat.le_refl _)
   refine bodyPost_ret (v := .tuple #[.agg #[.int .i64 z0, .slice z1a z1n z1c, .slice z2a z2n z2c, .slice z3a z3n z3c], .int .i64 9]) (by simp [results, Tryz.results110, go_sem, e0, e1, e2, e3]) rfl ?_
   exact ⟨_, S, by rw [HVV.out], by rw [HVV.out]; exact hres, HBq.out.trans (FoB.Chg.from hC9 HBq.out.size (Nat.le_succ _))⟩
  ·have q1 : decide (256 - (s.size : Int) < a) = false := decide_eq_false hm
   clear x0 x1 x2 x3
   by_cases h0 : s.size = 0
   ·have HVV := Lib.hid (show writeV f k a s = (f, 0) from by unfold writeV; rw [HOB.out, decide_eq_true ha]; exact (if_neg hm).trans (if_pos h0))
    have e1 := IsName.emp_true s h0
    have e2 : s.toList = [] := List.isEmpty_iff.1 e1
    clear ha hm h0
    go_enter Tryz.func110, Tryz.ntmps110
    go_wp2_with fail
    refine (HCA.out _ HB0.out).mono ?_
    rintro e w1 ⟨y, S, rfl, hown, hb⟩
    obtain ⟨z0, z1a, z1n, z1c, z2a, z2n, z2c, z3a, z3n, z3c, rfl⟩ := FsF.own_form hown
    have HBq := Lib.hid ((HB0.out.trans (hb.mono HB0.out.size)).alloc (Nat.le_trans HB0.out.size hb.size) (.cells #[.int .i64 z0, .slice z1a z1n z1c, .slice z2a z2n z2c, .slice z3a z3n z3c] 33))
    have HRq := Lib.hid ((HR0.out.all hb).alloc (.cells #[.int .i64 z0, .slice z1a z1n z1c, .slice z2a z2n z2c, .slice z3a z3n z3c] 33))
    have HNS := Lib.hid (show w.heap.size + 1 ∉ S from fun hh => by have h1 := (FsF.own_lies hown _ hh).1; have h2 := HS0.out; omega)
    have HOW := Lib.hid (FsF.own_below (FsF.own_mono hown HB0.out.size) ((Below.refl _ _).alloc (Nat.le_refl _) (.cells #[.int .i64 z0, .slice z1a z1n z1c, .slice z2a z2n z2c, .slice z3a z3n z3c] 33)))
    have HXq := Lib.hid (new w1 #[.int .i64 z0, .slice z1a z1n z1c, .slice z2a z2n z2c, .slice z3a z3n z3c] 33)
    clear hb hown
    go_upto_region 7 with (fail)
    generalize w1.alloc (.cells #[.int .i64 z0, .slice z1a z1n z1c, .slice z2a z2n z2c, .slice z3a z3n z3c] 33) = wa at *
    obtain ⟨x0, x1, x2, x3⟩ := Bk.c4 HXq.out
    obtain ⟨r0, r1, r2, r3⟩ := Bk.c4 HRq.out
    have f0 := HRq.out.free 0
    have f1 := HRq.out.free 1
    have f2 := HRq.out.free 2
    have f3 := HRq.out.free 3
    go_wp2
    have hF := FoB.box4_bk HRq.out (.int .i64 z0) (.slice z1a z1n z1c) (.slice z2a z2n z2c) (.slice z3a z3n z3c)
    have hC9 := FoB.box4_chg wa (w.heap.size + 1) (.int .i64 z0) (.slice z1a z1n z1c) (.slice z2a z2n z2c) (.slice z3a z3n z3c)
    unfold FoB.box4 at hF hC9
    generalize ((((wa.setCell ⟨w.heap.size + 1, 0, none⟩ (.int .i64 z0)).setCell ⟨w.heap.size + 1, 1, none⟩ (.slice z1a z1n z1c)).setCell ⟨w.heap.size + 1, 2, none⟩ (.slice z2a z2n z2c)).setCell ⟨w.heap.size + 1, 3, none⟩ (.slice z3a z3n z3c)) = w9 at hF hC9 ⊢
    obtain ⟨e0, e1, e2, e3⟩ := Bk.c4 hF
    have hres := FsF.own_mono (FsF.own_chg HOW.out hC9 (fun x hx hh => by rw [List.mem_singleton] at hh; subst hh; exact HNS.out hx)) (show w.heap.size <= w.heap.size from Nat.le_refl _)
    refine bodyPost_ret (v := .tuple #[.agg #[.int .i64 z0, .slice z1a z1n z1c, .slice z2a z2n z2c, .slice z3a z3n z3c], .int .i64 0]) (by simp [results, Tryz.results110, go_sem, e0, e1, e2, e3]) rfl ?_
    exact ⟨_, S, by rw [HVV.out], by rw [HVV.out]; exact hres, HBq.out.trans (FoB.Chg.from hC9 HBq.out.size (Nat.le_succ _))⟩
   ·skip
    have e1 := IsName.emp_false s h0
    have e2 : (!s.toList.isEmpty) = true := by rw [e1]; rfl
    obtain ⟨an, rfl⟩ : ∃ an : Nat, a = an := ⟨a.toNat, by omega⟩
    obtain ⟨l, hl⟩ : ∃ l, l = s.size := ⟨_, rfl⟩
    have hl0 : 0 < l := by omega
    have hal : an + l <= 256 := by omega
    obtain ⟨n, hn⟩ : ∃ n, n = ino f k := ⟨_, rfl⟩
    have HVV := Lib.hid (show writeV f k an s = if (wrR f n an l).2 = 0 then (withV f k { wrI n an l with blocks := wrB f n an l } (splice (content f.data n.blocks) an s.data.toList), 0) else (f, (wrR f n an l).2) from by
     unfold writeV
     rw [HOB.out, decide_eq_true ha, hn, hl]
     exact (if_neg hm).trans (if_neg h0))
    have HN := Lib.hid hn
    have HL := Lib.hid hl
    have hlS : s.size = l := hl.symm
    have HST := Lib.hid (show s.data.toList.length = l by rw [hl]; simp)
    clear ha hm h0 hn hl
    rw [hlS] at q1
    go_enter Tryz.func110, Tryz.ntmps110
    go_wp2_with fail
    have HLS := Lib.hid hlS
    generalize (w.alloc (.cells #[.int .i64 T, .slice qa Q qc, .slice ia M0 ic, .slice da D dc] 33)).alloc (.cells #[.int .i64 0, .slice none 0 0, .slice none 0 0, .slice none 0 0] 33) = w0 at *
    refine (HCA.out _ HB0.out).mono ?_
    rintro e w1 ⟨y, S, rfl, hown, hb⟩
    obtain ⟨qa', ql', qc', gi, ci, gd, cd, rfl, rfl⟩ := own_open hown HIL.out HDL.out
    have hsl : ∀ x ∈ S, w0.heap.size <= x /\ x < w1.heap.size := FsF.own_lies hown
    have HFO := Lib.hid (show FO (w1.alloc (.cells #[.int .i64 f.tick, .slice qa' f.quotas.length qc', .slice (some ⟨gi, 0, none⟩) 20 ci, .slice (some ⟨gd, 0, none⟩) 56 cd] 33)) w0.heap.size w1.heap.size f (.slice qa' f.quotas.length qc') gi ci gd cd S from ⟨new _ _ _, fun hh => by have := (hsl _ hh).2; omega, FsF.own_below hown ((Below.refl _ _).alloc (Nat.le_refl _) _), HIL.out, HDL.out⟩)
    have HR1 := Lib.hid ((HR0.out.all hb).alloc (.cells #[.int .i64 f.tick, .slice qa' f.quotas.length qc', .slice (some ⟨gi, 0, none⟩) 20 ci, .slice (some ⟨gd, 0, none⟩) 56 cd] 33))
    have HB1 := Lib.hid ((HB0.out.trans (hb.mono HB0.out.size)).alloc (Nat.le_trans HB0.out.size hb.size) (.cells #[.int .i64 f.tick, .slice qa' f.quotas.length qc', .slice (some ⟨gi, 0, none⟩) 20 ci, .slice (some ⟨gd, 0, none⟩) 56 cd] 33))
    have HS1 := Lib.hid hb.size
    have HX1 := Lib.hid ((HX0.out.all hb).alloc (.cells #[.int .i64 f.tick, .slice qa' f.quotas.length qc', .slice (some ⟨gi, 0, none⟩) 20 ci, .slice (some ⟨gd, 0, none⟩) 56 cd] 33))
    have HSL := Lib.hid hsl
    clear hb hown hsl
    go_upto_region 8 with (fail)
    have HBW := Lib.hid ((Below.refl w1.heap.size w1).alloc (Nat.le_refl _) (.cells #[.int .i64 f.tick, .slice qa' f.quotas.length qc', .slice (some ⟨gi, 0, none⟩) 20 ci, .slice (some ⟨gd, 0, none⟩) 56 cd] 33))
    have HBN := Lib.hid (show w1.heap.size < (w1.alloc (.cells #[.int .i64 f.tick, .slice qa' f.quotas.length qc', .slice (some ⟨gi, 0, none⟩) 20 ci, .slice (some ⟨gd, 0, none⟩) 56 cd] 33)).heap.size by simp)
    generalize w1.alloc (.cells #[.int .i64 f.tick, .slice qa' f.quotas.length qc', .slice (some ⟨gi, 0, none⟩) 20 ci, .slice (some ⟨gd, 0, none⟩) 56 cd] 33) = wa at *
    obtain ⟨rr0, rr1, rr2, hCl, hPt⟩ := HFO.out.icell hk20
    rw [<- HN.out] at HCX hCl hPt
    obtain ⟨p0, p1, p2⟩ := id hPt
    obtain ⟨a0, d0, rfl⟩ := NiF.form p0
    obtain ⟨a1, d1, rfl⟩ := AeF.form p1
    obtain ⟨a2, d2, rfl⟩ := AeF.form p2
    have HP := Lib.hid (IF.parts_holds hPt)
    obtain ⟨m0, m1, m2, m3, m4, m5, m6, m7, m8, m9⟩ := hCl
    obtain ⟨x0, x1, x2, x3⟩ := HFO.out.cells
    clear x0 x1 x3 p0 p1 p2 hPt
    have hi0 : (0 : Int) <= k := by omega
    have hi1 : (k : Int) < 20 := by omega
    go_wp2_with fail
    clear m0 m1 m2 m3 m4 m5 m6 m7 m8 m9 x2
    refine (ClS.inode_row _ _ n HCX.out HP.out).mono ?_
    rintro e w2 ⟨a', c', b1, e1, b2, e2, rfl, hrow, ho1, ho2, hnd, hb⟩
    have HF2 := Lib.hid (HFO.out.below hb)
    have HR2 := Lib.hid (HR1.out.all hb)
    have HX2 := Lib.hid (HX1.out.all hb)
    have HB2 := Lib.hid (HB1.out.trans (hb.mono HB1.out.size))
    have HS2 := Lib.hid hb.size
    have HRW := Lib.hid hrow
    have HA1 := Lib.hid ho1
    have HA2 := Lib.hid ho2
    have HFA := Lib.hid (show Far w w1.heap.size w2.heap.size gd S (fpR (.slice a' n.blocks.length c') ++ fpR (.slice b1 n.acl.length e1) ++ fpR (.slice b2 n.dflt.length e2)) from by
     have hw : w1.heap.size < wa.heap.size := HBN.out
     have hs := hb.size
     refine ⟨fun k hk => ⟨by have := (HSL.out k hk).1; have := HS0.out; omega, (HSL.out k hk).2⟩, by omega, fun k hk => ?_, HFO.out.gd_mem⟩
     rcases List.mem_append.1 hk with hk | hk
     ·rcases List.mem_append.1 hk with hk | hk
      ·have := row_lies hrow k hk; omega
      ·have := AeF.own_lies ho1 k hk; omega
     ·have := AeF.own_lies ho2 k hk; omega)
    have HY := Lib.hid (show Apart (fpR (.slice b1 n.acl.length e1)) (fpR (.slice b2 n.dflt.length e2)) from fun k hk hh => (nodup_parts hnd).2.2 k (List.mem_append.2 (.inr hk)) hh)
    clear hb hrow ho1 ho2 hnd
    go_upto_region 9 with (fail)
    have hbw : Below w2.heap.size w2 (w2.alloc (.cells #[.int .i64 n.kind, .int .i64 n.mode, .int .i64 n.uid, .int .i64 n.gid, .int .i64 n.links, .int .i64 n.size, .int .i64 n.tick, .slice a' n.blocks.length c', .slice b1 n.acl.length e1, .slice b2 n.dflt.length e2] 89)) := (Below.refl w2.heap.size w2).alloc (Nat.le_refl _) _
    have HF3 := Lib.hid (HF2.out.below hbw)
    have HK3 := Lib.hid (new w2 #[.int .i64 n.kind, .int .i64 n.mode, .int .i64 n.uid, .int .i64 n.gid, .int .i64 n.links, .int .i64 n.size, .int .i64 n.tick, .slice a' n.blocks.length c', .slice b1 n.acl.length e1, .slice b2 n.dflt.length e2] 89)
    have HW3 := Lib.hid (row_below HRW.out hbw)
    have HA13 := Lib.hid (AeF.own_below HA1.out hbw)
    have HA23 := Lib.hid (AeF.own_below HA2.out hbw)
    have HR3 := Lib.hid (HR2.out.all hbw)
    have HX3 := Lib.hid (HX2.out.all hbw)
    have HB3 := Lib.hid (HB2.out.trans (hbw.mono HB2.out.size))
    clear hbw
    generalize w2.alloc (.cells #[.int .i64 n.kind, .int .i64 n.mode, .int .i64 n.uid, .int .i64 n.gid, .int .i64 n.links, .int .i64 n.size, .int .i64 n.tick, .slice a' n.blocks.length c', .slice b1 n.acl.length e1, .slice b2 n.dflt.length e2] 89) = wb at *
    obtain ⟨SZ, hSZ⟩ : ∃ SZ : Int, SZ = max ((an + l : Nat) : Int) n.size := ⟨_, rfl⟩
    have hgs := HG.out.size
    rw [<- HN.out] at hgs
    have hsz0 : 0 <= SZ := by omega
    have hsz1 : SZ <= 256 := by omega
    have hmx : max n.size ((an : Int) + (l : Int)) = SZ := by rw [hSZ, Int.max_comm]; push_cast; rfl
    obtain ⟨m, hm⟩ : ∃ m : Nat, needV SZ = m := ⟨(needV SZ).toNat, (Int.toNat_of_nonneg (FsZw.need_nn SZ)).symm⟩
    obtain ⟨X, hXe⟩ : ∃ X, X = n.blocks.length := ⟨_, rfl⟩
    have hXm : X <= m := by
     have h1 := FsZw.need_mono (show n.size <= SZ by omega)
     have h2 := hgs.2.2.1
     omega
    have hm8 : m <= 8 := by have h2 := FsZw.need_mono hsz1; have h8 : needV 256 = 8 := rfl; omega
    have hBn : wa.heap.size <= w2.heap.size := HS2.out
    have hbB : w1.heap.size < wa.heap.size := HBN.out
    have hwB : w.heap.size <= wa.heap.size := HB1.out.size
    have HSb := Lib.hid (fun k hk => (HFA.out.1 k hk).2)
    have hc5 := chg_set wb ⟨w2.heap.size, 5, none⟩ (.int .i64 SZ)
    have one : ∀ T : List Nat, w2.heap.size ∉ T -> Apart T [w2.heap.size] := fun T hT k hk hh => by rw [List.mem_singleton] at hh; exact hT (hh ▸ hk)
    have HF4 := Lib.hid (HF3.out.chg hc5 (by simp; omega) (one _ fun hh => by have := HSb.out _ hh; omega))
    have HK4 := Lib.hid (show Bk _ w2.heap.size #[.int .i64 n.kind, .int .i64 n.mode, .int .i64 n.uid, .int .i64 n.gid, .int .i64 n.links, .int .i64 SZ, .int .i64 n.tick, .slice a' n.blocks.length c', .slice b1 n.acl.length e1, .slice b2 n.dflt.length e2] _ from Bk.put (l := [.int .i64 n.kind, .int .i64 n.mode, .int .i64 n.uid, .int .i64 n.gid, .int .i64 n.links, .int .i64 n.size, .int .i64 n.tick, .slice a' n.blocks.length c', .slice b1 n.acl.length e1, .slice b2 n.dflt.length e2]) HK3.out 5 (.int .i64 SZ))
    have HW4 := Lib.hid (row_chg HW3.out hc5 (one _ (CoL.row_nin HW3.out HK3.out (by decide))))
    have HA14 := Lib.hid (AeF.own_chg HA13.out hc5 (one _ (CoL.row_nin HA13.out.1 HK3.out (by decide))))
    have HA24 := Lib.hid (AeF.own_chg HA23.out hc5 (one _ (CoL.row_nin HA23.out.1 HK3.out (by decide))))
    have HR4 := Lib.hid (FoB.Bk.chg HR3.out hc5 (fun hh => by rw [List.mem_singleton] at hh; exact FsM.bk_ne HR3.out HK3.out (by decide) hh))
    have HX4 := Lib.hid (FoB.Bk.chg HX3.out hc5 (fun hh => by rw [List.mem_singleton] at hh; exact FsM.bk_ne HX3.out HK3.out (by decide) hh))
    have HB4 := Lib.hid (HB3.out.trans (FoB.Chg.from hc5 HB3.out.size (show w.heap.size <= w2.heap.size by omega)))
    have cw5 : wb.cell? ⟨w2.heap.size, 5, none⟩ = some (.int .i64 n.size) := HK3.out.cell 5
    have fw5 := HK3.out.free 5
    have HSZ := Lib.hid hSZ
    have HM := Lib.hid hm
    have HXE := Lib.hid hXe
    clear hSZ hm hgs hc5 one
    go_wp2_with fail
    refine (max_spec n.size ((an : Int) + (l : Int)) _).mono ?_
    rintro e w3 ⟨rfl, rfl⟩
    rw [hmx]
    clear hmx
    go_wp2
    generalize wb.setCell ⟨w2.heap.size, 5, none⟩ (.int .i64 SZ) = w5 at HF4 HK4 HW4 HA14 HA24 HR4 HX4 HB4 ⊢
    have HG0 := Lib.hid (show Grw w w0.heap.size w1.heap.size w2.heap.size wa.heap.size f { n with size := SZ } (.slice qa' f.quotas.length qc') gi ci gd cd S a' c' (.slice b1 n.acl.length e1) (.slice b2 n.dflt.length e2) X m f.data 0 a' c' w5 from ⟨HF4.out, by rw [Nat.add_zero, HXE.out]; exact HK4.out, fun hh => ⟨HXE.out, by rw [Nat.add_zero, CoW.grown_zero, HXE.out]; exact HW4.out⟩, fun hh => ⟨by omega, by show m <= n.blocks.length; rw [<- HXE.out]; omega, rfl, rfl, rfl, HW4.out⟩, HA14.out, HA24.out, HR4.out, HB4.out⟩)
    clear cw5 fw5 hXe
    go_loopw [] (fun wr => ∃ (jj : Nat) (a7 : Option Addr) (c9 : Nat), X + jj <= m /\ Grw w w0.heap.size w1.heap.size w2.heap.size wa.heap.size f { n with size := SZ } (.slice qa' f.quotas.length qc') gi ci gd cd S a' c' (.slice b1 n.acl.length e1) (.slice b2 n.dflt.length e2) X m f.data jj a7 c9 wr /\ Bk wr w.heap.size #[.int .i64 T, .slice qa Q qc, .slice ia M0 ic, .slice da D dc] 33) (fun wr => m - CoW.lenAt wr w2.heap.size)
    case atStart => exact ⟨0, a', c', hXm, HG0.out, HX4.out⟩
    case round =>
     obtain ⟨jj, a7, c9, hjj, hgr, hxx⟩ := hrel
     have cw7 : wr.cell? ⟨w2.heap.size, 7, none⟩ = some (.slice a7 (X + jj) c9) := hgr.2.1.cell 7
     have cw5 : wr.cell? ⟨w2.heap.size, 5, none⟩ = some (.int .i64 SZ) := hgr.2.1.cell 5
     have HME := Lib.hid (show CoW.lenAt wr w2.heap.size = X + jj from by unfold CoW.lenAt; rw [cw7])
     have HGR := Lib.hid (grw_below hgr ((Below.refl wr.heap.size wr).drew))
     have HXX := Lib.hid (show Bk wr.drew w.heap.size #[.int .i64 T, .slice qa Q qc, .slice ia M0 ic, .slice da D dc] 33 from hxx)
     have HND := Lib.hid (InEq.need_spec SZ wr.drew (by unfold Foot.Rg; omega))
     rw [HM.out] at HND
     have cd7 : wr.drew.cell? ⟨w2.heap.size, 7, none⟩ = some (.slice a7 (X + jj) c9) := cw7
     have cd5 : wr.drew.cell? ⟨w2.heap.size, 5, none⟩ = some (.int .i64 SZ) := cw5
     obtain ⟨J, hJ⟩ : ∃ J, J = X + jj := ⟨_, rfl⟩
     rw [<- hJ] at cw7 cd7 hjj HME
     have HJ := Lib.hid hJ
     have hj9 : J <= 8 := by omega
     clear hgr hxx hJ HG0
     by_cases hlt : J < m
     ·go_upto_region 10 with (fail)
      rename_i hKr
      go_cut [53] from 47 to 52 (fun s53 wc => s53 = .bool true /\ wc = wr.drew)
      case first =>
       go_region_held3 (fun w' => w'.cell? ⟨w2.heap.size, 7, none⟩ = some (.slice a7 J c9) /\ w'.cell? ⟨w2.heap.size, 5, none⟩ = some (.int .i64 SZ)) (first | with_reducible exact ⟨cw7, cw5⟩ | with_reducible exact ⟨cd7, cd5⟩ | go_keep)
        ((go_at_call 153; (with_reducible refine HND.out.mono ?_); rintro e w' ⟨rfl, rfl⟩))
       all_goals
        go_wp2
        go_meet
        exact ⟨by first | rfl | (simp; omega), rfl⟩
      case rest =>
       obtain ⟨rfl, rfl⟩ := hcut
       refine hKr _ _ ?_
       clear hKr
       generalize wr.drew = wd at *
       clear cw7 cw5
       have hdx : w2.heap.size < wd.heap.size := HGR.out.2.1.lt
       obtain ⟨hXL, hro⟩ := HGR.out.2.2.1 (by have := HJ.out; omega)
       have HX := Lib.hid HGR.out.2.1
       have fw7 := HX.out.free 7
       rw [<- HJ.out] at hro
       have HO := Lib.hid hro
       clear hro hXL
       obtain ⟨i0, hi, hz0', hz1', hz2'⟩ := info_parts Ni.intInfo
       have HF0 := Lib.hid hi
       have HF1 := Lib.hid hz0'
       have HF2' := Lib.hid hz1'
       have HF3' := Lib.hid hz2'
       clear hi hz0' hz1' hz2'
       go_wp2_with (first | (at_builtin; refine wpList_append_own _ rfl _ _ 49 rfl wa.heap.size 3 i0 (.int .i64 0) 1 8 Tryz.underlying49 HF0.out HF1.out HF2'.out HF3'.out rfl (by decide) _ _ _ rfl (HO.out.alloc _) ⟨wd.heap.size, 0, none⟩ 1 1 [.int .i64 (-1)] rfl rfl (InEq.cells1_new _ _ _) ?c2 ?c3 ?c4 ?c5 ?_))
       case c2 => first | rfl | simp [Value.oneCell']
       case c3 => unfold maxLen; omega
       case c4 => omega
       case c5 => first | omega | (simp; omega)
       intro v' w6 hown1 hg1 _
       obtain ⟨b6, c6, rfl⟩ := Dk.slice_of hown1
       have hrn := row_below HO.out ((Below.refl _ _).alloc (Nat.le_refl _) (.cells #[.int .i64 (-1)] 3))
       have hx1 := (HX.out.alloc (.cells #[.int .i64 (-1)] 3)).grown hg1 (fun e => CoL.row_nin hrn (HX.out.alloc (.cells #[.int .i64 (-1)] 3)) (by decide) (by unfold fpR; rw [<- e]; simp))
       have hx2 := (HXX.out.alloc (.cells #[.int .i64 (-1)] 3)).grown hg1 (fun e => CoL.row_nin hrn (HXX.out.alloc (.cells #[.int .i64 (-1)] 3)) (by decide) (by unfold fpR; rw [<- e]; simp))
       have zc7 : w6.cell? ⟨w2.heap.size, 7, none⟩ = some (.slice a7 J c9) := by rw [HJ.out]; exact hx1.cell 7
       have zf7 := hx1.free 7
       have HX6 := Lib.hid (hx2.far (p := ⟨w2.heap.size, 7, none⟩) (fun e => FsM.bk_ne hx2 hx1 (by decide) e) (.slice b6 (J + 1) c6))
       have hnx : Grw w w0.heap.size w1.heap.size w2.heap.size wa.heap.size f { n with size := SZ } (.slice qa' f.quotas.length qc') gi ci gd cd S a' c' (.slice b1 n.acl.length e1) (.slice b2 n.dflt.length e2) X m f.data (jj + 1) b6 c6 (w6.setCell ⟨w2.heap.size, 7, none⟩ (.slice b6 (J + 1) c6)) := by
        rw [HJ.out] at hown1 hg1 ⊢
        exact grw_app HGR.out (by have := HJ.out; omega) hwB hBn hbB HSb.out hown1 hg1
       have HNX := Lib.hid hnx
       have HLN := Lib.hid (show CoW.lenAt (w6.setCell ⟨w2.heap.size, 7, none⟩ (.slice b6 (J + 1) c6)) w2.heap.size = J + 1 from by
        unfold CoW.lenAt
        rw [show (w6.setCell ⟨w2.heap.size, 7, none⟩ (.slice b6 (J + 1) c6)).cell? ⟨w2.heap.size, 7, none⟩ = some (.slice b6 (X + (jj + 1)) c6) from hnx.2.1.cell 7]
        show X + (jj + 1) = J + 1
        have := HJ.out; omega)
       clear hnx hx1 hx2 hown1 hg1 hrn cd7 cd5 fw7
       go_wp2
       go_roundw
       case rel => exact ⟨jj + 1, b6, c6, by have := HJ.out; omega, HNX.out, HX6.out⟩
       case measure => rw [HME.out, HLN.out]; omega
     ·go_upto_region 10 with (fail)
      rename_i hKr
      go_cut [53] from 47 to 52 (fun s53 wc => s53 = .bool false /\ wc = wr.drew)
      case first =>
       go_region_held3 (fun w' => w'.cell? ⟨w2.heap.size, 7, none⟩ = some (.slice a7 J c9) /\ w'.cell? ⟨w2.heap.size, 5, none⟩ = some (.int .i64 SZ)) (first | with_reducible exact ⟨cw7, cw5⟩ | with_reducible exact ⟨cd7, cd5⟩ | go_keep)
        ((go_at_call 153; (with_reducible refine HND.out.mono ?_); rintro e w' ⟨rfl, rfl⟩))
       all_goals
        go_wp2
        go_meet
        exact ⟨by first | rfl | (simp; omega), rfl⟩
      case rest =>
       obtain ⟨rfl, rfl⟩ := hcut
       refine hKr _ _ ?_
       clear hKr
       generalize wr.drew = wd at *
       clear cw7 cw5
       have hje : X + jj = m := by have := HJ.out; omega
       have hfull := grw_full (n := { n with size := SZ }) (show Grw w w0.heap.size w1.heap.size w2.heap.size wa.heap.size f { n with size := SZ } (.slice qa' f.quotas.length qc') gi ci gd cd S a' c' (.slice b1 n.acl.length e1) (.slice b2 n.dflt.length e2) n.blocks.length m f.data jj a7 c9 wd from by have := HGR.out; rw [HXE.out] at this; exact this) (by show n.blocks.length + jj = m; rw [<- HXE.out]; exact hje)
       have hm0 : 0 < m := by
        have h1 := HM.out
        have h2 := HSZ.out
        unfold needV at h1
        split at h1 <;> omega
       obtain ⟨g, rfl⟩ : ∃ g, a7 = some ⟨g, 0, none⟩ := by
        rcases hfull.2 with ⟨hv, h0⟩ | ⟨g, cap, cur, hv, _⟩
        ·omega
        ·rw [Value.slice.injEq] at hv; exact ⟨g, hv.1⟩
       obtain ⟨l0, hl0e⟩ : ∃ l0, l0 = holes n.blocks m := ⟨_, rfl⟩
       rw [<- hl0e] at hfull
       obtain ⟨N, hNe⟩ : ∃ N : I, N = { n with size := SZ, blocks := l0 } := ⟨_, rfl⟩
       obtain ⟨q1, q2, q3, q4, q5, q6, q7, q8⟩ := HGR.out
       rw [hje] at q2
       obtain ⟨L1, hL1⟩ : ∃ L1, L1 = lastB an l := ⟨_, rfl⟩
       obtain ⟨o6, ho6⟩ : ∃ o, o = an / 32 := ⟨_, rfl⟩
       have hod : (an : Int) / 32 = (o6 : Int) := by rw [ho6]; omega
       have hNI : N = wrI n an l := by
        rw [hNe, hl0e]
        unfold wrI sized
        rw [<- HSZ.out, HM.out, Int.toNat_natCast]
       have hfl : o6 < L1 := by rw [hL1, ho6]; exact FsZw.first_lt hl0
       have hLe : L1 <= m := by
        have := FsZw.lastB_le n an l
        rw [<- hNI, <- hL1, hNe, hl0e] at this
        dsimp only at this
        rw [holes_len] at this
        exact this
       have hLL := FsZw.last_lo (a := an) hl0
       rw [<- hL1] at hLL
       have hgl := row_lies hfull g (by simp [fpR, Value.ownBlock])
       have hS0' := HS0.out
       have hS1' := HS1.out
       have hWS : WS w w0.heap.size w1.heap.size w2.heap.size wa.heap.size wd.heap.size g m l0 (.slice b1 n.acl.length e1) (.slice b2 n.dflt.length e2) := by
        refine ⟨fun x hx => ?_, ⟨by omega, by omega, by omega, by omega, by omega⟩, ⟨by omega, ?_, by omega, by omega⟩, ⟨?_, ?_⟩, by rw [hl0e, holes_len]⟩
        ·unfold Rr at hx
         simp only [List.mem_append, List.mem_cons, List.mem_nil_iff, or_false] at hx
         rcases hx with ((rfl | rfl | rfl | rfl | rfl) | hx) | hx
         ·exact HXX.out.lt
         ·exact q7.lt
         ·exact q1.box.lt
         ·exact q2.lt
         ·exact hgl.2
         ·exact (row_lies q5.1 x hx).2
         ·exact (row_lies q6.1 x hx).2
        ·intro e
         exact CoL.row_nin hfull q2 (by decide) (by rw [<- e]; simp [fpR, Value.ownBlock])
        ·exact fun hh => FsM.rows_apart q5.1 hfull (by decide) g hh (by simp [fpR, Value.ownBlock])
        ·exact fun hh => FsM.rows_apart q6.1 hfull (by decide) g hh (by simp [fpR, Value.ownBlock])
       have hWI : WI w w0.heap.size w1.heap.size w2.heap.size wa.heap.size wd.heap.size f N (.slice qa' f.quotas.length qc') gi ci gd cd g m c9 (.slice b1 n.acl.length e1) (.slice b2 n.dflt.length e2) #[.int .i64 T, .slice qa Q qc, .slice ia M0 ic, .slice da D dc] l0 o6 f.inodes (segD an s.data.toList o6 [] f.data) [] wd := by
        refine ⟨S, q1, by rw [hNe]; exact q2, by rw [mid_zero]; exact hfull, by rw [hNe]; exact q5, by rw [hNe]; exact q6, HXX.out, q7, fun x hx hh => ?_, Nat.le_refl _, q8⟩
        have hx2 := HFA.out.1 x hx
        unfold Rr at hh
        simp only [List.mem_append, List.mem_cons, List.mem_nil_iff, or_false] at hh
        rcases hh with ((rfl | rfl | rfl | rfl | rfl) | hh) | hh
        ·omega
        ·omega
        ·omega
        ·omega
        ·omega
        ·have := (row_lies q5.1 x hh).1; omega
        ·have := (row_lies q6.1 x hh).1; omega
       have hgu := HG.out.uid
       rw [<- HN.out] at hgu
       obtain ⟨uk, huk⟩ : ∃ uk : Nat, n.uid = uk := ⟨n.uid.toNat, by omega⟩
       have huk3 : uk <= 3 := by omega
       obtain ⟨win, hwin⟩ : ∃ win, win = (l0.take L1).drop o6 := ⟨_, rfl⟩
       have hl0l : l0.length = m := by rw [hl0e, holes_len]
       have hwl : win.length = L1 - o6 := by rw [hwin, List.length_drop, List.length_take]; omega
       have hwat : ∀ j, j < L1 - o6 -> win.getD j 0 = l0.getD (o6 + j) 0 := fun j hj => by
        rw [getD_at (by omega), getD_at (by omega)]
        simp [hwin]
       obtain ⟨qv, hqv⟩ : ∃ q, q = (f.quotas.getD uk (0, 0)).2 := ⟨_, rfl⟩
       have HRR := Lib.hid (show wrR f n an l = renew (14 * uk) qv isHole (hasB (allB f.inodes)) win from by
        unfold wrR
        rw [<- hL1, <- hNI, huk, Int.toNat_natCast, show quo f uk = qv from hqv.symm, <- ho6, hwin, hNe])
       have HWS := Lib.hid hWS
       have HWI := Lib.hid hWI
       have HWA := Lib.hid hwat
       have HWL := Lib.hid hwl
       have HWN := Lib.hid hwin
       have HL0 := Lib.hid hl0l
       have HL0E := Lib.hid hl0e
       have HNE := Lib.hid hNe
       have HNI := Lib.hid hNI
       have HUK := Lib.hid huk
       have HQV := Lib.hid hqv
       have HL1 := Lib.hid hL1
       have HO6 := Lib.hid ho6
       have HJE := Lib.hid hje
       clear hWS hWI hwat hwl hwin hl0l hl0e hNe hNI huk hqv hL1 ho6 hje hfull q1 q2 q3 q4 q5 q6 q7 q8 cd7 cd5 HGR hgl hgu
       go_wp2
       obtain ⟨H0, hH0⟩ : ∃ H0, H0 = wd.heap.size := ⟨_, rfl⟩
       rw [<- hH0] at HWS HWI
       clear hH0
       have HVI := Lib.hid (vi_zero f k uk N qv win l0 o6)
       go_loopw [12] (fun kv wr => ∃ (j : Nat) (pre : List Int) (s' : Int -> Bool) (ins : List I), j <= L1 - o6 /\ kv = .int .i64 ((o6 + j : Nat) : Int) /\ VI f k uk N qv win l0 o6 j pre s' ins /\ WI w w0.heap.size w1.heap.size w2.heap.size wa.heap.size H0 f N (.slice qa' f.quotas.length qc') gi ci gd cd g m c9 (.slice b1 n.acl.length e1) (.slice b2 n.dflt.length e2) #[.int .i64 T, .slice qa Q qc, .slice ia M0 ic, .slice da D dc] l0 o6 ins (segD an s.data.toList o6 pre f.data) pre wr) (fun kv _ => L1 - (intOf kv).toNat)
       case atStart => exact ⟨0, [], _, f.inodes, Nat.zero_le _, by rw [Nat.add_zero], HVI.out, HWI.out⟩
       case round =>
        obtain ⟨j, pre, s', ins, hj, rfl, hvi, hwi⟩ := hrel
        clear HVI HWI
        have HVI := Lib.hid hvi
        have HWI := Lib.hid hwi
        have hpl : pre.length = j := vi_len hvi (by rw [HWL.out]; exact hj)
        have HPL := Lib.hid hpl
        obtain ⟨K, hK⟩ : ∃ K, K = o6 + j := ⟨_, rfl⟩
        rw [<- hK]
        have HK := Lib.hid hK
        clear hvi hwi hpl
        by_cases hlt : j < L1 - o6
        ·have hKL : K < L1 := by omega
         have hK9 : K <= 8 := by omega
         have hKm : K < m := by omega
         have hal2 : K * 32 < an + l := by omega
         clear hK
         obtain ⟨S9, q1, q2, q3, q4, q5, q6, q7, q8, q9, q10⟩ := HWI.out
         obtain ⟨bi, hbi⟩ : ∃ b, b = l0.getD K 0 := ⟨_, rfl⟩
         have hkl0 : K < l0.length := by rw [HL0.out]; exact hKm
         have hpk : o6 + pre.length = K := by rw [HPL.out]; exact HK.out.symm
         have cgK : wr.cell? ⟨g, K, none⟩ = some (.int .i64 bi) := by
          rw [q3.cellAt K (by simpa using hKm), NiF.cells, List.getElem?_map, <- hpk, mid_at (by rw [hpk]; exact hkl0), hpk, hbi]; rfl
         have fgK := q3.frozenAt K
         have cn7 : wr.cell? ⟨w2.heap.size, 7, none⟩ = some (.slice (some ⟨g, 0, none⟩) m c9) := q2.cell 7
         have hmc : m <= c9 := CoW.row_wide q3
         obtain ⟨C, hC⟩ : ∃ C, (bi == (-1 : Int)) = C := ⟨_, rfl⟩
         have HBI := Lib.hid hbi
         have HKL0 := Lib.hid hkl0
         have HPK := Lib.hid hpk
         have HCC2 := Lib.hid hC
         have hJw : j < win.length := by rw [HWL.out]; exact hlt
         have HWJ := Lib.hid (show win.getD j 0 = l0.getD (o6 + j) 0 from HWA.out j hlt)
         have huf : (ino f k).uid = uk := by rw [<- HN.out]; exact HUK.out
         have HUF := Lib.hid huf
         have hlh : l0 = holes (ino f k).blocks m := by rw [<- HN.out]; exact HL0E.out
         have HLH := Lib.hid hlh
         have HLM := Lib.hid (show (ino f k).blocks.length <= m from by rw [<- HN.out, <- HXE.out]; exact hXm)
         have HNU := Lib.hid (show N.uid = uk from by rw [HNE.out]; exact HUK.out)
         obtain ⟨hhalf, hpick, hfil⟩ := vi_half HG.out huf hlh HLM.out (show o6 <= l0.length by rw [HL0.out]; omega) HWN.out HNU.out (by omega) HVI.out (segD an s.data.toList o6 pre f.data) (seg_len _ _ HG.out)
         have hrng := vi_rng HG.out huf huk3 hlh HLM.out hfil
         have HSZS := Lib.hid (seg_sz (s := s.data.toList) HG.out hrng (show an / 32 <= o6 from Nat.le_of_eq HO6.out.symm) (fun t ht => by rw [HST.out]; rw [HPL.out] at ht; omega))
         have hcost := vi_cost HG.out (show l0.length <= 8 by rw [HL0.out]; exact hm8) ⟨by rw [HNE.out, <- HN.out], by rw [HNE.out, <- HN.out]⟩ hfil HVI.out (segD an s.data.toList o6 pre f.data) (seg_len _ _ HG.out) HSZS.out
         have HHF := Lib.hid hhalf
         have HPI := Lib.hid hpick
         have HRN := Lib.hid hrng
         have HCO := Lib.hid hcost
         clear hbi hkl0 hpk huf hlh hhalf hpick hfil hrng hcost q1 q2 q3 q4 q5 q6 q7 q8 q9 q10
         have hd67 : decide ((K : Int) * 32 < (an : Int) + (l : Int)) = true := decide_eq_true (by omega)
         go_upto_if 75 with (fail)
         rename_i hKr
         clear hd67
         go_cut [13, 14] from 76 to 98 (fun s13 s14 wc => Stp f k uk N qv win l0 o6 j pre (fun ins pre' W => WI w w0.heap.size w1.heap.size w2.heap.size wa.heap.size H0 f N (.slice qa' f.quotas.length qc') gi ci gd cd g m c9 (.slice b1 n.acl.length e1) (.slice b2 n.dflt.length e2) #[.int .i64 T, .slice qa Q qc, .slice ia M0 ic, .slice da D dc] l0 o6 ins (segD an s.data.toList o6 pre f.data) pre' W) wc)
         case first =>
          obtain ⟨S9, q1, q2, q3, q4, q5, q6, q7, q8, q9, q10⟩ := HWI.out
          cases C
          ·have hb1 : bi ≠ -1 := by have := HCC2.out; simpa using this
           have hu1 := old_used (l0 := l0) HG.out HLH.out HLM.out HKL0.out (by rw [<- HBI.out]; exact hb1)
           rw [<- HBI.out] at hu1
           have hr1 := (FsV.own_facts HG.out.ok).2 bi hu1
           obtain ⟨xn, hxn⟩ : ∃ xn : Nat, bi = xn := ⟨bi.toNat, by omega⟩
           have HST2 := Lib.hid (show Stp f k uk N qv win l0 o6 j pre (fun ins pre' W => WI w w0.heap.size w1.heap.size w2.heap.size wa.heap.size H0 f N (.slice qa' f.quotas.length qc') gi ci gd cd g m c9 (.slice b1 n.acl.length e1) (.slice b2 n.dflt.length e2) #[.int .i64 T, .slice qa Q qc, .slice ia M0 ic, .slice da D dc] l0 o6 ins (segD an s.data.toList o6 pre f.data) pre' W) wr from by
            have h1 := vi_skip HVI.out hJw HWJ.out (by rw [<- HK.out]; exact HKL0.out) (by rw [<- HK.out, <- HBI.out]; exact hb1) (by rw [<- HK.out, <- HBI.out]; exact hu1)
            have h2 := wi_skip HWI.out (by rw [HPK.out]; exact HKL0.out)
            rw [HPK.out, <- HBI.out, hxn] at h1 h2
            exact ⟨xn, s', ins, by omega, h1, h2⟩)
           clear hb1 hu1 hr1 hxn q1 q2 q3 q4 q5 q6 q7 q8 q9 q10
           go_wp2
           go_meet
           exact HST2.out
          ·have hb1 : l0.getD (o6 + j) 0 = -1 := by have := HCC2.out; rw [<- HK.out, <- HBI.out]; simpa using this
           have HB1' := Lib.hid hb1
           have HNB := Lib.hid (FsH.nblk_any wr _ { f with inodes := ins, data := segD an s.data.toList o6 pre f.data } uk huk3 (Nat.le_trans HCO.out (by decide)) HHF.out q1.holds)
           obtain ⟨⟨x, cc⟩, hp⟩ : ∃ p, pk (14 * uk) qv s' = p := ⟨_, rfl⟩
           rw [show (({ f with inodes := ins, data := segD an s.data.toList o6 pre f.data } : F).quotas.getD uk (0, 0)).2 = qv from HQV.out.symm, HPI.out, hp] at HNB
           have HP := Lib.hid hp
           unfold FsC.pairV at HNB
           obtain ⟨x0, x1, x2, x3⟩ := q1.cells
           have cn2 : wr.cell? ⟨w2.heap.size, 2, none⟩ = some (.int .i64 uk) := by have := q2.cell 2; dsimp at this; rw [HNU.out] at this; exact this
           clear hb1 hp q1 q2 q3 q4 q5 q6 q7 q8 q9 q10
           dsimp only at HNB x0
           go_wp2_with fail
           refine HNB.out.mono ?_
           rintro e w6 ⟨rfl, hb⟩
           have HW6 := Lib.hid (wi_below HWI.out hb)
           clear hb cgK fgK cn7 x0 x1 x2 x3 cn2
           obtain ⟨S9, q1, q2, q3, q4, q5, q6, q7, q8, q9, q10⟩ := HW6.out
           have cgK : ∃ u, w6.cell? ⟨g, K, none⟩ = some u := by
            rw [q3.cellAt K (by simpa using hKm)]
            exact ⟨_, List.getElem?_eq_getElem (by have := q3.1; simp at this ⊢; omega)⟩
           obtain ⟨u9, cgK⟩ := cgK
           have fgK := q3.frozenAt K
           have cn7 : w6.cell? ⟨w2.heap.size, 7, none⟩ = some (.slice (some ⟨g, 0, none⟩) m c9) := q2.cell 7
           by_cases h0 : cc = 0
           rotate_left
           ·have HVE := Lib.hid (show writeV f k an s = (f, cc) from by
             have h1 := vi_fail HVI.out hJw HWJ.out HB1'.out HP.out h0
             rw [HVV.out, HRR.out, h1]
             exact if_neg h0)
            have z1 : (cc != 0) = true := by simpa using h0
            have z2 : (cc == 0) = false := by simpa using h0
            have HB6 := Lib.hid q10
            have HR6 := Lib.hid q7
            have HS6 := Lib.hid (show w.heap.size + 1 + 1 <= w6.heap.size from by have := q7.lt; omega)
            obtain ⟨x0, x1, x2, x3⟩ := Bk.c4 q6
            clear h0 q1 q2 q3 q4 q5 q6 q7 q8 q9 q10 cgK fgK cn7
            go_wp2_with fail
            refine (HCA.out _ HB6.out).mono ?_
            rintro e wk ⟨y, S, rfl, hown, hb⟩
            obtain ⟨z0, z1a, z1n, z1c, z2a, z2n, z2c, z3a, z3n, z3c, rfl⟩ := FsF.own_form hown
            have HBq := Lib.hid (HB6.out.trans (hb.mono HB6.out.size))
            have HRq := Lib.hid (HR6.out.all hb)
            have HNS := Lib.hid (show w.heap.size + 1 ∉ S from fun hh => by have h1 := (FsF.own_lies hown _ hh).1; have h2 := HS6.out; omega)
            have HOW := Lib.hid (FsF.own_mono hown HB6.out.size)
            clear hb hown
            obtain ⟨r0, r1, r2, r3⟩ := Bk.c4 HRq.out
            have f0 := HRq.out.free 0
            have f1 := HRq.out.free 1
            have f2 := HRq.out.free 2
            have f3 := HRq.out.free 3
            go_wp2
            have hF := FoB.box4_bk HRq.out (.int .i64 z0) (.slice z1a z1n z1c) (.slice z2a z2n z2c) (.slice z3a z3n z3c)
            have hC9 := FoB.box4_chg wk (w.heap.size + 1) (.int .i64 z0) (.slice z1a z1n z1c) (.slice z2a z2n z2c) (.slice z3a z3n z3c)
            unfold FoB.box4 at hF hC9
            generalize ((((wk.setCell ⟨w.heap.size + 1, 0, none⟩ (.int .i64 z0)).setCell ⟨w.heap.size + 1, 1, none⟩ (.slice z1a z1n z1c)).setCell ⟨w.heap.size + 1, 2, none⟩ (.slice z2a z2n z2c)).setCell ⟨w.heap.size + 1, 3, none⟩ (.slice z3a z3n z3c)) = w9 at hF hC9 ⊢
            obtain ⟨e0, e1, e2, e3⟩ := Bk.c4 hF
            have hres := FsF.own_mono (FsF.own_chg HOW.out hC9 (fun x hx hh => by rw [List.mem_singleton] at hh; subst hh; exact HNS.out hx)) (show w.heap.size <= w.heap.size from Nat.le_refl _)
            refine bodyPost_ret (v := .tuple #[.agg #[.int .i64 z0, .slice z1a z1n z1c, .slice z2a z2n z2c, .slice z3a z3n z3c], .int .i64 cc]) (by simp [results, Tryz.results110, go_sem, e0, e1, e2, e3]) rfl ?_
            exact ⟨_, S, by rw [HVE.out], by rw [HVE.out]; exact hres, HBq.out.trans (FoB.Chg.from hC9 HBq.out.size (Nat.le_succ _))⟩
           ·subst h0
            obtain ⟨k', hk', hxk, _⟩ := FsZ.pick_ok (p := fun k => s' (k : Int)) (a := 14 * uk) (m := 14) (q := qv) (by have := HP.out; unfold pk at this; rw [this])
            rw [show pick (fun k => s' (k : Int)) (14 * uk) 14 qv = (x, 0) from HP.out] at hxk
            dsimp only at hxk
            obtain ⟨xn, hxe, hx56⟩ : ∃ xn : Nat, x = xn /\ xn < 56 := ⟨14 * uk + k', hxk, by omega⟩
            rw [hxe] at HP
            subst hxe
            have HV2 := Lib.hid (vi_new HVI.out hJw HWJ.out HB1'.out HP.out)
            have HW7 := Lib.hid (wi_set (x := (xn : Int)) HWS.out HW6.out (by rw [HPK.out]; exact HKL0.out))
            rw [HPK.out] at HW7
            clear hxk q1 q2 q3 q4 q5 q6 q7 q8 q9 q10
            go_upto_region 20 with (fail)
            generalize w6.setCell ⟨g, K, none⟩ (.int .i64 (xn : Int)) = wq at HW7 ⊢
            clear cgK fgK cn7
            obtain ⟨S9, q1, q2, q3, q4, q5, q6, q7, q8, q9, q10⟩ := HW7.out
            have hml : (mid l0 o6 (pre ++ [(xn : Int)])).length = m := by have := q3.1; simpa [NiF.cells] using this
            obtain ⟨N9, hN9⟩ : ∃ N9 : I, N9 = { N with blocks := mid l0 o6 (pre ++ [(xn : Int)]) } := ⟨_, rfl⟩
            have HML := Lib.hid hml
            have HN9 := Lib.hid hN9
            have HCQ := Lib.hid (show Calls Tryz.prog 109 #[.agg #[.int .i64 N.kind, .int .i64 N.mode, .int .i64 N.uid, .int .i64 N.gid, .int .i64 N.links, .int .i64 N.size, .int .i64 N.tick, .slice (some ⟨g, 0, none⟩) m c9, .slice b1 n.acl.length e1, .slice b2 n.dflt.length e2]] wq.drew _ from by
             have hin : In.Holds wq (.agg #[.int .i64 N.kind, .int .i64 N.mode, .int .i64 N.uid, .int .i64 N.gid, .int .i64 N.links, .int .i64 N.size, .int .i64 N.tick, .slice (some ⟨g, 0, none⟩) m c9, .slice b1 n.acl.length e1, .slice b2 n.dflt.length e2]) N9 := by
              rw [hN9]
              refine ⟨_, _, _, rfl, ?_, AeF.own_holds q4, AeF.own_holds q5⟩
              have := NiF.own_holds (NiF.own_of (l := mid l0 o6 (pre ++ [(xn : Int)])) (v := .slice (some ⟨g, 0, none⟩) m c9) (by rw [hml]; exact q3))
              exact this
             exact ClS.inode_row wq.drew _ N9 (by
              rw [hN9]
              have h1 := AclV.ok_len (InoV.ok_acls HG.out.inode).1
              have h2 := AclV.ok_len (InoV.ok_acls HG.out.inode).2
              rw [<- HN.out] at h1 h2
              show (mid l0 o6 (pre ++ [(xn : Int)])).length + N.acl.length + N.dflt.length <= 1073741824
              rw [hml, HNE.out]
              show m + n.acl.length + n.dflt.length <= 1073741824
              omega) (In.holds_below hin (Below.refl wq.heap.size wq).drew))
            have hgiS := q1.gi_mem
            have ya0 : wq.cell? ⟨w1.heap.size, 2, none⟩ = some (.slice (some ⟨gi, 0, none⟩) 20 ci) := q1.cells.2.2.1
            have ya1 : wq.cell? ⟨w2.heap.size, 0, none⟩ = some (.int .i64 N.kind) := q2.cell 0
            have ya2 : wq.cell? ⟨w2.heap.size, 1, none⟩ = some (.int .i64 N.mode) := q2.cell 1
            have ya3 : wq.cell? ⟨w2.heap.size, 2, none⟩ = some (.int .i64 N.uid) := q2.cell 2
            have ya4 : wq.cell? ⟨w2.heap.size, 3, none⟩ = some (.int .i64 N.gid) := q2.cell 3
            have ya5 : wq.cell? ⟨w2.heap.size, 4, none⟩ = some (.int .i64 N.links) := q2.cell 4
            have ya6 : wq.cell? ⟨w2.heap.size, 5, none⟩ = some (.int .i64 N.size) := q2.cell 5
            have ya7 : wq.cell? ⟨w2.heap.size, 6, none⟩ = some (.int .i64 N.tick) := q2.cell 6
            have ya8 : wq.cell? ⟨w2.heap.size, 7, none⟩ = some (.slice (some ⟨g, 0, none⟩) m c9) := q2.cell 7
            have ya9 : wq.cell? ⟨w2.heap.size, 8, none⟩ = some (.slice b1 n.acl.length e1) := q2.cell 8
            have ya10 : wq.cell? ⟨w2.heap.size, 9, none⟩ = some (.slice b2 n.dflt.length e2) := q2.cell 9
            have yb0 : wq.drew.cell? ⟨w1.heap.size, 2, none⟩ = some (.slice (some ⟨gi, 0, none⟩) 20 ci) := ya0
            have yb1 : wq.drew.cell? ⟨w2.heap.size, 0, none⟩ = some (.int .i64 N.kind) := ya1
            have yb2 : wq.drew.cell? ⟨w2.heap.size, 1, none⟩ = some (.int .i64 N.mode) := ya2
            have yb3 : wq.drew.cell? ⟨w2.heap.size, 2, none⟩ = some (.int .i64 N.uid) := ya3
            have yb4 : wq.drew.cell? ⟨w2.heap.size, 3, none⟩ = some (.int .i64 N.gid) := ya4
            have yb5 : wq.drew.cell? ⟨w2.heap.size, 4, none⟩ = some (.int .i64 N.links) := ya5
            have yb6 : wq.drew.cell? ⟨w2.heap.size, 5, none⟩ = some (.int .i64 N.size) := ya6
            have yb7 : wq.drew.cell? ⟨w2.heap.size, 6, none⟩ = some (.int .i64 N.tick) := ya7
            have yb8 : wq.drew.cell? ⟨w2.heap.size, 7, none⟩ = some (.slice (some ⟨g, 0, none⟩) m c9) := ya8
            have yb9 : wq.drew.cell? ⟨w2.heap.size, 8, none⟩ = some (.slice b1 n.acl.length e1) := ya9
            have yb10 : wq.drew.cell? ⟨w2.heap.size, 9, none⟩ = some (.slice b2 n.dflt.length e2) := ya10
            have hi0 : (0 : Int) <= k := by omega
            have hi1 : (k : Int) < 20 := by omega
            clear q1 q2 q3 q4 q5 q6 q7 q8 q9 q10 hml hN9
            go_region_held3 (fun w' => w'.cell? ⟨w1.heap.size, 2, none⟩ = some (.slice (some ⟨gi, 0, none⟩) 20 ci) /\ w'.cell? ⟨w2.heap.size, 0, none⟩ = some (.int .i64 N.kind) /\ w'.cell? ⟨w2.heap.size, 1, none⟩ = some (.int .i64 N.mode) /\ w'.cell? ⟨w2.heap.size, 2, none⟩ = some (.int .i64 N.uid) /\ w'.cell? ⟨w2.heap.size, 3, none⟩ = some (.int .i64 N.gid) /\ w'.cell? ⟨w2.heap.size, 4, none⟩ = some (.int .i64 N.links) /\ w'.cell? ⟨w2.heap.size, 5, none⟩ = some (.int .i64 N.size) /\ w'.cell? ⟨w2.heap.size, 6, none⟩ = some (.int .i64 N.tick) /\ w'.cell? ⟨w2.heap.size, 7, none⟩ = some (.slice (some ⟨g, 0, none⟩) m c9) /\ w'.cell? ⟨w2.heap.size, 8, none⟩ = some (.slice b1 n.acl.length e1) /\ w'.cell? ⟨w2.heap.size, 9, none⟩ = some (.slice b2 n.dflt.length e2)) (first | with_reducible exact ⟨ya0, ya1, ya2, ya3, ya4, ya5, ya6, ya7, ya8, ya9, ya10⟩ | with_reducible exact ⟨yb0, yb1, yb2, yb3, yb4, yb5, yb6, yb7, yb8, yb9, yb10⟩ | with_reducible exact ⟨yv0, yv1, yv2, yv3, yv4, yv5, yv6, yv7, yv8, yv9, yv10⟩ | with_reducible exact ⟨hp0 _ _ _ _ _ _ _ _ _ _, hp1 _ _ _ _ _ _ _ _ _ _, hp2 _ _ _ _ _ _ _ _ _ _, hp3 _ _ _ _ _ _ _ _ _ _, hp4 _ _ _ _ _ _ _ _ _ _, hp5 _ _ _ _ _ _ _ _ _ _, hp6 _ _ _ _ _ _ _ _ _ _, hp7 _ _ _ _ _ _ _ _ _ _, hp8 _ _ _ _ _ _ _ _ _ _, hp9 _ _ _ _ _ _ _ _ _ _, hp10 _ _ _ _ _ _ _ _ _ _⟩ | go_keep)
             ((go_at_call 109; (with_reducible refine HCQ.out.mono ?_); rintro e w7 ⟨ca, cc2, db, de, eb, ee, rfl, hrow, ho1, ho2, hnd, hb⟩; have hs7 := hb.size; have HWB := Lib.hid (wi_below HW7.out ((Below.refl wq.heap.size wq).drew.trans hb)); have HIO := Lib.hid (show In.Own w7 wq.heap.size (.agg #[.int .i64 N9.kind, .int .i64 N9.mode, .int .i64 N9.uid, .int .i64 N9.gid, .int .i64 N9.links, .int .i64 N9.size, .int .i64 N9.tick, .slice ca N9.blocks.length cc2, .slice db N9.acl.length de, .slice eb N9.dflt.length ee]) N9 (fpR (.slice ca N9.blocks.length cc2) ++ fpR (.slice db N9.acl.length de) ++ fpR (.slice eb N9.dflt.length ee)) from ⟨_, _, _, _, _, _, rfl, rfl, hnd, NiF.own_of hrow, ho1, ho2⟩); have HBL := Lib.hid ((Below.refl wq.heap.size wq).drew.trans hb); obtain ⟨M9, hM9⟩ : ∃ M, M = N9.blocks.length := ⟨_, rfl⟩; obtain ⟨A9, hA9⟩ : ∃ M, M = N9.acl.length := ⟨_, rfl⟩; obtain ⟨D9, hD9⟩ : ∃ M, M = N9.dflt.length := ⟨_, rfl⟩; rw [<- hM9, <- hA9, <- hD9] at HIO ⊢; have hN9k := HN9.out; rw [hN9k] at HIO ⊢; dsimp only at HIO ⊢; obtain ⟨S7, t1, t2, t3, t4, t5, t6, t7, t8, t9, t10⟩ := HWB.out; have yv0 := t1.cells.2.2.1; have yv1 := t2.cell 0; have yv2 := t2.cell 1; have yv3 := t2.cell 2; have yv4 := t2.cell 3; have yv5 := t2.cell 4; have yv6 := t2.cell 5; have yv7 := t2.cell 6; have yv8 := t2.cell 7; have yv9 := t2.cell 8; have yv10 := t2.cell 9; dsimp at yv1 yv2 yv3 yv4 yv5 yv6 yv7 yv8 yv9 yv10; obtain ⟨rr0, rr1, rr2, hCl, hPt⟩ := t1.icell hk20; obtain ⟨m0, m1, m2, m3, m4, m5, m6, m7, m8, m9⟩ := hCl; clear hPt; have g0 : w7.frozen? ⟨gi, k * 10, none⟩ = false := t1.ifree _; have g1 : w7.frozen? ⟨gi, k * 10 + 1, none⟩ = false := t1.ifree _; have g2 : w7.frozen? ⟨gi, k * 10 + 2, none⟩ = false := t1.ifree _; have g3 : w7.frozen? ⟨gi, k * 10 + 3, none⟩ = false := t1.ifree _; have g4 : w7.frozen? ⟨gi, k * 10 + 4, none⟩ = false := t1.ifree _; have g5 : w7.frozen? ⟨gi, k * 10 + 5, none⟩ = false := t1.ifree _; have g6 : w7.frozen? ⟨gi, k * 10 + 6, none⟩ = false := t1.ifree _; have g7 : w7.frozen? ⟨gi, k * 10 + 7, none⟩ = false := t1.ifree _; have g8 : w7.frozen? ⟨gi, k * 10 + 8, none⟩ = false := t1.ifree _; have g9 : w7.frozen? ⟨gi, k * 10 + 9, none⟩ = false := t1.ifree _; have hgl7 : gi < w7.heap.size := t1.gi_lt.2; have hp0 := fun u0 u1 u2 u3 u4 u5 u6 u7 u8 u9 : Value => ((FoB.row10_chg w7 gi k u0 u1 u2 u3 u4 u5 u6 u7 u8 u9).cell (p := ⟨w1.heap.size, 2, none⟩) (t1.box.lt) (by simp; exact fun e => t1.out (e ▸ t1.gi_mem))).trans yv0; have hp1 := fun u0 u1 u2 u3 u4 u5 u6 u7 u8 u9 : Value => ((FoB.row10_chg w7 gi k u0 u1 u2 u3 u4 u5 u6 u7 u8 u9).cell (p := ⟨w2.heap.size, 0, none⟩) (t2.lt) (by simp; exact fun e => t8 _ t1.gi_mem (in_rr (by simp [e])))).trans yv1; have hp2 := fun u0 u1 u2 u3 u4 u5 u6 u7 u8 u9 : Value => ((FoB.row10_chg w7 gi k u0 u1 u2 u3 u4 u5 u6 u7 u8 u9).cell (p := ⟨w2.heap.size, 1, none⟩) (t2.lt) (by simp; exact fun e => t8 _ t1.gi_mem (in_rr (by simp [e])))).trans yv2; have hp3 := fun u0 u1 u2 u3 u4 u5 u6 u7 u8 u9 : Value => ((FoB.row10_chg w7 gi k u0 u1 u2 u3 u4 u5 u6 u7 u8 u9).cell (p := ⟨w2.heap.size, 2, none⟩) (t2.lt) (by simp; exact fun e => t8 _ t1.gi_mem (in_rr (by simp [e])))).trans yv3; have hp4 := fun u0 u1 u2 u3 u4 u5 u6 u7 u8 u9 : Value => ((FoB.row10_chg w7 gi k u0 u1 u2 u3 u4 u5 u6 u7 u8 u9).cell (p := ⟨w2.heap.size, 3, none⟩) (t2.lt) (by simp; exact fun e => t8 _ t1.gi_mem (in_rr (by simp [e])))).trans yv4; have hp5 := fun u0 u1 u2 u3 u4 u5 u6 u7 u8 u9 : Value => ((FoB.row10_chg w7 gi k u0 u1 u2 u3 u4 u5 u6 u7 u8 u9).cell (p := ⟨w2.heap.size, 4, none⟩) (t2.lt) (by simp; exact fun e => t8 _ t1.gi_mem (in_rr (by simp [e])))).trans yv5; have hp6 := fun u0 u1 u2 u3 u4 u5 u6 u7 u8 u9 : Value => ((FoB.row10_chg w7 gi k u0 u1 u2 u3 u4 u5 u6 u7 u8 u9).cell (p := ⟨w2.heap.size, 5, none⟩) (t2.lt) (by simp; exact fun e => t8 _ t1.gi_mem (in_rr (by simp [e])))).trans yv6; have hp7 := fun u0 u1 u2 u3 u4 u5 u6 u7 u8 u9 : Value => ((FoB.row10_chg w7 gi k u0 u1 u2 u3 u4 u5 u6 u7 u8 u9).cell (p := ⟨w2.heap.size, 6, none⟩) (t2.lt) (by simp; exact fun e => t8 _ t1.gi_mem (in_rr (by simp [e])))).trans yv7; have hp8 := fun u0 u1 u2 u3 u4 u5 u6 u7 u8 u9 : Value => ((FoB.row10_chg w7 gi k u0 u1 u2 u3 u4 u5 u6 u7 u8 u9).cell (p := ⟨w2.heap.size, 7, none⟩) (t2.lt) (by simp; exact fun e => t8 _ t1.gi_mem (in_rr (by simp [e])))).trans yv8; have hp9 := fun u0 u1 u2 u3 u4 u5 u6 u7 u8 u9 : Value => ((FoB.row10_chg w7 gi k u0 u1 u2 u3 u4 u5 u6 u7 u8 u9).cell (p := ⟨w2.heap.size, 8, none⟩) (t2.lt) (by simp; exact fun e => t8 _ t1.gi_mem (in_rr (by simp [e])))).trans yv9; have hp10 := fun u0 u1 u2 u3 u4 u5 u6 u7 u8 u9 : Value => ((FoB.row10_chg w7 gi k u0 u1 u2 u3 u4 u5 u6 u7 u8 u9).cell (p := ⟨w2.heap.size, 9, none⟩) (t2.lt) (by simp; exact fun e => t8 _ t1.gi_mem (in_rr (by simp [e])))).trans yv10; unfold FoB.row10 at hp0 hp1 hp2 hp3 hp4 hp5 hp6 hp7 hp8 hp9 hp10; clear hrow ho1 ho2 hnd hb))
            rename_i hHeld
            clear hHeld
            rw [hM9, hA9, hD9, HN9.out] at HIO
            dsimp only at HIO
            have hfin := wi_ino HWS.out HW7.out HBL.out hk20 HIO.out
            unfold FoB.row10 at hfin
            have HFIN := Lib.hid (show Stp f k uk N qv win l0 o6 j pre (fun ins pre' W => WI w w0.heap.size w1.heap.size w2.heap.size wa.heap.size H0 f N (.slice qa' f.quotas.length qc') gi ci gd cd g m c9 (.slice b1 n.acl.length e1) (.slice b2 n.dflt.length e2) #[.int .i64 T, .slice qa Q qc, .slice ia M0 ic, .slice da D dc] l0 o6 ins (segD an s.data.toList o6 pre f.data) pre' W) _ from ⟨xn, _, _, hx56, HV2.out, hfin⟩)
            clear hfin
            go_wp2
            go_meet
            with_reducible exact HFIN.out
         case rest =>
          refine hKr _ _ ?_
          clear hKr
          obtain ⟨xn, s2, ins2, hx56, hvi2, hwi2⟩ := hcut
          have hdl : (segD an s.data.toList o6 pre f.data).length = 56 := seg_len _ _ HG.out
          obtain ⟨blk, hblk⟩ : ∃ b, b = dat (segD an s.data.toList o6 pre f.data) (xn : Int) := ⟨_, rfl⟩
          have hbs : blk.size = 32 := by
           rw [hblk]
           unfold dat
           have hx : xn < (segD an s.data.toList o6 pre f.data).length := by rw [hdl]; exact hx56
           rw [Int.toNat_natCast, List.getD_eq_getElem?_getD, List.getElem?_eq_getElem hx]
           exact HSZS.out _ (List.getElem_mem _)
          have hon : o6 <= K := by rw [HK.out]; omega
          have hoo : an / 32 = o6 := HO6.out.symm
          have hfit := seg_fit (a := an) (k := K) (s := s.data.toList) (by omega) (by rw [HST.out]; omega)
          rw [HST.out] at hfit
          obtain ⟨M9, hM9⟩ : ∃ M, M = max an (32 * K) := ⟨_, rfl⟩
          obtain ⟨E9, hE9⟩ : ∃ E, E = min (an + l) (32 * K + 32) := ⟨_, rfl⟩
          have hm1 : max (an : Int) ((K : Int) * 32) = (M9 : Int) := by rw [hM9]; omega
          have he1 : min ((an : Int) + (l : Int)) (((K : Int) + 1) * 32) = (E9 : Int) := by rw [hE9]; omega
          have hm2 : an <= M9 /\ 32 * K <= M9 /\ M9 <= 32 * K + 32 := by rw [hM9]; omega
          have he2 : M9 <= E9 /\ E9 <= an + l /\ E9 <= 32 * K + 32 := by rw [hM9, hE9]; omega
          have hso : segO an K = M9 - 32 * K := by unfold segO; rw [hM9]
          obtain ⟨o3, ho3⟩ : ∃ o, o = M9 - 32 * K := ⟨_, rfl⟩
          obtain ⟨sp, hsp⟩ : ∃ t, t = s.extract (M9 - an) (E9 - an) := ⟨_, rfl⟩
          have hps : sp.data.toList = segS an s.data.toList K := by rw [hsp, hM9, hE9, <- HST.out]; exact part_seg s an K
          have hft : o3 + sp.size <= blk.size := by
           have h1 : sp.size = sp.data.toList.length := by simp
           rw [h1, hps, hbs, ho3, <- hso]
           exact hfit.1
          have HPS := Lib.hid hps
          have HFT := Lib.hid hft
          have HBS := Lib.hid hbs
          have HBK := Lib.hid hblk
          have HVI2 := Lib.hid hvi2
          have HWI2 := Lib.hid hwi2
          have HSO := Lib.hid (show segO an K = o3 from by rw [ho3]; exact hso)
          have HEX := Lib.hid hsp
          have HO3 := Lib.hid ho3
          have HSL := Lib.hid (show s.size = l from by rw [<- HST.out]; simp)
          clear hM9 hE9 ho3 hps hft hbs hblk hso hsp hfit hdl hvi2 hwi2 HVI HWI HHF HPI HRN HCO HSZS cgK fgK cn7
          go_wp2_with fail
          refine (max_spec _ _ _).mono ?_
          rintro e wm ⟨rfl, rfl⟩
          rw [hm1]
          go_wp2_with fail
          refine (min_spec _ _ _).mono ?_
          rintro e wm ⟨rfl, rfl⟩
          rw [he1]
          obtain ⟨S9, q1, q2, q3, q4, q5, q6, q7, q8, q9, q10⟩ := HWI2.out
          go_upto_region 23 with (fail)
          have ya0 : wc.cell? ⟨w1.heap.size, 3, none⟩ = some (.slice (some ⟨gd, 0, none⟩) 56 cd) := q1.cells.2.2.2
          have ya1 : wc.cell? ⟨w2.heap.size, 7, none⟩ = some (.slice (some ⟨g, 0, none⟩) m c9) := q2.cell 7
          have ya2 : wc.cell? ⟨g, K, none⟩ = some (.int .i64 (xn : Int)) := by
           have hpk : o6 + pre.length = K := HPK.out
           have hkl0 : K < l0.length := HKL0.out
           rw [q3.cellAt K (by simpa using hKm), NiF.cells, List.getElem?_map, <- mid_set (xn : Int) (by rw [hpk]; exact hkl0), hpk, List.getElem?_set_self (by rw [mid_len (by omega)]; exact hkl0)]; rfl
          have hdc := q1.dcell hx56
          have ya3 : wc.cell? ⟨gd, xn, none⟩ = some (.string blk) := by
           rw [hdc.1, HBK.out]; unfold dat; rw [Int.toNat_natCast]
          have fg3 : wc.frozen? ⟨gd, xn, none⟩ = false := hdc.2
          have yb0 : wc.drew.cell? ⟨w1.heap.size, 3, none⟩ = some (.slice (some ⟨gd, 0, none⟩) 56 cd) := ya0
          have yb1 : wc.drew.cell? ⟨w2.heap.size, 7, none⟩ = some (.slice (some ⟨g, 0, none⟩) m c9) := ya1
          have yb2 : wc.drew.cell? ⟨g, K, none⟩ = some (.int .i64 (xn : Int)) := ya2
          have yb3 : wc.drew.cell? ⟨gd, xn, none⟩ = some (.string blk) := ya3
          have hi0 : (0 : Int) <= xn := by omega
          have hi1 : (xn : Int) < 56 := by omega
          have hi2 : (0 : Int) <= K := by omega
          have hi3 : (K : Int) < m := by omega
          have hx1 : (0 : Int) <= (M9 : Int) - an := by omega
          have hx2 : (M9 : Int) - an <= (E9 : Int) - an := by omega
          have hx3 : (E9 : Int) - an <= l := by omega
          have hx4 : ((M9 : Int) - an).toNat = M9 - an := by omega
          have hx5 : ((E9 : Int) - an).toNat = E9 - an := by omega
          have hx6 : (E9 : Int) - an <= s.size := by rw [HSL.out]; omega
          have hx7 : (0 : Int) <= (E9 : Int) - an := by omega
          have hz5 : an <= E9 := by omega
          have hz6 : (an : Int) <= E9 := by omega
          have hw0 : IntKind.i64.wrap ((K : Int) * 32) = (K : Int) * 32 := IntWalk.i64_in _ (by omega)
          have hw1 : IntKind.i64.wrap ((M9 : Int) - (K : Int) * 32) = (M9 : Int) - (K : Int) * 32 := IntWalk.i64_in _ (by omega)
          have hw2 : IntKind.i64.wrap ((M9 : Int) - (an : Int)) = (M9 : Int) - (an : Int) := IntWalk.i64_in _ (by omega)
          have hw3 : IntKind.i64.wrap ((E9 : Int) - (an : Int)) = (E9 : Int) - (an : Int) := IntWalk.i64_in _ (by omega)
          have hcq : ∀ W : World, (Instr.slice 9 (.string s) (some (.int .i64 ((M9 : Int) - (an : Int)))) (some (.int .i64 ((E9 : Int) - (an : Int)))) none).run Tryz.prog W = .ok (.string sp) W := fun W => by
           rw [run_slice_string W 9 s .i64 .i64 _ _ Tryz.underlying9 hx1 hx2 hx6, hx4, hx5, HEX.out]
          have hz1 : an <= M9 := by omega
          have hv1 : E9 <= s.size + an := by rw [HSL.out]; omega
          have hv2 : (E9 : Int) <= (s.size : Int) + (an : Int) := by rw [HSL.out]; omega
          have hv3 : E9 <= an + s.size := by rw [HSL.out]; omega
          have hv4 : (E9 : Int) <= (an : Int) + (s.size : Int) := by rw [HSL.out]; omega
          have hz2 : M9 <= E9 := by omega
          have hz3 : (an : Int) <= M9 := by omega
          have hz4 : (M9 : Int) <= E9 := by omega
          have hmg : (mid l0 o6 (pre ++ [(xn : Int)]))[K]? = some (xn : Int) := by
           have hpk : o6 + pre.length = K := HPK.out
           have hkl0 : K < l0.length := HKL0.out
           rw [<- mid_set (xn : Int) (by rw [hpk]; exact hkl0), hpk, List.getElem?_set_self (by rw [mid_len (by omega)]; exact hkl0)]
          have HMG := Lib.hid hmg
          have HKM := Lib.hid hKm
          have HOI := Lib.hid (show (M9 : Int) - (K : Int) * 32 = (o3 : Int) from by have := HO3.out; omega)
          have HDT := Lib.hid (show segD an s.data.toList o6 (pre ++ [(xn : Int)]) f.data = (segD an s.data.toList o6 pre f.data).set xn (putB blk o3 sp.data.toList) from by
           rw [segD_snoc, HPK.out, HSO.out, <- HPS.out, <- HBK.out, Int.toNat_natCast])
          clear hmg
          clear q1 q2 q3 q4 q5 q6 q7 q8 q9 q10 hdc hlS hm1 he1 hx4 hx5 hx3 hx7 hv1 hv2 hv3 hv4 hz3 hz4 hz6 hz5 hz2 hz1 hx6 hx1 hx2
          refine wp_region_held_drew (S := (fun w' => w'.cell? ⟨w1.heap.size, 3, none⟩ = some (.slice (some ⟨gd, 0, none⟩) 56 cd) /\ w'.cell? ⟨w2.heap.size, 7, none⟩ = some (.slice (some ⟨g, 0, none⟩) m c9) /\ w'.cell? ⟨g, K, none⟩ = some (.int .i64 (xn : Int)))) (by kernel_rfl) ⟨yb0, yb1, yb2⟩ (fun hHeld => ?_)
          refine wpAnyH_take (i := 0) (v := ?_) rfl (by kernel_rfl) (by kernel_rfl) (by kernel_rfl) (fun _ _ _ h => h) (Or.inl ⟨by rfl, ?_⟩) (by assumption) ?_
          rotate_left
          ·(intro wx hSw; (try dsimp only at hSw); go_simp; (try with_reducible rfl))
          (try simp only [Act.put, List.setIfInBounds_toArray, List.set_cons_zero, List.set_cons_succ])
          refine wpAnyH_take (i := 1) (v := ?_) rfl (by kernel_rfl) (by kernel_rfl) (by kernel_rfl) (fun _ _ _ h => h) (Or.inl ⟨by rfl, ?_⟩) (by assumption) ?_
          rotate_left
          ·(intro wx hSw; (try dsimp only at hSw); go_simp; (try with_reducible rfl))
          (try simp only [Act.put, List.setIfInBounds_toArray, List.set_cons_zero, List.set_cons_succ])
          refine wpAnyH_take (i := 2) (v := ?_) rfl (by kernel_rfl) (by kernel_rfl) (by kernel_rfl) (fun _ _ _ h => h) (Or.inl ⟨by rfl, ?_⟩) (by assumption) ?_
          rotate_left
          ·(intro wx hSw; (try dsimp only at hSw); go_simp; (try with_reducible rfl))
          (try simp only [Act.put, List.setIfInBounds_toArray, List.set_cons_zero, List.set_cons_succ])
          refine wpAnyH_take (i := 3) (v := ?_) rfl (by kernel_rfl) (by kernel_rfl) (by kernel_rfl) (fun _ _ _ h => h) (Or.inl ⟨by rfl, ?_⟩) (by assumption) ?_
          rotate_left
          ·(intro wx hSw; (try dsimp only at hSw); go_simp; (try with_reducible rfl))
          (try simp only [Act.put, List.setIfInBounds_toArray, List.set_cons_zero, List.set_cons_succ])
          refine wpAnyH_take (i := 4) (v := ?_) rfl (by kernel_rfl) (by kernel_rfl) (by kernel_rfl) (fun _ _ _ h => h) (Or.inl ⟨by rfl, ?_⟩) (by assumption) ?_
          rotate_left
          ·(intro wx hSw; (try dsimp only at hSw); go_simp; (try with_reducible rfl))
          (try simp only [Act.put, List.setIfInBounds_toArray, List.set_cons_zero, List.set_cons_succ])
          refine wpAnyH_take (i := 5) (v := ?_) rfl (by kernel_rfl) (by kernel_rfl) (by kernel_rfl) (fun _ _ _ h => h) (Or.inl ⟨by rfl, ?_⟩) (by assumption) ?_
          rotate_left
          ·(intro wx hSw; (try dsimp only at hSw); go_simp; (try with_reducible rfl))
          (try simp only [Act.put, List.setIfInBounds_toArray, List.set_cons_zero, List.set_cons_succ])
          refine wpAnyH_take (i := 6) (v := ?_) rfl (by kernel_rfl) (by kernel_rfl) (by kernel_rfl) (fun _ _ _ h => h) (Or.inl ⟨by rfl, ?_⟩) (by assumption) ?_
          rotate_left
          ·(intro wx hSw; (try dsimp only at hSw); go_simp; (try with_reducible rfl))
          (try simp only [Act.put, List.setIfInBounds_toArray, List.set_cons_zero, List.set_cons_succ])
          refine wpAnyH_take (i := 7) (v := ?_) rfl (by kernel_rfl) (by kernel_rfl) (by kernel_rfl) (fun _ _ _ h => h) (Or.inl ⟨by rfl, ?_⟩) (by assumption) ?_
          rotate_left
          ·(intro wx hSw; (try dsimp only at hSw); go_simp; (try with_reducible rfl))
          (try simp only [Act.put, List.setIfInBounds_toArray, List.set_cons_zero, List.set_cons_succ])
          refine wpAnyH_take (i := 8) (v := ?_) rfl (by kernel_rfl) (by kernel_rfl) (by kernel_rfl) (fun _ _ _ h => h) (Or.inl ⟨by rfl, ?_⟩) (by assumption) ?_
          rotate_left
          ·(intro wx hSw; (try dsimp only at hSw); go_simp; (try with_reducible rfl))
          (try simp only [Act.put, List.setIfInBounds_toArray, List.set_cons_zero, List.set_cons_succ])
          refine wpAnyH_take (i := 9) (v := ?_) rfl (by kernel_rfl) (by kernel_rfl) (by kernel_rfl) (fun _ _ _ h => h) (Or.inl ⟨by rfl, ?_⟩) (by assumption) ?_
          rotate_left
          ·(intro wx hSw; (try dsimp only at hSw); go_simp; (try with_reducible rfl))
          (try simp only [Act.put, List.setIfInBounds_toArray, List.set_cons_zero, List.set_cons_succ])
          refine wpAnyH_take (i := 10) (v := ?_) rfl (by kernel_rfl) (by kernel_rfl) (by kernel_rfl) (fun _ _ _ h => h) (Or.inl ⟨by rfl, ?_⟩) (by assumption) ?_
          rotate_left
          ·(intro wx hSw; (try dsimp only at hSw); go_simp; (try with_reducible rfl))
          (try simp only [Act.put, List.setIfInBounds_toArray, List.set_cons_zero, List.set_cons_succ])
          refine wpAnyH_take (i := 11) (v := ?_) rfl (by kernel_rfl) (by kernel_rfl) (by kernel_rfl) (fun _ _ _ h => h) (Or.inl ⟨by rfl, ?_⟩) (by assumption) ?_
          rotate_left
          ·(intro wx hSw; (try dsimp only at hSw); go_simp; (try with_reducible rfl))
          (try simp only [Act.put, List.setIfInBounds_toArray, List.set_cons_zero, List.set_cons_succ])
          refine wpAnyH_take (i := 12) (v := ?_) rfl (by kernel_rfl) (by kernel_rfl) (by kernel_rfl) (fun _ _ _ h => h) (Or.inl ⟨by rfl, ?_⟩) (by assumption) ?_
          rotate_left
          ·(intro wx hSw; (try dsimp only at hSw); go_simp; (try with_reducible rfl))
          (try simp only [Act.put, List.setIfInBounds_toArray, List.set_cons_zero, List.set_cons_succ])
          refine wpAnyH_take (i := 13) (v := ?_) rfl (by kernel_rfl) (by kernel_rfl) (by kernel_rfl) (fun _ _ _ h => h) (Or.inl ⟨by rfl, ?_⟩) (by assumption) ?_
          rotate_left
          ·(intro wx hSw; (try dsimp only at hSw); go_simp; (try with_reducible rfl))
          (try simp only [Act.put, List.setIfInBounds_toArray, List.set_cons_zero, List.set_cons_succ])
          refine wpAnyH_take (i := 14) (v := ?_) rfl (by kernel_rfl) (by kernel_rfl) (by kernel_rfl) (fun _ _ _ h => h) (Or.inl ⟨by rfl, ?_⟩) (by assumption) ?_
          rotate_left
          ·(intro wx hSw; (try dsimp only at hSw); go_simp; (try with_reducible rfl))
          (try simp only [Act.put, List.setIfInBounds_toArray, List.set_cons_zero, List.set_cons_succ])
          refine wpAnyH_take (i := 16) (v := ?_) rfl (by kernel_rfl) (by kernel_rfl) (by kernel_rfl) (fun _ _ _ h => h) (Or.inl ⟨by rfl, ?_⟩) (by assumption) ?_
          rotate_left
          ·(intro wx hSw; (try dsimp only at hSw); go_simp; (try with_reducible rfl))
          (try simp only [Act.put, List.setIfInBounds_toArray, List.set_cons_zero, List.set_cons_succ])
          refine wpAnyH_take (i := 17) (v := ?_) rfl (by kernel_rfl) (by kernel_rfl) (by kernel_rfl) (fun _ _ _ h => h) (Or.inl ⟨by rfl, ?_⟩) (by assumption) ?_
          rotate_left
          ·(intro wx hSw; (try dsimp only at hSw); go_simp; (try with_reducible rfl))
          (try simp only [Act.put, List.setIfInBounds_toArray, List.set_cons_zero, List.set_cons_succ])
          refine wpAnyH_take (i := 18) (v := ?_) rfl (by kernel_rfl) (by kernel_rfl) (by kernel_rfl) (fun _ _ _ h => h) (Or.inl ⟨by rfl, ?_⟩) (by assumption) ?_
          rotate_left
          ·(intro wx hSw; (try dsimp only at hSw); go_simp; (try with_reducible rfl))
          (try simp only [Act.put, List.setIfInBounds_toArray, List.set_cons_zero, List.set_cons_succ])
          refine wpAnyH_take (i := 19) (v := ?_) rfl (by kernel_rfl) (by kernel_rfl) (by kernel_rfl) (fun _ _ _ h => h) (Or.inl ⟨by rfl, ?_⟩) (by assumption) ?_
          rotate_left
          ·(intro wx hSw; (try dsimp only at hSw); go_simp; (try with_reducible rfl))
          (try simp only [Act.put, List.setIfInBounds_toArray, List.set_cons_zero, List.set_cons_succ])
          refine wpAnyH_take (i := 20) (v := ?_) rfl (by kernel_rfl) (by kernel_rfl) (by kernel_rfl) (fun _ _ _ h => h) (Or.inl ⟨by rfl, ?_⟩) (by assumption) ?_
          rotate_left
          ·(intro wx hSw; (try dsimp only at hSw); go_simp; (try with_reducible rfl))
          (try simp only [Act.put, List.setIfInBounds_toArray, List.set_cons_zero, List.set_cons_succ])
          refine wpAnyH_take (i := 21) (v := ?_) rfl (by kernel_rfl) (by kernel_rfl) (by kernel_rfl) (fun _ _ _ h => h) (Or.inl ⟨by rfl, ?_⟩) (by assumption) ?_
          rotate_left
          ·(intro wx hSw; (try dsimp only at hSw); go_simp; (try with_reducible rfl))
          (try simp only [Act.put, List.setIfInBounds_toArray, List.set_cons_zero, List.set_cons_succ])
          refine wpAnyH_take (i := 22) (v := ?_) rfl (by kernel_rfl) (by kernel_rfl) (by kernel_rfl) (fun _ _ _ h => h) (Or.inl ⟨by rfl, ?_⟩) (by assumption) ?_
          rotate_left
          ·(intro wx hSw; (try dsimp only at hSw); go_simp; (try with_reducible rfl))
          (try simp only [Act.put, List.setIfInBounds_toArray, List.set_cons_zero, List.set_cons_succ])
          refine wpAnyH_take (i := 23) (v := ?_) rfl (by kernel_rfl) (by kernel_rfl) (by kernel_rfl) (fun _ _ _ h => h) (Or.inl ⟨by rfl, ?_⟩) (by assumption) ?_
          rotate_left
          ·(intro wx hSw; (try dsimp only at hSw); go_simp; (try with_reducible rfl))
          (try simp only [Act.put, List.setIfInBounds_toArray, List.set_cons_zero, List.set_cons_succ])
          refine wpAnyH_take (i := 24) (v := ?_) rfl (by kernel_rfl) (by kernel_rfl) (by kernel_rfl) (fun _ _ _ h => h) (Or.inl ⟨by rfl, ?_⟩) (by assumption) ?_
          rotate_left
          ·(intro wx hSw; (try dsimp only at hSw); go_simp; (try with_reducible rfl))
          (try simp only [Act.put, List.setIfInBounds_toArray, List.set_cons_zero, List.set_cons_succ])
          refine wpAnyH_take (i := 25) (v := ?_) rfl (by kernel_rfl) (by kernel_rfl) (by kernel_rfl) (fun _ _ _ h => h) (Or.inl ⟨by rfl, ?_⟩) (by assumption) ?_
          rotate_left
          ·(intro wx hSw; (try dsimp only at hSw); go_simp; (try with_reducible rfl))
          (try simp only [Act.put, List.setIfInBounds_toArray, List.set_cons_zero, List.set_cons_succ])
          refine wpAnyH_take (i := 26) (v := ?_) rfl (by kernel_rfl) (by kernel_rfl) (by kernel_rfl) (fun _ _ _ h => h) (Or.inl ⟨by rfl, ?_⟩) (by assumption) ?_
          rotate_left
          ·(intro wx hSw; (try dsimp only at hSw); go_simp; (try with_reducible rfl))
          (try simp only [Act.put, List.setIfInBounds_toArray, List.set_cons_zero, List.set_cons_succ])
          refine wpAnyH_take (i := 27) (v := ?_) rfl (by kernel_rfl) (by kernel_rfl) (by kernel_rfl) (fun _ _ _ h => h) (Or.inl ⟨by rfl, ?_⟩) (by assumption) ?_
          rotate_left
          ·(intro wx hSw; (try dsimp only at hSw); go_simp; (try with_reducible rfl))
          (try simp only [Act.put, List.setIfInBounds_toArray, List.set_cons_zero, List.set_cons_succ])
          refine wpAnyH_ready (rs := [15]) (by kernel_rfl) (by simp) ?_
          refine AllReadyH.cons rfl (fun KK hKK => ?_) AllReadyH.nil
          go_simp
          refine hKK.out _ _ ⟨yb0, yb1, yb2⟩ (fun hHeld2 => ?_)
          clear hKK KK
          (try simp only [Act.put, List.setIfInBounds_toArray, List.set_cons_zero, List.set_cons_succ])
          clear hHeld
          rename_i hHeld
          refine wpAnyH_ready (rs := [28]) (by kernel_rfl) (by simp) ?_
          refine AllReadyH.cons rfl (fun KK hKK => ?_) AllReadyH.nil
          go_simp
          (go_at_call 156; rw [HOI.out]; (with_reducible refine (SpPt.put_spec blk o3 sp _ (by have := HBS.out; omega) HFT.out).mono ?_); rintro e w7 ⟨rfl, hb⟩; have HWB := Lib.hid (wi_below HWI2.out ((Below.refl wc.heap.size wc).drew.trans hb)); obtain ⟨S7, t1, t2, t3, t4, t5, t6, t7, t8, t9, t10⟩ := HWB.out; have yv0 : w7.cell? ⟨w1.heap.size, 3, none⟩ = some (.slice (some ⟨gd, 0, none⟩) 56 cd) := t1.cells.2.2.2; have yv1 : w7.cell? ⟨w2.heap.size, 7, none⟩ = some (.slice (some ⟨g, 0, none⟩) m c9) := t2.cell 7; have yv2 : w7.cell? ⟨g, K, none⟩ = some (.int .i64 (xn : Int)) := (by rw [t3.cellAt K (by simpa using HKM.out), NiF.cells, List.getElem?_map, HMG.out]; rfl); have yv3 : w7.cell? ⟨gd, xn, none⟩ = some (.string blk) := (by rw [(t1.dcell hx56).1, HBK.out]; unfold dat; rw [Int.toNat_natCast]); have fg7 : w7.frozen? ⟨gd, xn, none⟩ = false := (t1.dcell hx56).2; have HW9 := Lib.hid (wi_data HWS.out HWB.out hx56 (putB blk o3 sp.data.toList)); obtain ⟨Z7, z1, z2, z3, z4⟩ := HW9.out; have yz0 : (w7.setCell ⟨gd, xn, none⟩ (.string (putB blk o3 sp.data.toList))).cell? ⟨w1.heap.size, 3, none⟩ = some (.slice (some ⟨gd, 0, none⟩) 56 cd) := z1.cells.2.2.2; have yz1 : (w7.setCell ⟨gd, xn, none⟩ (.string (putB blk o3 sp.data.toList))).cell? ⟨w2.heap.size, 7, none⟩ = some (.slice (some ⟨g, 0, none⟩) m c9) := z2.cell 7; have yz2 : (w7.setCell ⟨gd, xn, none⟩ (.string (putB blk o3 sp.data.toList))).cell? ⟨g, K, none⟩ = some (.int .i64 (xn : Int)) := (by rw [z3.cellAt K (by simpa using HKM.out), NiF.cells, List.getElem?_map, HMG.out]; rfl); clear t1 t2 t3 t4 t5 t6 t7 t8 t9 t10 hb z1 z2 z3 z4)
          refine hKK.out _ _ ⟨yv0, yv1, yv2⟩ (fun hHeld2 => ?_)
          clear hKK KK
          (try simp only [Act.put, List.setIfInBounds_toArray, List.set_cons_zero, List.set_cons_succ])
          clear hHeld
          rename_i hHeld
          refine wpAnyH_take (i := 29) (v := ?_) rfl (by kernel_rfl) (by kernel_rfl) (by kernel_rfl) (fun _ _ _ h => h) (Or.inl ⟨by rfl, ?_⟩) (by assumption) ?_
          rotate_left
          ·(intro wx hSw; (try dsimp only at hSw); go_simp; (try with_reducible rfl))
          (try simp only [Act.put, List.setIfInBounds_toArray, List.set_cons_zero, List.set_cons_succ])
          refine wpAnyH_ready (rs := [30]) (by kernel_rfl) (by simp) ?_
          refine AllReadyH.cons rfl (fun KK hKK => ?_) AllReadyH.nil
          go_simp
          refine hKK.out _ _ ⟨yz0, yz1, yz2⟩ (fun hHeld2 => ?_)
          clear hKK KK
          (try simp only [Act.put, List.setIfInBounds_toArray, List.set_cons_zero, List.set_cons_succ])
          clear hHeld
          rename_i hHeld
          refine wpAnyH_done (by kernel_rfl) ?_ _
          clear hHeld
          have hW9 := HW9.out
          rw [<- HDT.out] at hW9
          clear HW9
          have HW9 := hW9
          clear hW9 yz0 yz1 yz2
          generalize w7.setCell ⟨gd, xn, none⟩ (.string (putB blk o3 sp.data.toList)) = w9 at HW9 ⊢
          clear yv0 yv1 yv2 yv3 fg7 ya0 ya1 ya2 ya3 yb0 yb1 yb2 yb3 fg3
          have HW9' := Lib.hid HW9
          clear HW9
          go_wp2
          go_roundw
          case rel => exact ⟨j + 1, pre ++ [(xn : Int)], s2, ins2, by omega, by rw [HK.out]; congr 1, HVI2.out, HW9'.out⟩
          case measure =>
           show L1 - ((K : Int) + 1).toNat < L1 - ((K : Int)).toNat
           omega
        ·have hjE : j = L1 - o6 := by omega
         have hKE : K = L1 := by omega
         have hal3 : ¬ (K * 32 < an + l) := by omega
         have hjw : j = win.length := by rw [HWL.out]; exact hjE
         have hr : wrR f n an l = (pre, 0) := by
          rw [HRR.out]
          have hvi := HVI.out
          rw [hjw] at hvi
          exact vi_end hvi
         have hwe := FsZw.write_eq HG.out (s := s.data.toList) (a := an) (by rw [HST.out]; exact hl0) (by rw [HST.out]; exact hal) (by rw [HST.out, <- HN.out, hr])
         rw [HST.out, <- HN.out, hr, <- HO6.out] at hwe
         dsimp only at hwe
         have hB : wrB f n an l = mid l0 o6 pre := by
          unfold wrB mid
          rw [hr, <- HNI.out, show N.blocks = l0 from by rw [HNE.out], <- HL1.out, <- HO6.out, HPL.out, show o6 + j = L1 from by omega]
         obtain ⟨N8, hN8⟩ : ∃ N8 : I, N8 = { N with blocks := mid l0 o6 pre } := ⟨_, rfl⟩
         have hset : ins.set k N8 = f.inodes.set k N8 := by
          rcases HVI.out.2.2 with ⟨h1, _⟩ | h1
          ·rw [h1]
          ·rw [h1, <- hN8, List.set_set]
         have HVE := Lib.hid (show writeV f k an s = (({ f with inodes := ins.set k N8, data := segD an s.data.toList o6 pre f.data } : F), 0) from by
          rw [HVV.out, hr, if_pos rfl, <- HNI.out, hset, hN8]
          unfold withV
          rw [<- HN.out]
          dsimp only
          rw [hwe, hB])
         obtain ⟨S9, q1, q2, q3, q4, q5, q6, q7, q8, q9, q10⟩ := HWI.out
         have hml : (mid l0 o6 pre).length = m := by
          rw [mid_len (by rw [HPL.out, HL0.out]; omega), HL0.out]
         have hnd : (fpR (.slice (some ⟨g, 0, none⟩) m c9) ++ fpR (.slice b1 n.acl.length e1) ++ fpR (.slice b2 n.dflt.length e2)).Nodup := by
          have hgy := HWS.out.gy
          have hy := HY.out
          have hg9 : fpR (.slice (some ⟨g, 0, none⟩) m c9) = [g] := rfl
          rw [hg9]
          exact nodup_app (nodup_app (by simp) (fpR_nodup _) (fun x hx hh => by rw [List.mem_singleton] at hx; subst hx; exact hgy.1 hh)) (fpR_nodup _) (apart_app.2 ⟨fun x hx hh => by rw [List.mem_singleton] at hx; subst hx; exact hgy.2 hh, hy⟩)
         have HI5 := Lib.hid (show In.Own wr wa.heap.size (.agg #[.int .i64 N.kind, .int .i64 N.mode, .int .i64 N.uid, .int .i64 N.gid, .int .i64 N.links, .int .i64 N.size, .int .i64 N.tick, .slice (some ⟨g, 0, none⟩) m c9, .slice b1 n.acl.length e1, .slice b2 n.dflt.length e2]) N8 (fpR (.slice (some ⟨g, 0, none⟩) m c9) ++ fpR (.slice b1 n.acl.length e1) ++ fpR (.slice b2 n.dflt.length e2)) from by
          rw [hN8]
          exact ⟨_, _, _, _, _, _, rfl, rfl, hnd, NiF.own_of (l := mid l0 o6 pre) (by rw [hml]; exact q3), q4, q5⟩)
         have HTB := Lib.hid (show Apart (fpR (.slice (some ⟨g, 0, none⟩) m c9) ++ fpR (.slice b1 n.acl.length e1) ++ fpR (.slice b2 n.dflt.length e2)) S9 from fun x hx hh => q8 x hh (by
          have hg9 : fpR (.slice (some ⟨g, 0, none⟩) m c9) = [g] := rfl
          rw [hg9] at hx
          unfold Rr
          simp only [List.mem_append, List.mem_cons, List.mem_nil_iff, or_false] at hx ⊢
          rcases hx with (hx | hx) | hx
          ·exact .inl (.inl (.inr (.inr (.inr (.inr hx)))))
          ·exact .inl (.inr hx)
          ·exact .inr hx))
         have HBT := Lib.hid (show w1.heap.size ∉ fpR (.slice (some ⟨g, 0, none⟩) m c9) ++ fpR (.slice b1 n.acl.length e1) ++ fpR (.slice b2 n.dflt.length e2) from fun hh => by
          have h1 := (In.own_lies HI5.out _ hh).1
          omega)
         have HF5 := Lib.hid q1
         have HX5 := Lib.hid q2
         have HR5 := Lib.hid q7
         have HB5 := Lib.hid q10
         clear q1 q2 q3 q4 q5 q6 q7 q8 q9 q10 hnd hml hB hwe hr hset hjw hN8 hK
         obtain ⟨rr0, rr1, rr2, hCl, hPt⟩ := HF5.out.icell hk20
         obtain ⟨m0, m1, m2, m3, m4, m5, m6, m7, m8, m9⟩ := hCl
         clear hPt
         have g0 : wr.frozen? ⟨gi, k * 10, none⟩ = false := HF5.out.ifree _
         have g1 : wr.frozen? ⟨gi, k * 10 + 1, none⟩ = false := HF5.out.ifree _
         have g2 : wr.frozen? ⟨gi, k * 10 + 2, none⟩ = false := HF5.out.ifree _
         have g3 : wr.frozen? ⟨gi, k * 10 + 3, none⟩ = false := HF5.out.ifree _
         have g4 : wr.frozen? ⟨gi, k * 10 + 4, none⟩ = false := HF5.out.ifree _
         have g5 : wr.frozen? ⟨gi, k * 10 + 5, none⟩ = false := HF5.out.ifree _
         have g6 : wr.frozen? ⟨gi, k * 10 + 6, none⟩ = false := HF5.out.ifree _
         have g7 : wr.frozen? ⟨gi, k * 10 + 7, none⟩ = false := HF5.out.ifree _
         have g8 : wr.frozen? ⟨gi, k * 10 + 8, none⟩ = false := HF5.out.ifree _
         have g9 : wr.frozen? ⟨gi, k * 10 + 9, none⟩ = false := HF5.out.ifree _
         obtain ⟨x0, x1, x2, x3⟩ := HF5.out.cells
         clear x0 x1 x3
         obtain ⟨y0, y1, y2, y3, y4, y5, y6, y7, y8, y9⟩ := Bk.c10 HX5.out
         go_upto_region 25 with (fail)
         obtain ⟨S', hfo, hsub⟩ := HF5.out.setI hk20 (In.own_mono HI5.out (show w0.heap.size <= wa.heap.size by omega)) HTB.out HBT.out
         have hrc := FoB.row10_chg wr gi k (.int .i64 N.kind) (.int .i64 N.mode) (.int .i64 N.uid) (.int .i64 N.gid) (.int .i64 N.links) (.int .i64 N.size) (.int .i64 N.tick) (.slice (some ⟨g, 0, none⟩) m c9) (.slice b1 n.acl.length e1) (.slice b2 n.dflt.length e2)
         have hgl := HF5.out.gi_lt
         have hr2 := FoB.Bk.chg HR5.out hrc (fun hh => by rw [List.mem_singleton] at hh; omega)
         have hb2 := HB5.out.trans (FoB.Chg.from hrc HB5.out.size (by omega))
         unfold FoB.row10 at hfo hr2 hb2
         generalize (((((((((wr.setCell ⟨gi, k * 10, none⟩ (.int .i64 N.kind)).setCell ⟨gi, k * 10 + 1, none⟩ (.int .i64 N.mode)).setCell ⟨gi, k * 10 + 2, none⟩ (.int .i64 N.uid)).setCell ⟨gi, k * 10 + 3, none⟩ (.int .i64 N.gid)).setCell ⟨gi, k * 10 + 4, none⟩ (.int .i64 N.links)).setCell ⟨gi, k * 10 + 5, none⟩ (.int .i64 N.size)).setCell ⟨gi, k * 10 + 6, none⟩ (.int .i64 N.tick)).setCell ⟨gi, k * 10 + 7, none⟩ (.slice (some ⟨g, 0, none⟩) m c9)).setCell ⟨gi, k * 10 + 8, none⟩ (.slice b1 n.acl.length e1)).setCell ⟨gi, k * 10 + 9, none⟩ (.slice b2 n.dflt.length e2) = wb at hfo hr2 hb2 ⊢
         clear m0 m1 m2 m3 m4 m5 m6 m7 m8 m9 g0 g1 g2 g3 g4 g5 g6 g7 g8 g9 x2 hrc y0 y1 y2 y3 y4 y5 y6 y7 y8 y9
         have HF := Lib.hid hfo
         have HR2' := Lib.hid hr2
         have HB2' := Lib.hid hb2
         clear hfo hr2 hb2 hsub
         obtain ⟨x0, x1, x2, x3⟩ := HF.out.cells
         have HNS := Lib.hid (show w.heap.size + 1 ∉ S' from fun hh => by have := (HF.out.lies _ hh).1; omega)
         have HOW := Lib.hid (FsF.own_mono HF.out.own HB0.out.size)
         obtain ⟨r0, r1, r2, r3⟩ := Bk.c4 HR2'.out
         have f0 := HR2'.out.free 0
         have f1 := HR2'.out.free 1
         have f2 := HR2'.out.free 2
         have f3 := HR2'.out.free 3
         go_wp2
         have hF := FoB.box4_bk HR2'.out (.int .i64 f.tick) (.slice qa' f.quotas.length qc') (.slice (some ⟨gi, 0, none⟩) 20 ci) (.slice (some ⟨gd, 0, none⟩) 56 cd)
         have hC9 := FoB.box4_chg wb (w.heap.size + 1) (.int .i64 f.tick) (.slice qa' f.quotas.length qc') (.slice (some ⟨gi, 0, none⟩) 20 ci) (.slice (some ⟨gd, 0, none⟩) 56 cd)
         unfold FoB.box4 at hF hC9
         generalize ((((wb.setCell ⟨w.heap.size + 1, 0, none⟩ (.int .i64 f.tick)).setCell ⟨w.heap.size + 1, 1, none⟩ (.slice qa' f.quotas.length qc')).setCell ⟨w.heap.size + 1, 2, none⟩ (.slice (some ⟨gi, 0, none⟩) 20 ci)).setCell ⟨w.heap.size + 1, 3, none⟩ (.slice (some ⟨gd, 0, none⟩) 56 cd)) = w9 at hF hC9 ⊢
         obtain ⟨e0, e1, e2, e3⟩ := Bk.c4 hF
         have hres := FsF.own_mono (FsF.own_chg HOW.out hC9 (fun x hx hh => by rw [List.mem_singleton] at hh; subst hh; exact HNS.out hx)) (show w.heap.size <= w.heap.size from Nat.le_refl _)
         refine bodyPost_ret (v := .tuple #[.agg #[.int .i64 f.tick, .slice qa' f.quotas.length qc', .slice (some ⟨gi, 0, none⟩) 20 ci, .slice (some ⟨gd, 0, none⟩) 56 cd], .int .i64 0]) (by simp [results, Tryz.results110, go_sem, e0, e1, e2, e3]) rfl ?_
         exact ⟨_, by rw [HVE.out], ⟨S', by rw [HVE.out]; exact hres⟩, HB2'.out.trans (FoB.Chg.from hC9 HB2'.out.size (Nat.le_succ _))⟩
end Go.Proofs.YthppbcnejapbiaaGreatDoor.SpWr
