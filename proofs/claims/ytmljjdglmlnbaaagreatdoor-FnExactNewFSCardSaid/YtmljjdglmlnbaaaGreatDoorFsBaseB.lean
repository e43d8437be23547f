/- Helper texts joined, one behind another (a claim has at most 60 files): what each proves, its own head says: YtmljjdglmlnbaaaGreatDoorFsP, YtmljjdglmlnbaaaGreatDoorFsU, YtmljjdglmlnbaaaGreatDoorFsW, YtmljjdglmlnbaaaGreatDoorFsB, YtmljjdglmlnbaaaGreatDoorIsZeroes, YtmljjdglmlnbaaaGreatDoorFsE, YtmljjdglmlnbaaaGreatDoorFsK, YtmljjdglmlnbaaaGreatDoorFsS, YtmljjdglmlnbaaaGreatDoorLaidN, YtmljjdglmlnbaaaGreatDoorLaidM, YtmljjdglmlnbaaaGreatDoorKitV. -/
import Derived.Test.YtmljjdglmlnbaaaGreatDoorFsBaseA
import Derived.Test.YtmljjdglmlnbaaaGreatDoorInOk
import Derived.Test.YtmljjdglmlnbaaaGreatDoorInOs
import Derived.Test.YtmljjdglmlnbaaaGreatDoorInEq
import Derived.Test.YtmljjdglmlnbaaaGreatDoorFam
import Derived.Test.YtmljjdglmlnbaaaGreatDoorKit
import Derived.Test.YtmljjdglmlnbaaaGreatDoorShelf
import Derived.LaidMore
import Derived.MakeChecks
import Derived.Lib.LaidTab
import Derived.OpenShut
import Derived.Stop.LaidErr
import Derived.Stop.Joined
import Derived.Lay
import Derived.OpenVars

-- YtmljjdglmlnbaaaGreatDoorFsP
/- Contracts: the program's isQuota and hasValidParts. Conditions: as each theorem types them. -/
namespace Go.Proofs.YtmljjdglmlnbaaaGreatDoor.FsP
open Go.ChangeShapes Go.WideShapes Go.ChangeAt Go.RowKit
open Foot Bx
open FsV (F quB ownerV partsB allTo)
open Dk (ret_bool)
open Strs (ret_int)
set_option linter.unusedVariables false

set_option maxRecDepth 100000 in
set_option maxHeartbeats 1600000 in
theorem quota_impl (q : Int × Int) (w : World) :
    Calls Tryz.prog 86 #[.agg #[.int .i64 q.1, .int .i64 q.2]] w fun e w' => e = .returned (.bool (quB q)) ∧ Below w.heap.size w w' := by
  obtain ⟨a, b⟩ := q
  have HB := Lib.hid ((Below.refl w.heap.size w).alloc (Nat.le_refl _) (.cells #[.int .i64 a, .int .i64 b] 51))
  unfold quB
  dsimp only
  cases h1 : decide (0 ≤ a) <;> cases h2 : decide (a ≤ 5) <;> cases h3 : decide (0 ≤ b) <;> cases h4 : decide (b ≤ 14)
  all_goals
    go_enter Tryz.func86, Tryz.ntmps86
    go_wp2
    go_ret
    exact ⟨rfl, HB.out⟩

theorem parts_quo {f : F} (h : f.quotas.all quB = false) : partsB f = false := by simp [partsB, h]
theorem parts_ino {f : F} (h : f.inodes.all InoV.okI = false) : partsB f = false := by simp [partsB, h]
theorem parts_dat {f : F} (h : f.data.all (fun s => decide (s.size = 32)) = false) : partsB f = false := by simp [partsB, h]
/-- An inode's integers and lists are in range, its cost is within the whole's. -/
theorem lim_at {f : F} (hl : FsF.Lim f) {i : Nat} (hi : i < f.inodes.length) : In.Lim (f.inodes.getD i InoV.zero) := hl.inodes.2 _ (FsV.mem_getD hi)
theorem cost_at {f : F} (hc : FsF.cost f ≤ 1073741824) {i : Nat} (hi : i < f.inodes.length) : In.cost (f.inodes.getD i InoV.zero) ≤ 1073741824 :=
  Nat.le_trans (IF.cost_at hi) (Nat.le_trans (Nat.le_trans (Nat.le_add_left _ _) (FsF.le_inodes f)) hc)
theorem size_at {f : F} (hl : FsF.Lim f) {i : Nat} (hi : i < f.data.length) : (f.data.getD i ⟨#[]⟩).size ≤ maxLen := hl.data.2 _ (FsV.mem_getD hi)

set_option maxRecDepth 100000 in
set_option maxHeartbeats 3200000 in
theorem parts_impl (w : World) (v : Value) (f : F) (hc : FsF.cost f ≤ 1073741824) (hl : FsF.Lim f) (hv : InOk.Vars w) (h : FsF.Holds w v f) :
    Calls Tryz.prog 58 #[v] w fun e w' => e = .returned (.bool (partsB f)) ∧ Below w.heap.size w w' := by
  have HCA := Lib.hid (fun i (hi : i < f.inodes.length) => cost_at hc hi)
  have HLA := Lib.hid (fun i (hi : i < f.inodes.length) => lim_at hl hi)
  have HSA := Lib.hid (fun i (hi : i < f.data.length) => size_at hl hi)
  have HV := Lib.hid hv
  obtain ⟨r0, r1, r2, rfl, g0, g1, g2⟩ := h
  obtain ⟨qa, qc, rfl, hQ⟩ := Qt.atL g0
  obtain ⟨ia, ic, rfl, _, hI⟩ := IF.atL g1
  obtain ⟨da, dc, rfl, hD⟩ := g2
  have HQ := Lib.hid hQ
  have HI := Lib.hid hI
  have HD := Lib.hid (show ∀ i, i < f.data.length → ∃ b o, da = some ⟨b, o, none⟩ ∧ b < w.heap.size ∧ w.cell? ⟨b, o + i, none⟩ = some (.string (f.data.getD i ⟨#[]⟩)) from fun i hi => by
    obtain ⟨b, o, e, hlt, hcell⟩ := hD (by intro e; rw [e] at hi; simp at hi)
    exact ⟨b, o, e, hlt, hcell i hi⟩)
  have HNQ := Lib.hid (fun h => parts_quo (f := f) h)
  have HNI := Lib.hid (fun h => parts_ino (f := f) h)
  have HND := Lib.hid (fun h => parts_dat (f := f) h)
  have hlq : f.quotas.length ≤ 1073741824 := Nat.le_trans (FsF.le_quotas f) hc
  have hli : f.inodes.length ≤ 1073741824 := Nat.le_trans (Nat.le_trans (Nat.le_add_right _ _) (FsF.le_inodes f)) hc
  have hld : f.data.length ≤ 1073741824 := Nat.le_trans (Nat.le_trans (Nat.le_add_right _ _) (FsF.le_data f)) hc
  clear g0 g1 hQ hI hD hc hl hv
  by_cases h1 : f.quotas.length = 4
  · by_cases h2 : f.inodes.length = 20
    · by_cases h3 : f.data.length = 56
      · have HL1 := Lib.hid h1
        have HL2 := Lib.hid h2
        have HL3 := Lib.hid h3
        rw [h1, h2, h3]
        clear h1 h2 h3 hlq hli hld
        obtain ⟨T, hT⟩ : ∃ T, T = f.tick := ⟨_, rfl⟩
        rw [← hT]
        clear hT
        have HB0 := Lib.hid ((Below.refl w.heap.size w).alloc (Nat.le_refl _) (.cells #[.int .i64 T, .slice qa 4 qc, .slice ia 20 ic, .slice da 56 dc] 28))
        have HX0 := Lib.hid (new w #[.int .i64 T, .slice qa 4 qc, .slice ia 20 ic, .slice da 56 dc] 28)
        go_enter Tryz.func58, Tryz.ntmps58
        go_wp2
        go_loopw [28] (fun iv wr => ∃ k : Nat, k ≤ 4 ∧ iv = .int .i64 k ∧ Bk wr w.heap.size #[.int .i64 T, .slice qa 4 qc, .slice ia 20 ic, .slice da 56 dc] 28 ∧ Below w.heap.size w wr ∧ allTo quB f.quotas k = true) (fun iv _ => 4 - (intOf iv).toNat)
        case atStart => exact ⟨0, Nat.zero_le _, rfl, HX0.out, HB0.out, FsV.allTo_zero _ _⟩
        case round =>
          obtain ⟨k, hk, rfl, hx, hbel, hr⟩ := hrel
          have HB := Lib.hid hbel
          have HX := Lib.hid hx
          have HR := Lib.hid hr
          have hsz := hbel.size
          clear hx hbel hr HB0 HX0
          by_cases hlt : k < 4
          · have hkl : k < f.quotas.length := by rw [HL1.out]; exact hlt
            obtain ⟨b, o, rfl, hb, hC⟩ := HQ.out k hkl
            obtain ⟨c0, c1⟩ := hC.below hb HB.out
            have hq := FsV.allTo_succ quB f.quotas Qt.a0 k hkl
            have HNO := Lib.hid (fun h => HNQ.out (FsV.all_no (z := Qt.a0) hkl h))
            have HRQ := Lib.hid hq
            clear hC hq hkl
            generalize f.quotas.getD k Qt.a0 = q at c0 c1 HNO HRQ
            have HN := Lib.hid (HB.out.alloc hsz (.cells #[.int .i64 q.1, .int .i64 q.2] 51))
            have HXN := Lib.hid (HX.out.alloc (.cells #[.int .i64 q.1, .int .i64 q.2] 51))
            go_wp2_with fail
            refine (quota_impl q _).mono ?_
            rintro e w1 ⟨rfl, hb1⟩
            replace HN := Lib.hid (HN.out.trans (hb1.mono HN.out.size))
            replace HXN := Lib.hid (HXN.out.all hb1)
            clear hb1 c0 c1
            cases hq : quB q
            · have HF := Lib.hid (HNO.out hq)
              clear hq
              go_wp2
              go_ret
              exact ⟨ret_bool HF.out.symm, HN.out⟩
            · have HS := Lib.hid (show allTo quB f.quotas (k + 1) = true by rw [HRQ.out, HR.out, hq]; rfl)
              clear hq
              go_wp2
              go_roundw
              case rel => exact ⟨k + 1, by omega, by go_num, HXN.out, HN.out, HS.out⟩
              case measure => simp [intOf]; omega
          · obtain rfl : k = 4 := by omega
            rw [show ((4 : Nat) : Int) = 4 from rfl]
            have HQA := Lib.hid (show f.quotas.all quB = true by rw [← FsV.allTo_end quB f.quotas 4 HL1.out.symm]; exact HR.out)
            obtain ⟨x0, x1, x2, x3⟩ := Bk.c4 HX.out
            go_wp2
            clear x0 x1 x2 x3
            go_loopw [39] (fun iv wr => ∃ k : Nat, k ≤ 20 ∧ iv = .int .i64 k ∧ Bk wr w.heap.size #[.int .i64 T, .slice qa 4 qc, .slice ia 20 ic, .slice da 56 dc] 28 ∧ Below w.heap.size w wr ∧ allTo InoV.okI f.inodes k = true) (fun iv _ => 20 - (intOf iv).toNat)
            case atStart => exact ⟨0, Nat.zero_le _, rfl, HX.out, HB.out, FsV.allTo_zero _ _⟩
            case round =>
              obtain ⟨k, hk, rfl, hx, hbel, hr⟩ := hrel
              replace HB := Lib.hid hbel
              replace HX := Lib.hid hx
              replace HR := Lib.hid hr
              have hsz := hbel.size
              clear hx hbel hr
              by_cases hlt : k < 20
              · have hkl : k < f.inodes.length := by rw [HL2.out]; exact hlt
                obtain ⟨b, o, rfl, hb, r0, r1, r2, hC, hP⟩ := HI.out k hkl
                have HP := Lib.hid (IF.parts_holds (IF.parts_below hP HB.out))
                obtain ⟨p0, p1, p2⟩ := hP
                obtain ⟨a0, d0, rfl⟩ := NiF.form p0
                obtain ⟨a1, d1, rfl⟩ := AeF.form p1
                obtain ⟨a2, d2, rfl⟩ := AeF.form p2
                obtain ⟨c0, c1, c2, c3, c4, c5, c6, c7, c8, c9⟩ := hC.below hb HB.out
                have hq := FsV.allTo_succ InoV.okI f.inodes IF.z0 k hkl
                have HNO := Lib.hid (fun h => HNI.out (FsV.all_no (z := IF.z0) hkl h))
                have HRQ := Lib.hid hq
                have hcx := HCA.out k hkl
                have HLX := Lib.hid (HLA.out k hkl)
                clear hC p0 p1 p2 hq hkl
                rw [show InoV.zero = IF.z0 from rfl] at hcx HLX
                generalize f.inodes.getD k IF.z0 = n at c0 c1 c2 c3 c4 c5 c6 c7 c8 c9 HNO HRQ hcx HLX HP
                have HN := Lib.hid (HB.out.alloc hsz (.cells #[.int .i64 n.kind, .int .i64 n.mode, .int .i64 n.uid, .int .i64 n.gid, .int .i64 n.links, .int .i64 n.size, .int .i64 n.tick, .slice a0 n.blocks.length d0, .slice a1 n.acl.length d1, .slice a2 n.dflt.length d2] 47))
                have HXN := Lib.hid (HX.out.alloc (.cells #[.int .i64 n.kind, .int .i64 n.mode, .int .i64 n.uid, .int .i64 n.gid, .int .i64 n.links, .int .i64 n.size, .int .i64 n.tick, .slice a0 n.blocks.length d0, .slice a1 n.acl.length d1, .slice a2 n.dflt.length d2] 47))
                have HPN := Lib.hid (In.holds_below HP.out ((Below.refl wr.heap.size wr).alloc (Nat.le_refl _) (.cells #[.int .i64 n.kind, .int .i64 n.mode, .int .i64 n.uid, .int .i64 n.gid, .int .i64 n.links, .int .i64 n.size, .int .i64 n.tick, .slice a0 n.blocks.length d0, .slice a1 n.acl.length d1, .slice a2 n.dflt.length d2] 47)))
                go_wp2_with fail
                refine (InOk.is_any _ _ n hcx HLX.out.blocks.2 (HV.out.all HN.out) HPN.out).mono ?_
                rintro e w1 ⟨rfl, hb1⟩
                replace HN := Lib.hid (HN.out.trans (hb1.mono HN.out.size))
                replace HXN := Lib.hid (HXN.out.all hb1)
                clear hb1 c0 c1 c2 c3 c4 c5 c6 c7 c8 c9
                cases hq : InoV.okI n
                · have HF := Lib.hid (HNO.out hq)
                  clear hq
                  go_wp2
                  go_ret
                  exact ⟨ret_bool HF.out.symm, HN.out⟩
                · have HS := Lib.hid (show allTo InoV.okI f.inodes (k + 1) = true by rw [HRQ.out, HR.out, hq]; rfl)
                  clear hq
                  go_wp2
                  go_roundw
                  case rel => exact ⟨k + 1, by omega, by go_num, HXN.out, HN.out, HS.out⟩
                  case measure => simp [intOf]; omega
              · obtain rfl : k = 20 := by omega
                rw [show ((20 : Nat) : Int) = 20 from rfl]
                have HIA := Lib.hid (show f.inodes.all InoV.okI = true by rw [← FsV.allTo_end InoV.okI f.inodes 20 HL2.out.symm]; exact HR.out)
                obtain ⟨x0, x1, x2, x3⟩ := Bk.c4 HX.out
                go_wp2
                clear x0 x1 x2 x3
                go_loopw [50] (fun iv wr => ∃ k : Nat, k ≤ 56 ∧ iv = .int .i64 k ∧ Below w.heap.size w wr ∧ allTo (fun s => decide (s.size = 32)) f.data k = true) (fun iv _ => 56 - (intOf iv).toNat)
                case atStart => exact ⟨0, Nat.zero_le _, rfl, HB.out, FsV.allTo_zero _ _⟩
                case round =>
                  obtain ⟨k, hk, rfl, hbel, hr⟩ := hrel
                  replace HB := Lib.hid hbel
                  replace HR := Lib.hid hr
                  clear hbel hr HX
                  by_cases hlt : k < 56
                  · have hkl : k < f.data.length := by rw [HL3.out]; exact hlt
                    obtain ⟨b, o, rfl, hb, c0⟩ := HD.out k hkl
                    rw [← HB.out.cell (p := ⟨b, _, none⟩) hb] at c0
                    have hq := FsV.allTo_succ (fun s => decide (s.size = 32)) f.data ⟨#[]⟩ k hkl
                    have HNO := Lib.hid (fun h => HND.out (FsV.all_no (z := ⟨#[]⟩) hkl h))
                    have HRQ := Lib.hid hq
                    have hcx := HSA.out k hkl
                    clear hq hkl
                    generalize f.data.getD k ⟨#[]⟩ = s at c0 HNO HRQ hcx
                    unfold maxLen at hcx
                    by_cases hs : s.size = 32
                    · have HS := Lib.hid (show allTo (fun s => decide (s.size = 32)) f.data (k + 1) = true by rw [HRQ.out, HR.out, decide_eq_true hs]; rfl)
                      have q1 : ((s.size : Int) != 32) = false := by simp [hs]
                      have q2 : ((s.size : Int) == 32) = true := by simp [hs]
                      clear hs
                      go_wp2
                      go_roundw
                      case rel => exact ⟨k + 1, by omega, by go_num, HB.out, HS.out⟩
                      case measure => simp [intOf]; omega
                    · have HF := Lib.hid (HNO.out (decide_eq_false hs))
                      have q1 : ((s.size : Int) != 32) = true := by simp; omega
                      have q2 : ((s.size : Int) == 32) = false := by simp; omega
                      clear hs
                      go_wp2
                      go_ret
                      exact ⟨ret_bool HF.out.symm, HB.out⟩
                  · obtain rfl : k = 56 := by omega
                    have HF := Lib.hid (FsV.parts_mk HL1.out HL2.out HL3.out HQA.out HIA.out (by rw [← FsV.allTo_end (fun s => decide (s.size = 32)) f.data 56 HL3.out.symm]; exact HR.out))
                    go_wp2
                    go_ret
                    exact ⟨ret_bool HF.out.symm, HB.out⟩
      · have HF := Lib.hid (show partsB f = false by simp [partsB, h3])
        rw [h1, h2]
        have q1 : ((f.data.length : Int) != 56) = true := by simp; omega
        have q2 : ((f.data.length : Int) == 56) = false := by simp; omega
        clear h1 h2 h3
        generalize f.data.length = M at *
        go_enter Tryz.func58, Tryz.ntmps58
        go_wp2
        go_ret
        exact ⟨ret_bool HF.out.symm, (Below.refl w.heap.size w).alloc (Nat.le_refl _) _⟩
    · have HF := Lib.hid (show partsB f = false by simp [partsB, h2])
      rw [h1]
      have q1 : ((f.inodes.length : Int) != 20) = true := by simp; omega
      have q2 : ((f.inodes.length : Int) == 20) = false := by simp; omega
      clear h1 h2
      generalize f.inodes.length = M at *
      generalize f.data.length = M2 at *
      go_enter Tryz.func58, Tryz.ntmps58
      go_wp2
      go_ret
      exact ⟨ret_bool HF.out.symm, (Below.refl w.heap.size w).alloc (Nat.le_refl _) _⟩
  · have HF := Lib.hid (show partsB f = false by simp [partsB, h1])
    have q1 : ((f.quotas.length : Int) != 4) = true := by simp; omega
    have q2 : ((f.quotas.length : Int) == 4) = false := by simp; omega
    clear h1
    generalize f.quotas.length = M0 at *
    generalize f.inodes.length = M at *
    generalize f.data.length = M2 at *
    go_enter Tryz.func58, Tryz.ntmps58
    go_wp2
    go_ret
    exact ⟨ret_bool HF.out.symm, (Below.refl w.heap.size w).alloc (Nat.le_refl _) _⟩
end Go.Proofs.YtmljjdglmlnbaaaGreatDoor.FsP

-- YtmljjdglmlnbaaaGreatDoorFsU
/- Contracts: the program's blocksInUse (a map that has each block in use) and haveOwnBlocks. Conditions: as each theorem types them. -/
namespace Go.Proofs.YtmljjdglmlnbaaaGreatDoor.FsU
open Go.ChangeShapes Go.WideShapes Go.ChangeAt Go.RowKit
open Foot Bx
open InoV (I usedV hasB)
open FsV (F allB pre goB ownB oneB ownerV)
open Dk (ret_bool)
open MpB (Is)
set_option linter.unusedVariables false

theorem allB_len (l : List I) : (allB l).length ≤ IF.csum l := by
  induction l with
  | nil => exact Nat.le_refl _
  | cons n r ih =>
    have h1 : allB (n :: r) = usedV n.blocks ++ allB r := rfl
    have h2 : IF.csum (n :: r) = In.cost n + IF.csum r := by simp [IF.csum]
    have h3 := InEq.used_len n.blocks
    have h4 : n.blocks.length ≤ In.cost n := In.le_blocks n
    rw [h1, h2, List.length_append]; omega
theorem seen_len (l : List I) (i j : Nat) (hi : i < l.length) : (FsV.seen l i j).length ≤ IF.csum l := by
  have h1 : (FsV.seen l i j).length ≤ (allB (l.take (i + 1))).length := by
    rw [FsV.take_snoc l InoV.zero i hi, FsV.all_app, List.length_append, FsV.seen, List.length_append, List.length_take]
    simp [allB]; omega
  have h2 := allB_len (l.take (i + 1))
  have h3 := IF.csum_le l (i + 1)
  omega
theorem used_mem {l : List Int} {x : Int} (h : x ∈ usedV l) : x ∈ l := (List.mem_filter.1 h).1
/-- What stands at a place of a row of ints that the call owns. -/
theorem row_at {w : World} {base : Nat} {a : Option Addr} {c : Nat} {l : List Int} {S : List Nat} (h : NiF.Own w base (.slice a l.length c) l S) (j : Nat) (hj : j < l.length) : ∃ b o, a = some ⟨b, o, none⟩ ∧ w.cell? ⟨b, o + j, none⟩ = some (.int .i64 (l.getD j 0)) := by
  obtain ⟨a', c', e, _, hc⟩ := NiF.own_holds h
  rw [Value.slice.injEq] at e
  obtain ⟨rfl, _, rfl⟩ := e
  obtain ⟨b, o, e, _, hcell⟩ := hc j hj
  exact ⟨b, o, e, hcell⟩

set_option maxRecDepth 100000 in
set_option maxHeartbeats 3200000 in
theorem inuse_any (w : World) (v : Value) (l : List I) (hc : IF.cost l ≤ 1073741824) (hl : IF.Lim l) (h : IF.Holds w v l) :
    Calls Tryz.prog 72 #[v] w fun e w' => ∃ n, e = .returned (.map (some w.heap.size)) ∧ Is w' w.heap.size n (hasB (allB l)) ∧ Below w.heap.size w w' := by
  obtain ⟨a, cap, rfl, hle, hat⟩ := IF.atL h
  have HC := Lib.hid hat
  have hlen : l.length ≤ 1073741824 := Nat.le_trans (Nat.le_add_right _ _) hc
  have hcs : IF.csum l ≤ 1073741824 := Nat.le_trans (Nat.le_add_left _ _) hc
  have HLM := Lib.hid hl.2
  have HCA := Lib.hid (fun i (hi : i < l.length) => Nat.le_trans (IF.cost_at hi) hcs)
  have HSL := Lib.hid (fun i j hi => Nat.le_trans (seen_len l i j hi) hcs)
  obtain ⟨M, hM⟩ : ∃ M, M = l.length := ⟨_, rfl⟩
  rw [← hM] at hlen hle ⊢
  have HM := Lib.hid hM
  clear hM hat h hc hl hcs
  have HS0 := Lib.hid (show (fun _ => false) = hasB (FsV.seen l 0 0) from by funext x; rfl)
  have HBW := Lib.hid ((Below.refl w.heap.size w).alloc (Nat.le_refl _) (.map #[] 0))
  have HI0 := Lib.hid (MpB.made w)
  have hmm := @run_makeMap Tryz.prog
  go_enter Tryz.func72, Tryz.ntmps72
  go_wp2
  go_loopw [11] (fun iv wr => ∃ i : Nat, i ≤ M ∧ iv = .int .i64 i ∧ Is wr w.heap.size (FsV.seen l i 0).length (hasB (FsV.seen l i 0)) ∧ Below w.heap.size w wr) (fun iv _ => M - (intOf iv).toNat)
  case atStart => exact ⟨0, Nat.zero_le _, rfl, by rw [← HS0.out]; exact HI0.out, HBW.out⟩
  case round =>
    obtain ⟨i, hi, rfl, his, hbel⟩ := hrel
    have HB := Lib.hid hbel
    have HI := Lib.hid his
    have hsz := hbel.size
    clear his hbel HBW HI0 hmm
    by_cases hlt : i < M
    · have hlx : i < l.length := by rw [← HM.out]; exact hlt
      obtain ⟨b, o, rfl, hb, r0, r1, r2, hC, hP⟩ := HC.out i hlx
      have HP := Lib.hid (IF.parts_holds (IF.parts_below hP HB.out))
      obtain ⟨p0, p1, p2⟩ := hP
      obtain ⟨a0, d0, rfl⟩ := NiF.form p0
      obtain ⟨a1, d1, rfl⟩ := AeF.form p1
      obtain ⟨a2, d2, rfl⟩ := AeF.form p2
      obtain ⟨c0, c1, c2, c3, c4, c5, c6, c7, c8, c9⟩ := hC.below hb HB.out
      clear hC p0 p1 p2
      have hcx := HCA.out i hlx
      have HRX := Lib.hid (HLM.out _ (IF.mem_getD hlx)).blocks.2
      have HEND := Lib.hid (FsV.seen_end l i hlx)
      have HSN := Lib.hid (FsV.seen_snoc l i)
      have HSB := Lib.hid (fun j => HSL.out i j hlx)
      rw [show InoV.zero = IF.z0 from rfl] at HEND HSN
      generalize l.getD i IF.z0 = n at c0 c1 c2 c3 c4 c5 c6 c7 c8 c9 HP hcx HRX HEND HSN
      have hbl : n.blocks.length ≤ 1073741824 := Nat.le_trans (In.le_blocks n) hcx
      have HN := Lib.hid (HB.out.alloc hsz (.cells #[.int .i64 n.kind, .int .i64 n.mode, .int .i64 n.uid, .int .i64 n.gid, .int .i64 n.links, .int .i64 n.size, .int .i64 n.tick, .slice a0 n.blocks.length d0, .slice a1 n.acl.length d1, .slice a2 n.dflt.length d2] 47))
      have HIN := Lib.hid (HI.out.alloc (.cells #[.int .i64 n.kind, .int .i64 n.mode, .int .i64 n.uid, .int .i64 n.gid, .int .i64 n.links, .int .i64 n.size, .int .i64 n.tick, .slice a0 n.blocks.length d0, .slice a1 n.acl.length d1, .slice a2 n.dflt.length d2] 47))
      have HPN := Lib.hid (In.holds_below HP.out ((Below.refl wr.heap.size wr).alloc (Nat.le_refl _) (.cells #[.int .i64 n.kind, .int .i64 n.mode, .int .i64 n.uid, .int .i64 n.gid, .int .i64 n.links, .int .i64 n.size, .int .i64 n.tick, .slice a0 n.blocks.length d0, .slice a1 n.acl.length d1, .slice a2 n.dflt.length d2] 47)))
      go_wp2_with fail
      refine (InEq.used_impl _ _ n hbl HPN.out).mono ?_
      rintro e w1 ⟨y, S, rfl, hown, hb1⟩
      obtain ⟨ya, yc, rfl⟩ := NiF.own_form hown
      have hs1 := hb1.size
      have hbs := HIN.out.lt
      simp only [World.size_alloc] at hs1 hbs
      have HO := Lib.hid (NiF.own_mono hown (show w.heap.size + 1 ≤ _ by simp only [World.size_alloc]; omega))
      replace HN := Lib.hid (HN.out.trans (hb1.mono HN.out.size))
      replace HIN := Lib.hid (HIN.out.below hb1)
      have HUM := Lib.hid (fun x (hx : x ∈ usedV n.blocks) => HRX.out x (used_mem hx))
      obtain ⟨ul, hul⟩ : ∃ ul, ul = usedV n.blocks := ⟨_, rfl⟩
      rw [← hul] at HO HEND HSN HUM ⊢
      have hul2 : ul.length ≤ 1073741824 := by rw [hul]; exact Nat.le_trans (InEq.used_len _) hbl
      obtain ⟨m, hm⟩ : ∃ m, m = ul.length := ⟨_, rfl⟩
      have HOA := Lib.hid HO.out
      rw [← hm] at HOA HEND HSN hul2 ⊢
      have HML := Lib.hid hm
      clear hown hb1 hul hm c0 c1 c2 c3 c4 c5 c6 c7 c8 c9 HO
      go_wp2
      go_loopw [18] (fun jv wq => ∃ j : Nat, j ≤ m ∧ jv = .int .i64 j ∧ Is wq w.heap.size (FsV.seen l i j).length (hasB (FsV.seen l i j)) ∧ NiF.Own wq (w.heap.size + 1) (.slice ya m yc) ul S ∧ w.heap.size < wq.heap.size ∧ Below w.heap.size w wq) (fun jv _ => m - (intOf jv).toNat)
      case atStart => exact ⟨0, Nat.zero_le _, rfl, HIN.out, HOA.out, by omega, HN.out⟩
      case round =>
        obtain ⟨j, hj, rfl, his, hown, hszq, hbel⟩ := hrel
        replace HN := Lib.hid hbel
        replace HIN := Lib.hid his
        replace HOA := Lib.hid hown
        clear his hown hbel
        by_cases hltj : j < m
        · have hjl : j < ul.length := by rw [← HML.out]; exact hltj
          have hown := HOA.out
          rw [HML.out] at hown
          obtain ⟨b2, o2, rfl, g0⟩ := row_at hown j hjl
          have hrg : Rg (ul.getD j 0) := HUM.out _ (FsV.mem_getD hjl)
          have hst := HSN.out j hltj
          have hbnd := HSB.out (j + 1)
          rw [hst, List.length_append, List.length_singleton] at hbnd
          have HST := Lib.hid hst
          clear hst hown
          generalize ul.getD j 0 = x at g0 hrg HST
          have HRG := Lib.hid hrg
          clear hrg
          go_wp2_with (at_mapUpdate; refine MpB.wpList_put _ rfl _ _ _ rfl w.heap.size _ _ rfl HIN.out ?c1 x rfl rfl HRG.out ?_)
          case c1 => unfold maxLen; omega
          intro w2 his2 hg2
          have HI2 := Lib.hid (show Is w2 w.heap.size (FsV.seen l i (j + 1)).length (hasB (FsV.seen l i (j + 1))) from by
            rw [HST.out]
            refine (his2.mono (by simp)).as fun y _ => ?_
            rw [FsV.has_snoc, Bool.or_comm]
            congr 1
            exact decide_eq_decide.2 eq_comm)
          have HO2 := Lib.hid (NiF.own_chg HOA.out (Chg.of_grown hg2) (fun z hz hz2 => by
            have h1 := NiF.own_lies HOA.out z hz
            have h2 : z = w.heap.size := by simpa using hz2
            omega))
          have hsz2 := hg2.size
          have HB2 := Lib.hid ((HN.out.grown hg2 HN.out.size (fun k hk => by cases hk; exact Nat.le_refl _)))
          clear his2 hg2
          go_wp2
          go_roundw
          case rel => exact ⟨j + 1, by omega, by go_num, HI2.out, HO2.out, by omega, HB2.out⟩
          case measure => simp [intOf]; omega
        · obtain rfl : j = m := by omega
          have HI3 := Lib.hid (show Is wr w.heap.size (FsV.seen l (i + 1) 0).length (hasB (FsV.seen l (i + 1) 0)) from by rw [← HEND.out]; exact HIN.out)
          go_wp2
          go_roundw
          case rel => exact ⟨i + 1, by omega, by go_num, HI3.out, HN.out⟩
          case measure => simp [intOf]; omega
    · obtain rfl : i = M := by omega
      have HI3 := Lib.hid (show Is wr w.heap.size (FsV.seen l i 0).length (hasB (allB l)) from by
        have := HI.out
        rw [FsV.seen_zero, List.take_of_length_le (by rw [← HM.out]; exact Nat.le_refl _)] at this
        rw [FsV.seen_zero, List.take_of_length_le (by rw [← HM.out]; exact Nat.le_refl _)]
        exact this)
      go_wp2
      go_ret
      exact ⟨_, rfl, HI3.out, HB.out⟩
end Go.Proofs.YtmljjdglmlnbaaaGreatDoor.FsU

-- YtmljjdglmlnbaaaGreatDoorFsW
/- Contract: the program's haveOwnBlocks tells whether each block in use belongs to the pool of its inode's owner, and to no other inode. Conditions: as the theorem types them. -/
namespace Go.Proofs.YtmljjdglmlnbaaaGreatDoor.FsW
open Go.ChangeShapes Go.WideShapes Go.ChangeAt Go.RowKit
open Foot Bx
open InoV (I usedV hasB)
open FsV (F allB pre goB ownB oneB ownerV)
open Dk (ret_bool)
open MpB (Is)
open FsU (row_at used_mem)
set_option linter.unusedVariables false

theorem one_of {l : List I} {i j : Nat} {u x : Int} {A B : Bool} (hA : hasB (allB l) x = true) (hs : (hasB (allB l) x && !hasB (FsV.seen l i j) x) = A) (hB : decide (ownerV x = u) = B) : oneB (FsV.seen l i j) (u, x) = (B && A) := by
  rw [oneB, ← hs, ← hB, hA]; rfl

set_option maxRecDepth 100000 in
set_option maxHeartbeats 6400000 in
theorem own_impl (w : World) (v : Value) (l : List I) (hc : IF.cost l ≤ 1073741824) (hl : IF.Lim l) (h : IF.Holds w v l) :
    Calls Tryz.prog 59 #[v] w fun e w' => e = .returned (.bool (ownB l)) ∧ Below w.heap.size w w' := by
  have HIU := Lib.hid (fun W (hb : Below w.heap.size w W) => FsU.inuse_any W v l hc hl (IF.holds_below h hb))
  obtain ⟨a, cap, rfl, hle, hat⟩ := IF.atL h
  have HC := Lib.hid hat
  have hlen : l.length ≤ 1073741824 := Nat.le_trans (Nat.le_add_right _ _) hc
  have hcs : IF.csum l ≤ 1073741824 := Nat.le_trans (Nat.le_add_left _ _) hc
  have HLM := Lib.hid hl.2
  have HCA := Lib.hid (fun i (hi : i < l.length) => Nat.le_trans (IF.cost_at hi) hcs)
  have HHA := Lib.hid (fun i j hi hj => FsV.has_at (ns := l) (i := i) (j := j) hi hj)
  have HNO := Lib.hid (fun i j hi hj => FsV.own_no l i j hi hj)
  have HST := Lib.hid (fun i j hj => FsV.own_step l i j hj)
  have HEN := Lib.hid (fun i hi => FsV.own_end l i hi)
  obtain ⟨M, hM⟩ : ∃ M, M = l.length := ⟨_, rfl⟩
  rw [← hM] at hlen hle HIU ⊢
  have HM := Lib.hid hM
  clear hM hat h hc hl hcs
  go_enter Tryz.func59, Tryz.ntmps59
  go_wp2_with fail
  refine (HIU.out _ (Below.refl _ _)).mono ?_
  rintro e w0 ⟨N, rfl, his0, hb0⟩
  have HI0 := Lib.hid (show Is w0 w.heap.size N (fun x => hasB (allB l) x && !hasB (FsV.seen l 0 0) x) from his0.as fun x _ => by rw [show hasB (FsV.seen l 0 0) x = false from rfl]; simp)
  have HB0 := Lib.hid hb0
  clear his0 hb0 HIU
  go_wp2
  go_loopw [12] (fun iv wr => ∃ i : Nat, i ≤ M ∧ iv = .int .i64 i ∧ Is wr w.heap.size N (fun x => hasB (allB l) x && !hasB (FsV.seen l i 0) x) ∧ goB [] (pre l i 0) = true ∧ Below w.heap.size w wr) (fun iv _ => M - (intOf iv).toNat)
  case atStart => exact ⟨0, Nat.zero_le _, rfl, HI0.out, rfl, HB0.out⟩
  case round =>
    obtain ⟨i, hi, rfl, his, hgo, hbel⟩ := hrel
    have HB := Lib.hid hbel
    have HI := Lib.hid his
    have HG := Lib.hid hgo
    have hsz := hbel.size
    clear his hbel hgo HI0 HB0
    by_cases hlt : i < M
    · have hlx : i < l.length := by rw [← HM.out]; exact hlt
      obtain ⟨b, o, rfl, hb, r0, r1, r2, hC, hP⟩ := HC.out i hlx
      have HP := Lib.hid (IF.parts_holds (IF.parts_below hP HB.out))
      obtain ⟨p0, p1, p2⟩ := hP
      obtain ⟨a0, d0, rfl⟩ := NiF.form p0
      obtain ⟨a1, d1, rfl⟩ := AeF.form p1
      obtain ⟨a2, d2, rfl⟩ := AeF.form p2
      obtain ⟨c0, c1, c2, c3, c4, c5, c6, c7, c8, c9⟩ := hC.below hb HB.out
      clear hC p0 p1 p2
      have hcx := HCA.out i hlx
      have HRX := Lib.hid (HLM.out _ (IF.mem_getD hlx)).blocks.2
      have HE1 := Lib.hid (FsV.seen_end l i hlx)
      have HE2 := Lib.hid (FsV.pre_end l i hlx)
      have HSN := Lib.hid (FsV.seen_snoc l i)
      have HNI := Lib.hid (fun j hj => HNO.out i j hlx hj)
      have HSI := Lib.hid (fun j hj => HST.out i j hj)
      have HHI := Lib.hid (fun j hj => HHA.out i j hlx hj)
      rw [show InoV.zero = IF.z0 from rfl] at HE1 HE2 HSN HNI HSI HHI
      generalize l.getD i IF.z0 = n at c0 c1 c2 c3 c4 c5 c6 c7 c8 c9 HP hcx HRX HE1 HE2 HSN HNI HSI HHI
      have hbl : n.blocks.length ≤ 1073741824 := Nat.le_trans (In.le_blocks n) hcx
      have HN := Lib.hid (HB.out.alloc hsz (.cells #[.int .i64 n.kind, .int .i64 n.mode, .int .i64 n.uid, .int .i64 n.gid, .int .i64 n.links, .int .i64 n.size, .int .i64 n.tick, .slice a0 n.blocks.length d0, .slice a1 n.acl.length d1, .slice a2 n.dflt.length d2] 47))
      have HIN := Lib.hid (HI.out.alloc (.cells #[.int .i64 n.kind, .int .i64 n.mode, .int .i64 n.uid, .int .i64 n.gid, .int .i64 n.links, .int .i64 n.size, .int .i64 n.tick, .slice a0 n.blocks.length d0, .slice a1 n.acl.length d1, .slice a2 n.dflt.length d2] 47))
      have HPN := Lib.hid (In.holds_below HP.out ((Below.refl wr.heap.size wr).alloc (Nat.le_refl _) (.cells #[.int .i64 n.kind, .int .i64 n.mode, .int .i64 n.uid, .int .i64 n.gid, .int .i64 n.links, .int .i64 n.size, .int .i64 n.tick, .slice a0 n.blocks.length d0, .slice a1 n.acl.length d1, .slice a2 n.dflt.length d2] 47)))
      have HXN := Lib.hid (new wr #[.int .i64 n.kind, .int .i64 n.mode, .int .i64 n.uid, .int .i64 n.gid, .int .i64 n.links, .int .i64 n.size, .int .i64 n.tick, .slice a0 n.blocks.length d0, .slice a1 n.acl.length d1, .slice a2 n.dflt.length d2] 47)
      go_wp2_with fail
      refine (InEq.used_impl _ _ n hbl HPN.out).mono ?_
      rintro e w1 ⟨y, S, rfl, hown, hb1⟩
      obtain ⟨ya, yc, rfl⟩ := NiF.own_form hown
      have hs1 := hb1.size
      have hbs := HIN.out.lt
      have hbs0 := HI.out.lt
      simp only [World.size_alloc] at hs1 hbs
      have HO := Lib.hid (NiF.own_mono hown (show w.heap.size + 1 ≤ _ by simp only [World.size_alloc]; omega))
      replace HN := Lib.hid (HN.out.trans (hb1.mono HN.out.size))
      replace HIN := Lib.hid (HIN.out.below hb1)
      replace HXN := Lib.hid (HXN.out.all hb1)
      have HUM := Lib.hid (fun x (hx : x ∈ usedV n.blocks) => HRX.out x (used_mem hx))
      obtain ⟨ul, hul⟩ : ∃ ul, ul = usedV n.blocks := ⟨_, rfl⟩
      rw [← hul] at HO HE1 HE2 HSN HUM HNI HSI HHI ⊢
      have hul2 : ul.length ≤ 1073741824 := by rw [hul]; exact Nat.le_trans (InEq.used_len _) hbl
      obtain ⟨m, hm⟩ : ∃ m, m = ul.length := ⟨_, rfl⟩
      have HOA := Lib.hid HO.out
      rw [← hm] at HOA HE1 HE2 HSN HNI HSI HHI hul2 ⊢
      have HML := Lib.hid hm
      obtain ⟨W1, hW1⟩ : ∃ W1, W1 = wr.heap.size := ⟨_, rfl⟩
      rw [← hW1] at HXN ⊢
      have hbx : w.heap.size < W1 := by omega
      have hbx1 : W1 < w1.heap.size := by omega
      clear hown hb1 hul hm c0 c1 c2 c3 c4 c5 c6 c7 c8 c9 HO hW1
      go_wp2
      go_loopw [19] (fun jv wq => ∃ j : Nat, j ≤ m ∧ jv = .int .i64 j ∧ Is wq w.heap.size N (fun x => hasB (allB l) x && !hasB (FsV.seen l i j) x) ∧ goB [] (pre l i j) = true ∧ NiF.Own wq (w.heap.size + 1) (.slice ya m yc) ul S ∧ Bk wq W1 #[.int .i64 n.kind, .int .i64 n.mode, .int .i64 n.uid, .int .i64 n.gid, .int .i64 n.links, .int .i64 n.size, .int .i64 n.tick, .slice a0 n.blocks.length d0, .slice a1 n.acl.length d1, .slice a2 n.dflt.length d2] 47 ∧ W1 < wq.heap.size ∧ Below w.heap.size w wq) (fun jv _ => m - (intOf jv).toNat)
      case atStart => exact ⟨0, Nat.zero_le _, rfl, HIN.out, HG.out, HOA.out, HXN.out, hbx1, HN.out⟩
      case round =>
        obtain ⟨j, hj, rfl, his, hgo, hown, hxn, hszq, hbel⟩ := hrel
        replace HN := Lib.hid hbel
        replace HIN := Lib.hid his
        replace HOA := Lib.hid hown
        replace HG := Lib.hid hgo
        replace HXN := Lib.hid hxn
        clear his hown hbel hgo hxn hbx1
        by_cases hltj : j < m
        · have hjl : j < ul.length := by rw [← HML.out]; exact hltj
          have hown := HOA.out
          rw [HML.out] at hown
          obtain ⟨b2, o2, rfl, g0⟩ := row_at hown j hjl
          have hrg : Rg (ul.getD j 0) := HUM.out _ (FsV.mem_getD hjl)
          have HSJ := Lib.hid (HSN.out j hltj)
          have HNJ := Lib.hid (HNI.out j hltj)
          have HSK := Lib.hid (HSI.out j hltj HG.out)
          have HHJ := Lib.hid (HHI.out j hltj)
          clear hown
          generalize ul.getD j 0 = x at g0 hrg HSJ HNJ HSK HHJ
          have HRG := Lib.hid hrg
          clear hrg
          obtain ⟨A, hA⟩ : ∃ A, (hasB (allB l) x && !hasB (FsV.seen l i j) x) = A := ⟨_, rfl⟩
          have HA := Lib.hid hA
          clear hA
          have hu2 := Fam.cell (W := wr) (p := ⟨W1, 2, none⟩) hszq (show _ = some (.int .i64 n.uid) from HXN.out.cell 2)
          have HOW := Lib.hid (fun W => FsO.owner_impl x W)
          have hlk : ∀ q : Fam.Ix wr, (Instr.lookup 66 (.map (some w.heap.size)) (.int .i64 x) false).run Tryz.prog (Fam.wld wr q) = .ok (.bool A) (Fam.wld wr q) := fun q => by
            rw [← HA.out]; exact (HIN.out.below (Fam.wld_below wr q)).look HRG.out
          obtain ⟨B, hB⟩ : ∃ B, decide (ownerV x = n.uid) = B := ⟨_, rfl⟩
          have HOB := Lib.hid hB
          have hB1 : (ownerV x == n.uid) = B := by rw [← hB]; by_cases hh : ownerV x = n.uid <;> simp [hh]
          have hB2 : (ownerV x != n.uid) = !B := by rw [bne, hB1]
          clear hB
          go_wp2
          refine Fam.region (by kernel_rfl) (by kernel_rfl) ?_
          cases A
          · repeat (go_big_quiet_step (first | (go_at_call 89; with_reducible refine Fam.calls_same (HOW.out _))))
            refine wpQuiet_nil ?_
            intro _ hw'
            obtain ⟨nq, hw''⟩ := hw'
            subst hw''
            have hbq := Fam.wld_below _ nq
            generalize Fam.wld _ nq = w9 at hbq ⊢
            have HF := Lib.hid (HNJ.out (by rw [one_of HHJ.out HA.out HOB.out]; simp))
            have HB9 := Lib.hid (HN.out.trans (hbq.mono HN.out.size))
            clear hbq hu2 hlk g0
            go_wp2
            go_ret
            exact ⟨ret_bool HF.out.symm, HB9.out⟩
          · cases B
            · repeat (go_big_quiet_step (first | (go_at_call 89; with_reducible refine Fam.calls_same (HOW.out _))))
              refine wpQuiet_nil ?_
              intro _ hw'
              obtain ⟨nq, hw''⟩ := hw'
              subst hw''
              have hbq := Fam.wld_below _ nq
              generalize Fam.wld _ nq = w9 at hbq ⊢
              have HF := Lib.hid (HNJ.out (by rw [one_of HHJ.out HA.out HOB.out]; simp))
              have HB9 := Lib.hid (HN.out.trans (hbq.mono HN.out.size))
              clear hbq hu2 hlk g0
              go_wp2
              go_ret
              exact ⟨ret_bool HF.out.symm, HB9.out⟩
            · repeat (go_big_quiet_step (first | (go_at_call 89; with_reducible refine Fam.calls_same (HOW.out _))))
              refine wpQuiet_nil ?_
              intro _ hw'
              obtain ⟨nq, hw''⟩ := hw'
              subst hw''
              have hbq := Fam.wld_below _ nq
              generalize Fam.wld _ nq = w9 at hbq ⊢
              have HS := Lib.hid (HSK.out (by rw [one_of HHJ.out HA.out HOB.out]; rfl))
              have HB9 := Lib.hid (HN.out.trans (hbq.mono HN.out.size))
              have HI9 := Lib.hid (HIN.out.below hbq)
              have HO9 := Lib.hid (NiF.own_below HOA.out hbq)
              have HX9 := Lib.hid (HXN.out.all hbq)
              have hs9 := hbq.size
              clear hbq hu2 hlk g0 hB1 hB2
              go_wp2_with (at_delete; refine MpB.wpList_del _ rfl _ _ rfl w.heap.size _ _ rfl HI9.out x rfl HRG.out ?_)
              intro w2 his2 hg2
              have HI2 := Lib.hid (show Is w2 w.heap.size N (fun y => hasB (allB l) y && !hasB (FsV.seen l i (j + 1)) y) from his2.as fun y _ => by
                rw [HSJ.out, FsV.has_snoc]
                by_cases hyx : y = x
                · subst hyx; simp
                · have : ¬ x = y := fun e => hyx e.symm
                  simp [hyx, this])
              have HO2 := Lib.hid (NiF.own_chg HO9.out (Chg.of_grown hg2) (fun z hz hz2 => by
                have h1 := NiF.own_lies HO9.out z hz
                have h2 : z = w.heap.size := by simpa using hz2
                omega))
              have HX2 := Lib.hid (HX9.out.grown hg2 (by simp; omega))
              have hsz2 := hg2.size
              have HB2 := Lib.hid ((HB9.out.grown hg2 HB9.out.size (fun k hk => by cases hk; exact Nat.le_refl _)))
              clear his2 hg2
              go_wp2
              go_roundw
              case rel => exact ⟨j + 1, by omega, by go_num, HI2.out, HS.out, HO2.out, HX2.out, by omega, HB2.out⟩
              case measure => simp [intOf]; omega
        · obtain rfl : j = m := by omega
          have HI3 := Lib.hid (show Is wr w.heap.size N (fun x => hasB (allB l) x && !hasB (FsV.seen l (i + 1) 0) x) from by rw [← HE1.out]; exact HIN.out)
          have HG3 := Lib.hid (show goB [] (pre l (i + 1) 0) = true from by rw [← HE2.out]; exact HG.out)
          go_wp2
          go_roundw
          case rel => exact ⟨i + 1, by omega, by go_num, HI3.out, HG3.out, HN.out⟩
          case measure => simp [intOf]; omega
    · obtain rfl : i = M := by omega
      have HF := Lib.hid (HEN.out i HM.out HG.out)
      go_wp2
      go_ret
      exact ⟨ret_bool HF.out.symm, HB.out⟩
end Go.Proofs.YtmljjdglmlnbaaaGreatDoor.FsW

-- YtmljjdglmlnbaaaGreatDoorFsB
/- Contract: the program's beyondSize gives what the last block of an inode has beyond its size. Conditions: as the theorem types them. -/
namespace Go.Proofs.YtmljjdglmlnbaaaGreatDoor.FsB
open Go.ChangeShapes Go.WideShapes Go.ChangeAt Go.RowKit
open Foot Bx
open InoV (I usedV hasB needV)
open FsV (F allB ownB beyond zB freeB elseB okF partsB tickB rootB allTo rangeTo)
open Dk (ret_bool)
open MpB (Is)
set_option linter.unusedVariables false

theorem ret_str {a b : ByteArray} (h : a = b) : Ending.returned (.string a) = .returned (.string b) := by rw [h]
/-- What is asked of an inode for its last block to be looked at. -/
structure Fit (f : F) (n : I) : Prop where
  len : f.data.length = 56
  size : ∀ s ∈ f.data, s.size = 32
  need : (n.blocks.length : Int) = needV n.size
  lo : 0 ≤ n.size
  hi : n.size ≤ 256
  blk : ∀ b ∈ n.blocks, b = -1 ∨ (0 ≤ b ∧ b ≤ 55)
theorem Fit.x {f : F} {n : I} (h : Fit f n) {L : Nat} (hL : n.blocks.length = L + 1) : ∃ X : Nat, n.size = (X : Int) + (L : Int) * 32 ∧ X ≤ 32 ∧ L ≤ 7 := by
  have h1 := h.need
  have h2 := h.lo
  have h3 := h.hi
  rw [hL] at h1
  unfold needV at h1
  split at h1
  · omega
  · exact ⟨(n.size - (L : Int) * 32).toNat, by omega, by omega, by omega⟩
theorem beyond_none {f : F} {n : I} (h : n.blocks.length = 0) : beyond f n = ⟨#[]⟩ := by rw [beyond, if_pos h]; rfl
theorem beyond_hole {f : F} {n : I} {L : Nat} (hL : n.blocks.length = L + 1) (h : n.blocks.getD L 0 = -1) : beyond f n = ⟨#[]⟩ := by
  rw [beyond, if_neg (by omega), hL, Nat.add_sub_cancel, if_pos h]; rfl
theorem beyond_at {f : F} {n : I} {L X k : Nat} (hL : n.blocks.length = L + 1) (h : n.blocks.getD L 0 = (k : Int)) (hx : n.size = (X : Int) + (L : Int) * 32) : beyond f n = (f.data.getD k ⟨#[]⟩).extract X 32 := by
  rw [beyond, if_neg (by omega), hL, Nat.add_sub_cancel, if_neg (by omega), h, hx, show ((k : Int)).toNat = k from rfl, show ((X : Int) + (L : Int) * 32 - (((L + 1 : Nat) : Int) - 1) * 32).toNat = X from by omega]; rfl

set_option maxRecDepth 100000 in
set_option maxHeartbeats 3200000 in
theorem beyond_impl (w : World) (vf vn : Value) (f : F) (n : I) (hF : FsF.Holds w vf f) (hN : In.Holds w vn n) (hfit : Fit f n) :
    Calls Tryz.prog 91 #[vf, vn] w fun e w' => e = .returned (.string (beyond f n)) ∧ Below w.heap.size w w' := by
  obtain ⟨r0, r1, r2, rfl, g0, g1, g2⟩ := hF
  obtain ⟨qa, qc, rfl⟩ := QF.form g0
  obtain ⟨ia, ic, rfl⟩ := IF.form g1
  obtain ⟨da, dc, rfl, hD⟩ := g2
  obtain ⟨s0, s1, s2, rfl, k0, k1, k2⟩ := hN
  obtain ⟨a, c, rfl, _, hB⟩ := k0
  obtain ⟨a1, d1, rfl⟩ := AeF.form k1
  obtain ⟨a2, d2, rfl⟩ := AeF.form k2
  have HD := Lib.hid (show ∀ i, i < f.data.length → ∃ b o, da = some ⟨b, o, none⟩ ∧ b < w.heap.size ∧ w.cell? ⟨b, o + i, none⟩ = some (.string (f.data.getD i ⟨#[]⟩)) from fun i hi => by
    obtain ⟨b, o, e, hlt, hcell⟩ := hD (by intro e; rw [e] at hi; simp at hi)
    exact ⟨b, o, e, hlt, hcell i hi⟩)
  have HBL := Lib.hid hB
  have HFIT := Lib.hid hfit
  clear g0 g1 hD k1 k2 hB hfit
  have HB0 := Lib.hid (((Below.refl w.heap.size w).alloc (Nat.le_refl _) (.cells #[.int .i64 f.tick, .slice qa f.quotas.length qc, .slice ia f.inodes.length ic, .slice da f.data.length dc] 28)).alloc (by simp) (.cells #[.int .i64 n.kind, .int .i64 n.mode, .int .i64 n.uid, .int .i64 n.gid, .int .i64 n.links, .int .i64 n.size, .int .i64 n.tick, .slice a n.blocks.length c, .slice a1 n.acl.length d1, .slice a2 n.dflt.length d2] 47))
  have HX := Lib.hid ((new w #[.int .i64 f.tick, .slice qa f.quotas.length qc, .slice ia f.inodes.length ic, .slice da f.data.length dc] 28).alloc (.cells #[.int .i64 n.kind, .int .i64 n.mode, .int .i64 n.uid, .int .i64 n.gid, .int .i64 n.links, .int .i64 n.size, .int .i64 n.tick, .slice a n.blocks.length c, .slice a1 n.acl.length d1, .slice a2 n.dflt.length d2] 47))
  have HY := Lib.hid (new_at (w.alloc (.cells #[.int .i64 f.tick, .slice qa f.quotas.length qc, .slice ia f.inodes.length ic, .slice da f.data.length dc] 28)) #[.int .i64 n.kind, .int .i64 n.mode, .int .i64 n.uid, .int .i64 n.gid, .int .i64 n.links, .int .i64 n.size, .int .i64 n.tick, .slice a n.blocks.length c, .slice a1 n.acl.length d1, .slice a2 n.dflt.length d2] 47 (w.heap.size + 1) (by simp))
  rcases Nat.eq_zero_or_pos n.blocks.length with h0 | hp
  · have HV := Lib.hid (beyond_none (f := f) h0)
    rw [h0]
    clear h0
    rw [HV.out]
    generalize f.data.length = DM at HD ⊢
    generalize f.inodes.length = DI at *
    generalize f.quotas.length = DQ at *
    go_enter Tryz.func91, Tryz.ntmps91
    go_wp2
    go_ret
    exact ⟨rfl, ((Below.refl w.heap.size w).alloc (Nat.le_refl _) _).alloc (by simp) _⟩
  · obtain ⟨L, hL⟩ : ∃ L, n.blocks.length = L + 1 := ⟨n.blocks.length - 1, by omega⟩
    obtain ⟨X, hX, hX32, hL7⟩ := HFIT.out.x hL
    obtain ⟨b1, o1, rfl, hlt1, gB⟩ := HBL.out L (by omega)
    have HHO := Lib.hid (fun h => beyond_hole (f := f) hL h)
    have HAT := Lib.hid (fun k h => beyond_at (f := f) (k := k) hL h hX)
    have hbk := HFIT.out.blk _ (show n.blocks.getD L 0 ∈ n.blocks from FsV.mem_getD (by omega))
    have hlen := HFIT.out.len
    have HSZ := Lib.hid HFIT.out.size
    rw [hL, hlen] at HB0 HX HY ⊢
    rw [hX] at HB0 HX HY ⊢
    rw [hlen] at HD
    have HLN := Lib.hid hlen
    clear hL hX hp hlen HFIT
    have gB2 := HB0.out.cell (p := ⟨b1, o1 + L, none⟩) hlt1
    rw [gB] at gB2
    have y5 := HY.out.cell 5
    have y7 := HY.out.cell 7
    have x3 := HX.out.cell 3
    dsimp at y5 y7 x3
    generalize n.blocks.getD L 0 = bl at gB gB2 hbk HHO HAT
    by_cases hm : bl = -1
    · subst hm
      have HV := Lib.hid (HHO.out rfl)
      clear hbk gB HD HSZ HAT HHO
      rw [HV.out]
      generalize f.inodes.length = DI at *
      generalize f.quotas.length = DQ at *
      go_enter Tryz.func91, Tryz.ntmps91
      go_wp2
      go_ret
      exact ⟨rfl, HB0.out⟩
    · obtain ⟨k, rfl⟩ : ∃ k : Nat, bl = k := ⟨bl.toNat, by omega⟩
      have hk : k < 56 := by omega
      obtain ⟨b2, o2, rfl, hlt2, gD⟩ := HD.out k hk
      have HV := Lib.hid (HAT.out k rfl)
      have gD2 := HB0.out.cell (p := ⟨b2, o2 + k, none⟩) hlt2
      rw [gD] at gD2
      have hsz : (f.data.getD k ⟨#[]⟩).size = 32 := HSZ.out _ (FsV.mem_getD (by rw [HLN.out]; exact hk))
      have hm1 : ((k : Int) == -1) = false := by simp
      have hm2 : ((k : Int) != -1) = true := by simp
      clear hbk gB hm HHO HAT gD HD HSZ HLN
      rw [HV.out]
      generalize f.data.getD k ⟨#[]⟩ = s at gD2 hsz ⊢
      have HSS := Lib.hid hsz
      have hs1 : (s.size : Int) = 32 := by omega
      generalize f.inodes.length = DI at *
      generalize f.quotas.length = DQ at *
      go_enter Tryz.func91, Tryz.ntmps91
      go_wp2
      generalize (w.alloc (.cells #[.int .i64 f.tick, .slice qa DQ qc, .slice ia DI ic, .slice (some ⟨b2, o2, none⟩) 56 dc] 28)).alloc _ = w0 at *
      have z5 := Fam.cell (W := w0) (p := ⟨w.heap.size + 1, 5, none⟩) HY.out.lt y5
      have z7 := Fam.cell (W := w0) (p := ⟨w.heap.size + 1, 7, none⟩) HY.out.lt y7
      have z3 := Fam.cell (W := w0) (p := ⟨w.heap.size, 3, none⟩) HX.out.lt x3
      have zb := Fam.cell (W := w0) (p := ⟨b1, o1 + L, none⟩) (by have := HB0.out.size; show b1 < _; omega) gB2
      have zd := Fam.cell (W := w0) (p := ⟨b2, o2 + k, none⟩) (by have := HB0.out.size; show b2 < _; omega) gD2
      clear y5 y7 x3 gB2 gD2
      refine Fam.region (by kernel_rfl) (by kernel_rfl) ?_
      repeat (go_big_quiet_step (fail))
      refine wpQuiet_nil ?_
      intro _ hw'
      obtain ⟨nq, hw''⟩ := hw'
      subst hw''
      have hbq := Fam.wld_below _ nq
      generalize Fam.wld _ nq = w9 at hbq ⊢
      replace HB0 := Lib.hid (HB0.out.trans (hbq.mono HB0.out.size))
      clear hbq z5 z7 z3 zb zd
      go_wp2
      go_ret
      exact ⟨rfl, HB0.out⟩
end Go.Proofs.YtmljjdglmlnbaaaGreatDoor.FsB

-- YtmljjdglmlnbaaaGreatDoorIsZeroes
/- Contracts: for every string, the program's IsZeroes and the model's tell whether all of its bytes are 0. Condition: the string's length is one that Go's ints hold. -/
namespace Go.Proofs.YtmljjdglmlnbaaaGreatDoor.IsZeroes
open Go.ChangeShapes Go.WideShapes Go.ChangeAt Go.RowKit
set_option linter.unusedVariables false

def zeroB (l : List UInt8) : Bool := l.all (· == 0)
theorem ret_bool {a b : Bool} (h : a = b) : Ending.returned (.bool a) = .returned (.bool b) := by rw [h]
theorem drop_nil (l : List UInt8) (h : zeroB l = true) : l.dropWhile (· == 0) = [] := by
  induction l with
  | nil => rfl
  | cons a l ih =>
    simp only [zeroB, List.all_cons, Bool.and_eq_true] at h
    rw [List.dropWhile_cons, if_pos h.1]
    exact ih h.2
theorem nil_drop (l : List UInt8) (h : l.dropWhile (· == 0) = []) : zeroB l = true := by
  induction l with
  | nil => rfl
  | cons a l ih =>
    rw [List.dropWhile_cons] at h
    split at h
    · rename_i ha
      simp only [zeroB, List.all_cons, Bool.and_eq_true]
      exact ⟨ha, ih h⟩
    · cases h
theorem zero_rev (l : List UInt8) : zeroB l.reverse = zeroB l := by simp [zeroB]
theorem zero_append (a b : List UInt8) : zeroB (a ++ b) = (zeroB a && zeroB b) := by simp [zeroB]
theorem zero_take (l : List UInt8) : zeroB (l.takeWhile (· == 0)) = true := by
  induction l with
  | nil => rfl
  | cons a l ih =>
    rw [List.takeWhile_cons]
    split
    · rename_i ha
      simp only [zeroB, List.all_cons, Bool.and_eq_true]
      exact ⟨ha, ih⟩
    · rfl
theorem trim_nil (l : List UInt8) : (Lib.trimB l 0 = []) ↔ zeroB l = true := by
  unfold Lib.trimB Lib.trimLeftB Lib.trimRightB
  constructor
  · intro h
    have h1 := nil_drop _ h
    rw [zero_rev] at h1
    have h2 : zeroB (l.reverse.takeWhile (· == 0) ++ l.reverse.dropWhile (· == 0)) = true := by
      rw [zero_append, zero_take, h1]; rfl
    rw [List.takeWhile_append_dropWhile, zero_rev] at h2
    exact h2
  · intro h
    rw [drop_nil l.reverse (by rw [zero_rev]; exact h)]
    rfl
/-- What is left of the string is empty exactly if all bytes are 0. -/
theorem empty_is (l : List UInt8) : (⟨(Lib.trimB l 0).toArray⟩ : ByteArray).toList.isEmpty = zeroB l := by
  rw [ByteArray.toList_eq]
  have e : (⟨(Lib.trimB l 0).toArray⟩ : ByteArray).data.toList = Lib.trimB l 0 := by simp
  rw [e, Bool.eq_iff_iff, List.isEmpty_iff]
  exact trim_nil l
def upto (s : ByteArray) (k : Nat) : Prop := zeroB (s.data.toList.take k) = true
theorem upto_zero (s : ByteArray) : upto s 0 := by simp [upto, zeroB]
theorem upto_succ (s : ByteArray) (k : Nat) (h : k < s.size) (hu : upto s k) (hd : s[k] = 0) : upto s (k + 1) := by
  unfold upto at *
  rw [List.take_succ_eq_append_getElem (by simpa using h), zero_append, hu]
  have : s.data.toList[k]'(by simpa using h) = s[k] := rfl
  rw [this, hd]; rfl
theorem no_of (s : ByteArray) (k : Nat) (h : k < s.size) (hd : s[k] ≠ 0) : zeroB s.data.toList = false := by
  have hm : s[k] ∈ s.data.toList := by
    have : s.data.toList[k]'(by simpa using h) = s[k] := rfl
    rw [← this]; exact List.getElem_mem _
  rw [zeroB, List.all_eq_false]
  exact ⟨_, hm, by simpa using hd⟩
theorem end_of (s : ByteArray) (k : Nat) (h : s.size ≤ k) (hu : upto s k) : zeroB s.data.toList = true := by
  unfold upto at hu
  rw [List.take_of_length_le (by simpa using h)] at hu
  exact hu
theorem byte_zero (b : UInt8) : ((b.toNat : Int) == 0) = true ↔ b = 0 := by
  rw [beq_iff_eq]
  constructor
  · intro h; exact UInt8.toNat_inj.1 (by simpa using h)
  · rintro rfl; rfl

set_option maxRecDepth 100000 in
set_option maxHeartbeats 400000 in
theorem spec_any (s : ByteArray) (w : World) (hs : s.size ≤ maxLen) :
    Calls Tryz.prog 55 #[.string s] w fun e w' => e = .returned (.bool (zeroB s.data.toList)) ∧ w = w' := by
  unfold maxLen at hs
  go_enter Tryz.func55, Tryz.ntmps55
  go_wp2
  go_loop [3] (fun i => ∃ k : Nat, k ≤ s.size ∧ i = .int .i64 k ∧ upto s k) (fun i => s.size - (intOf i).toNat)
  case atStart => exact ⟨0, Nat.zero_le _, rfl, upto_zero s⟩
  case round =>
    obtain ⟨k, hk, rfl, hu⟩ := hrel
    have HU := Lib.hid hu
    clear hu
    by_cases hlt : k < s.size
    · by_cases h0 : s[k] = 0
      · have hb1 : ((s[k].toNat : Int) == 0) = true := (byte_zero _).2 h0
        have hb2 : ((s[k].toNat : Int) != 0) = false := by simp [h0]
        have HN := Lib.hid (upto_succ s k hlt HU.out h0)
        clear h0
        go_wp2
        go_round
        case rel => exact ⟨k + 1, by omega, by go_num, HN.out⟩
        case measure => simp [intOf]; omega
      · have hb1 : ((s[k].toNat : Int) == 0) = false := by rw [Bool.eq_false_iff]; exact fun h => h0 ((byte_zero _).1 h)
        have hb2 : ((s[k].toNat : Int) != 0) = true := by rw [bne, hb1]; rfl
        have HN := Lib.hid (no_of s k hlt h0)
        clear h0
        go_wp2
        go_ret
        exact ⟨ret_bool HN.out.symm, rfl⟩
    · go_wp2
      go_ret
      exact ⟨ret_bool (end_of s k (by omega) HU.out).symm, rfl⟩

set_option maxRecDepth 100000 in
set_option maxHeartbeats 400000 in
theorem impl_any (s : ByteArray) (w : World) (hs : s.size ≤ maxLen) :
    Calls Tryz.prog 90 #[.string s] w fun e w' => e = .returned (.bool (zeroB s.data.toList)) ∧ Below w.heap.size w w' := by
  unfold maxLen at hs
  have HE := Lib.hid (empty_is s.data.toList)
  go_enter Tryz.func90, Tryz.ntmps90
  go_wp2_with fail
  refine (Tryz.strings_Trim_one s 0 (by decide) _ hs).mono ?_
  rintro e w1 ⟨rfl, hw⟩
  have HB := Lib.hid (show Below w.heap.size w w1 by rcases hw with rfl | rfl; exact Below.refl _ _; exact (Below.refl _ _).drew)
  clear hw
  generalize (⟨(Lib.trimB s.data.toList 0).toArray⟩ : ByteArray) = t at HE ⊢
  go_wp2_with fail
  go_ret
  exact ⟨ret_bool HE.out, HB.out⟩
end Go.Proofs.YtmljjdglmlnbaaaGreatDoor.IsZeroes

-- YtmljjdglmlnbaaaGreatDoorFsE
/- Contracts: the program's hasZerosElsewhere and IsFS. Conditions: as each theorem types them. -/
namespace Go.Proofs.YtmljjdglmlnbaaaGreatDoor.FsE
open Go.ChangeShapes Go.WideShapes Go.ChangeAt Go.RowKit
open Foot Bx
open InoV (I usedV hasB needV)
open FsV (F allB ownB beyond zB freeB elseB okF partsB tickB rootB allTo rangeTo)
open Dk (ret_bool)
open MpB (Is)
open FsB (Fit)
set_option linter.unusedVariables false

theorem zeroes_any (s : ByteArray) (w : World) (h : s.size ≤ maxLen) : Calls Tryz.prog 90 #[.string s] w fun e w' => e = .returned (.bool (zB s)) ∧ Below w.heap.size w w' := IsZeroes.impl_any s w h
theorem fit_of {f : F} (hp : partsB f = true) (ho : ownB f.inodes = true) {i : Nat} (hi : i < f.inodes.length) : Fit f (f.inodes.getD i InoV.zero) := by
  obtain ⟨_, _, h3, _, h5, h6⟩ := FsV.parts_of hp
  have hm := FsV.mem_getD (z := InoV.zero) hi
  have hn := InoV.ok_nums (h5 _ hm)
  have hbl := InoV.ok_blocks (h5 _ hm)
  generalize f.inodes.getD i InoV.zero = n at hm hn hbl
  refine ⟨h3, h6, hn.2.2.2.2.2.2.2.2.2.2.2.2.2.2, hn.2.2.2.2.2.2.2.2.2.2.1, hn.2.2.2.2.2.2.2.2.2.2.2.1, fun b hb => ?_⟩
  by_cases hb1 : b = -1
  · exact .inl hb1
  · right
    have hu : b ∈ usedV n.blocks := List.mem_filter.2 ⟨hb, by simpa using hb1⟩
    have hp2 : (n.uid, b) ∈ FsV.pairs f.inodes := List.mem_flatMap.2 ⟨n, hm, List.mem_map.2 ⟨b, hu, rfl⟩⟩
    have := FsV.owner_in ((FsV.go_mem ho).1 _ hp2) (by dsimp only; omega)
    dsimp only at this
    omega
theorem beyond_size (f : F) (n : I) (h : Fit f n) : (beyond f n).size ≤ maxLen := by
  unfold maxLen
  rcases Nat.eq_zero_or_pos n.blocks.length with h0 | hp
  · rw [FsB.beyond_none h0]; decide
  · obtain ⟨L, hL⟩ : ∃ L, n.blocks.length = L + 1 := ⟨n.blocks.length - 1, by omega⟩
    obtain ⟨X, hX, hX32, hL7⟩ := h.x hL
    by_cases hm : n.blocks.getD L 0 = -1
    · rw [FsB.beyond_hole hL hm]; decide
    · have hb := h.blk _ (show n.blocks.getD L 0 ∈ n.blocks from FsV.mem_getD (by omega))
      rw [FsB.beyond_at (k := (n.blocks.getD L 0).toNat) hL (by omega) hX, ByteArray.size_extract]
      omega
theorem else_no1 {f : F} {k : Nat} (hk : k < 56) (h : freeB f k = false) : elseB f = false := by rw [elseB, FsV.range_no hk h]; rfl
theorem else_no2 {f : F} {i : Nat} (hi : i < f.inodes.length) (h : zB (beyond f (f.inodes.getD i InoV.zero)) = false) : elseB f = false := by
  rw [elseB, FsV.all_no (p := fun n => zB (beyond f n)) (z := InoV.zero) hi h, Bool.and_false]

set_option maxRecDepth 100000 in
set_option maxHeartbeats 6400000 in
theorem else_impl (w : World) (v : Value) (f : F) (hc : FsF.cost f ≤ 1073741824) (hl : FsF.Lim f) (hp : partsB f = true) (ho : ownB f.inodes = true) (h : FsF.Holds w v f) :
    Calls Tryz.prog 60 #[v] w fun e w' => e = .returned (.bool (elseB f)) ∧ Below w.heap.size w w' := by
  have HFS := Lib.hid h
  obtain ⟨_, hI20, hD56, _, _, _⟩ := FsV.parts_of hp
  have HFIT := Lib.hid (fun i hi => fit_of (i := i) hp ho hi)
  have HBS := Lib.hid (fun i hi => beyond_size f _ (fit_of (i := i) hp ho hi))
  have HSA := Lib.hid (fun i (hi : i < f.data.length) => FsP.size_at hl hi)
  have HN1 := Lib.hid (fun k (hk : k < 56) h => else_no1 (f := f) hk h)
  have HN2 := Lib.hid (fun i hi h => else_no2 (f := f) (i := i) hi h)
  have HIU := Lib.hid (fun W v' (hv : IF.Holds W v' f.inodes) => FsU.inuse_any W v' f.inodes (Nat.le_trans (FsF.le_inodes f) hc) hl.inodes hv)
  obtain ⟨r0, r1, r2, rfl, g0, g1, g2⟩ := h
  have G1 := Lib.hid g1
  obtain ⟨qa, qc, rfl⟩ := QF.form g0
  obtain ⟨ia, ic, rfl, _, hI⟩ := IF.atL g1
  obtain ⟨da, dc, rfl, hD⟩ := g2
  have HI := Lib.hid hI
  have HD := Lib.hid (show ∀ i, i < f.data.length → ∃ b o, da = some ⟨b, o, none⟩ ∧ b < w.heap.size ∧ w.cell? ⟨b, o + i, none⟩ = some (.string (f.data.getD i ⟨#[]⟩)) from fun i hi => by
    obtain ⟨b, o, e, hlt, hcell⟩ := hD (by intro e; rw [e] at hi; simp at hi)
    exact ⟨b, o, e, hlt, hcell i hi⟩)
  have HL2 := Lib.hid hI20
  have HL3 := Lib.hid hD56
  rw [hI20] at HFS G1 ⊢
  rw [hD56] at HFS ⊢
  obtain ⟨T, hT⟩ : ∃ T, T = f.tick := ⟨_, rfl⟩
  obtain ⟨Q, hQ⟩ : ∃ Q, Q = f.quotas.length := ⟨_, rfl⟩
  rw [← hT, ← hQ] at HFS ⊢
  clear hT hQ g0 g1 hI hD hI20 hD56 hc hl hp ho
  have HB0 := Lib.hid ((Below.refl w.heap.size w).alloc (Nat.le_refl _) (.cells #[.int .i64 T, .slice qa Q qc, .slice ia 20 ic, .slice da 56 dc] 28))
  have HX0 := Lib.hid (new w #[.int .i64 T, .slice qa Q qc, .slice ia 20 ic, .slice da 56 dc] 28)
  go_enter Tryz.func60, Tryz.ntmps60
  go_wp2_with fail
  refine (HIU.out _ _ (IF.holds_below G1.out HB0.out)).mono ?_
  rintro e w1 ⟨N, rfl, his, hb⟩
  have HI1 := Lib.hid his
  have HB1 := Lib.hid (HB0.out.trans (hb.mono HB0.out.size))
  have HX1 := Lib.hid (HX0.out.all hb)
  have hsz0 := hb.size
  clear his hb HIU HB0 HX0
  rw [show (w.alloc (.cells #[.int .i64 T, .slice qa Q qc, .slice ia 20 ic, .slice da 56 dc] 28)).heap.size = w.heap.size + 1 from by simp] at HI1 ⊢
  have x3 := HX1.out.cell 3
  dsimp at x3
  go_wp2
  clear x3
  go_loopw [14] (fun iv wr => ∃ k : Nat, k ≤ 56 ∧ iv = .int .i64 k ∧ Bk wr w.heap.size #[.int .i64 T, .slice qa Q qc, .slice ia 20 ic, .slice da 56 dc] 28 ∧ Is wr (w.heap.size + 1) N (hasB (allB f.inodes)) ∧ Below w.heap.size w wr ∧ rangeTo (freeB f) k = true) (fun iv _ => 56 - (intOf iv).toNat)
  case atStart => exact ⟨0, Nat.zero_le _, rfl, HX1.out, HI1.out, HB1.out, rfl⟩
  case round =>
    obtain ⟨k, hk, rfl, hx, his, hbel, hr⟩ := hrel
    have HB := Lib.hid hbel
    have HX := Lib.hid hx
    have HS := Lib.hid his
    have HR := Lib.hid hr
    clear hx hbel hr his HX1 HI1 HB1
    by_cases hlt : k < 56
    · have hkl : k < f.data.length := by rw [HL3.out]; exact hlt
      obtain ⟨b, o, rfl, hb, c0⟩ := HD.out k hkl
      rw [← HB.out.cell (p := ⟨b, _, none⟩) hb] at c0
      have hcx := HSA.out k hkl
      have HNO := Lib.hid (HN1.out k hlt)
      have HSU := Lib.hid (FsV.rangeTo_succ (freeB f) k)
      have hfree : freeB f k = (hasB (allB f.inodes) k || zB (f.data.getD k ⟨#[]⟩)) := rfl
      have hlk := HS.out.look (x := (k : Int)) (by unfold Rg; omega)
      generalize f.data.getD k ⟨#[]⟩ = s at c0 hcx hfree
      generalize hasB (allB f.inodes) (k : Int) = A at hlk hfree
      have HFR := Lib.hid hfree
      have HCX := Lib.hid hcx
      clear hfree hcx hkl
      cases A
      · go_wp2_with fail
        refine (zeroes_any s _ HCX.out).mono ?_
        rintro e w2 ⟨rfl, hb2⟩
        have HB2 := Lib.hid (HB.out.trans (hb2.mono HB.out.size))
        have HX2 := Lib.hid (HX.out.all hb2)
        have HS2 := Lib.hid (HS.out.below hb2)
        clear hb2 hlk c0
        cases hz : zB s
        · have HF := Lib.hid (HNO.out (by rw [HFR.out, hz]; rfl))
          clear hz
          go_wp2
          go_ret
          exact ⟨ret_bool HF.out.symm, HB2.out⟩
        · have HN := Lib.hid (show rangeTo (freeB f) (k + 1) = true by rw [HSU.out, HR.out, HFR.out, hz]; rfl)
          clear hz
          go_wp2
          go_roundw
          case rel => exact ⟨k + 1, by omega, by go_num, HX2.out, HS2.out, HB2.out, HN.out⟩
          case measure => simp [intOf]; omega
      · have HN := Lib.hid (show rangeTo (freeB f) (k + 1) = true by rw [HSU.out, HR.out, HFR.out]; rfl)
        go_wp2
        go_roundw
        case rel => exact ⟨k + 1, by omega, by go_num, HX.out, HS.out, HB.out, HN.out⟩
        case measure => simp [intOf]; omega
    · obtain rfl : k = 56 := by omega
      rw [show ((56 : Nat) : Int) = 56 from rfl]
      have HRA := Lib.hid (show (List.range 56).all (freeB f) = true from HR.out)
      have x2 := HX.out.cell 2
      dsimp at x2
      go_wp2
      clear x2
      go_loopw [32] (fun iv wr => ∃ k : Nat, k ≤ 20 ∧ iv = .int .i64 k ∧ Bk wr w.heap.size #[.int .i64 T, .slice qa Q qc, .slice ia 20 ic, .slice da 56 dc] 28 ∧ Below w.heap.size w wr ∧ allTo (fun n => zB (beyond f n)) f.inodes k = true) (fun iv _ => 20 - (intOf iv).toNat)
      case atStart => exact ⟨0, Nat.zero_le _, rfl, HX.out, HB.out, FsV.allTo_zero _ _⟩
      case round =>
        obtain ⟨k, hk, rfl, hx, hbel, hr⟩ := hrel
        replace HB := Lib.hid hbel
        replace HX := Lib.hid hx
        replace HR := Lib.hid hr
        have hsz := hbel.size
        clear hx hbel hr HS
        by_cases hlt : k < 20
        · have hkl : k < f.inodes.length := by rw [HL2.out]; exact hlt
          obtain ⟨b, o, rfl, hb, r0, r1, r2, hC, hP⟩ := HI.out k hkl
          have HP := Lib.hid (IF.parts_holds (IF.parts_below hP HB.out))
          obtain ⟨p0, p1, p2⟩ := hP
          obtain ⟨a0, d0, rfl⟩ := NiF.form p0
          obtain ⟨a1, d1, rfl⟩ := AeF.form p1
          obtain ⟨a2, d2, rfl⟩ := AeF.form p2
          obtain ⟨c0, c1, c2, c3, c4, c5, c6, c7, c8, c9⟩ := hC.below hb HB.out
          have HSU := Lib.hid (FsV.allTo_succ (fun n => zB (beyond f n)) f.inodes IF.z0 k hkl)
          have HNO := Lib.hid (HN2.out k hkl)
          have HFI := Lib.hid (HFIT.out k hkl)
          have HSZ := Lib.hid (HBS.out k hkl)
          rw [show InoV.zero = IF.z0 from rfl] at HNO HFI HSZ
          clear hC p0 p1 p2 hkl
          generalize f.inodes.getD k IF.z0 = n at c0 c1 c2 c3 c4 c5 c6 c7 c8 c9 HNO HSU HFI HSZ HP
          have HW := Lib.hid ((Below.refl wr.heap.size wr).alloc (Nat.le_refl _) (.cells #[.int .i64 n.kind, .int .i64 n.mode, .int .i64 n.uid, .int .i64 n.gid, .int .i64 n.links, .int .i64 n.size, .int .i64 n.tick, .slice a0 n.blocks.length d0, .slice a1 n.acl.length d1, .slice a2 n.dflt.length d2] 47))
          have HN := Lib.hid (HB.out.trans (HW.out.mono hsz))
          have HXN := Lib.hid (HX.out.alloc (.cells #[.int .i64 n.kind, .int .i64 n.mode, .int .i64 n.uid, .int .i64 n.gid, .int .i64 n.links, .int .i64 n.size, .int .i64 n.tick, .slice a0 n.blocks.length d0, .slice a1 n.acl.length d1, .slice a2 n.dflt.length d2] 47))
          have HPN := Lib.hid (In.holds_below HP.out HW.out)
          have HFN := Lib.hid (FsF.holds_below HFS.out HN.out)
          obtain ⟨x0, x1, x2, x3⟩ := Bk.c4 HXN.out
          go_wp2_with fail
          refine (FsB.beyond_impl _ _ _ f n HFN.out HPN.out HFI.out).mono ?_
          rintro e w2 ⟨rfl, hb2⟩
          have HB2 := Lib.hid (HN.out.trans (hb2.mono HN.out.size))
          have HX2 := Lib.hid (HXN.out.all hb2)
          clear hb2 x0 x1 x2 x3 c0 c1 c2 c3 c4 c5 c6 c7 c8 c9
          generalize beyond f n = s at HSZ HNO HSU ⊢
          go_wp2_with fail
          refine (zeroes_any s _ HSZ.out).mono ?_
          rintro e w3 ⟨rfl, hb3⟩
          have HB3 := Lib.hid (HB2.out.trans (hb3.mono HB2.out.size))
          have HX3 := Lib.hid (HX2.out.all hb3)
          clear hb3
          cases hz : zB s
          · have HF := Lib.hid (HNO.out hz)
            clear hz
            go_wp2
            go_ret
            exact ⟨ret_bool HF.out.symm, HB3.out⟩
          · have HN4 := Lib.hid (show allTo (fun n => zB (beyond f n)) f.inodes (k + 1) = true by rw [HSU.out, HR.out, hz]; rfl)
            clear hz
            go_wp2
            go_roundw
            case rel => exact ⟨k + 1, by omega, by go_num, HX3.out, HB3.out, HN4.out⟩
            case measure => simp [intOf]; omega
        · obtain rfl : k = 20 := by omega
          have HF := Lib.hid (show elseB f = true by rw [elseB, HRA.out, ← FsV.allTo_end (fun n => zB (beyond f n)) f.inodes 20 HL2.out.symm, HR.out]; rfl)
          go_wp2
          go_ret
          exact ⟨ret_bool HF.out.symm, HB.out⟩

set_option maxRecDepth 100000 in
set_option maxHeartbeats 6400000 in
theorem is_impl (w : World) (v : Value) (f : F) (hc : FsF.cost f ≤ 1073741824) (hl : FsF.Lim f) (hv : InOk.Vars w) (h : FsF.Holds w v f) :
    Calls Tryz.prog 30 #[v] w fun e w' => e = .returned (.bool (okF f)) ∧ Below w.heap.size w w' := by
  have HFS := Lib.hid h
  have HHI := Lib.hid (show IF.cost f.inodes ≤ 1073741824 from Nat.le_trans (FsF.le_inodes f) hc)
  obtain ⟨r0, r1, r2, rfl, g0, g1, g2⟩ := h
  have G1 := Lib.hid g1
  obtain ⟨qa, qc, rfl⟩ := QF.form g0
  obtain ⟨ia, ic, rfl, _, hI⟩ := IF.atL g1
  obtain ⟨da, dc, rfl⟩ := SF.form g2
  have HI := Lib.hid hI
  have HV := Lib.hid hv
  have HLM := Lib.hid hl
  have HCC := Lib.hid hc
  clear g0 g1 g2 hI hv hl hc
  obtain ⟨T, hT⟩ : ∃ T, T = f.tick := ⟨_, rfl⟩
  obtain ⟨Q, hQ⟩ : ∃ Q, Q = f.quotas.length := ⟨_, rfl⟩
  obtain ⟨M, hM⟩ : ∃ M, M = f.inodes.length := ⟨_, rfl⟩
  obtain ⟨D, hD⟩ : ∃ D, D = f.data.length := ⟨_, rfl⟩
  have HTK := Lib.hid (show FsV.tickB f = (decide (0 ≤ T) && decide (T ≤ 1000000000)) from by rw [FsV.tickB, hT])
  rw [← hT, ← hQ, ← hM, ← hD] at HFS ⊢
  rw [← hM] at G1
  have HM := Lib.hid hM
  clear hT hQ hM hD
  have HB0 := Lib.hid ((Below.refl w.heap.size w).alloc (Nat.le_refl _) (.cells #[.int .i64 T, .slice qa Q qc, .slice ia M ic, .slice da D dc] 28))
  have HX0 := Lib.hid (new w #[.int .i64 T, .slice qa Q qc, .slice ia M ic, .slice da D dc] 28)
  by_cases h0 : T < 0
  · have HF := Lib.hid (show okF f = false by rw [okF, HTK.out, decide_eq_false (by omega)]; rfl)
    have q1 : decide (T < 0) = true := decide_eq_true h0
    clear h0
    go_enter Tryz.func30, Tryz.ntmps30
    go_wp2
    go_ret
    exact ⟨ret_bool HF.out.symm, HB0.out⟩
  · by_cases h1 : 1000000000 < T
    · have HF := Lib.hid (show okF f = false by rw [okF, HTK.out, decide_eq_false (show ¬ T ≤ 1000000000 by omega)]; simp)
      have q0 : decide (T < 0) = false := decide_eq_false h0
      have q1 : decide (1000000000 < T) = true := decide_eq_true h1
      clear h0 h1
      go_enter Tryz.func30, Tryz.ntmps30
      go_wp2
      go_ret
      exact ⟨ret_bool HF.out.symm, HB0.out⟩
    · have HT2 := Lib.hid (show FsV.tickB f = true by rw [HTK.out, decide_eq_true (show 0 ≤ T by omega), decide_eq_true (show T ≤ 1000000000 by omega)]; rfl)
      have q0 : decide (T < 0) = false := decide_eq_false h0
      have q1 : decide (1000000000 < T) = false := decide_eq_false h1
      clear h0 h1
      go_enter Tryz.func30, Tryz.ntmps30
      go_wp2_with fail
      refine (FsP.parts_impl _ _ f HCC.out HLM.out (HV.out.all HB0.out) (FsF.holds_below HFS.out HB0.out)).mono ?_
      rintro e w1 ⟨rfl, hb1⟩
      have HB1 := Lib.hid (HB0.out.trans (hb1.mono HB0.out.size))
      have HX1 := Lib.hid (HX0.out.all hb1)
      clear hb1
      cases hp : FsV.partsB f
      · have HF := Lib.hid (show okF f = false by rw [okF, hp]; simp)
        clear hp
        go_wp2
        go_ret
        exact ⟨ret_bool HF.out.symm, HB1.out⟩
      · have HP := Lib.hid hp
        have hM20 : M = 20 := by rw [HM.out]; exact (FsV.parts_of hp).2.1
        subst hM20
        clear hp
        obtain ⟨b, o, rfl, hb, r0, r1, r2, hC, hPt⟩ := HI.out 0 (by rw [← HM.out]; omega)
        have c0 := (hC.below hb HB1.out).1
        have HRB := Lib.hid (show FsV.rootB f = decide ((f.inodes.getD 0 IF.z0).kind = 2) from rfl)
        rw [Nat.zero_mul, Nat.add_zero] at c0
        clear hC hPt
        generalize (f.inodes.getD 0 IF.z0).kind = K at c0 HRB
        obtain ⟨x0, x1, x2, x3⟩ := Bk.c4 HX1.out
        by_cases hk : K = 2
        · have k1 : (K == 2) = true := by simpa using hk
          have k2 : (K != 2) = false := by simpa using hk
          have HR := Lib.hid (show FsV.rootB f = true by rw [HRB.out]; exact decide_eq_true hk)
          clear hk
          go_wp2_with fail
          refine (FsW.own_impl _ _ f.inodes HHI.out HLM.out.inodes (IF.holds_below G1.out HB1.out)).mono ?_
          rintro e w2 ⟨rfl, hb2⟩
          have HB2 := Lib.hid (HB1.out.trans (hb2.mono HB1.out.size))
          have HX2 := Lib.hid (HX1.out.all hb2)
          clear hb2 x0 x1 x2 x3 c0 k1 k2
          cases ho : FsV.ownB f.inodes
          · have HF := Lib.hid (show okF f = false by rw [okF, ho]; simp)
            clear ho
            go_wp2
            go_ret
            exact ⟨ret_bool HF.out.symm, HB2.out⟩
          · have HO := Lib.hid ho
            clear ho
            obtain ⟨x0, x1, x2, x3⟩ := Bk.c4 HX2.out
            go_wp2_with fail
            refine (else_impl _ _ f HCC.out HLM.out HP.out HO.out (FsF.holds_below HFS.out HB2.out)).mono ?_
            rintro e w3 ⟨rfl, hb3⟩
            have HB3 := Lib.hid (HB2.out.trans (hb3.mono HB2.out.size))
            clear hb3 x0 x1 x2 x3
            have HF := Lib.hid (show okF f = FsV.elseB f by rw [okF, HT2.out, HP.out, HR.out, HO.out]; rfl)
            go_wp2
            go_ret
            exact ⟨ret_bool HF.out.symm, HB3.out⟩
        · have k1 : (K == 2) = false := by simpa using hk
          have k2 : (K != 2) = true := by simpa using hk
          have HF := Lib.hid (show okF f = false by rw [okF, HRB.out, decide_eq_false hk]; simp)
          clear hk
          go_wp2
          go_ret
          exact ⟨ret_bool HF.out.symm, HB1.out⟩
end Go.Proofs.YtmljjdglmlnbaaaGreatDoor.FsE

-- YtmljjdglmlnbaaaGreatDoorFsK
/- Contract: the model's l08Used: which blocks are in use, and whether they are used properly. Conditions: as the theorem types them. -/
namespace Go.Proofs.YtmljjdglmlnbaaaGreatDoor.FsK
open Go.ChangeShapes Go.WideShapes Go.ChangeAt Go.RowKit
open Foot Bx
open InoV (I usedV hasB)
open FsV (F allB pre goB ownB oneB ownerV)
open Dk (ret_bool)
set_option linter.unusedVariables false

/-- Which of the 56 blocks are on a list. -/
def bl (l : List Int) : List Value := (List.range 56).map fun (b : Nat) => .bool (hasB l b)
theorem bl_length (l : List Int) : (bl l).length = 56 := by simp [bl]
theorem bl_at (l : List Int) (k : Nat) (h : k < 56) : (bl l)[k]? = some (.bool (hasB l k)) := by
  simp [bl, List.getElem?_map, List.getElem?_range h]
theorem bl_set (l : List Int) (k : Nat) (h : k < 56) : (bl l).set k (.bool true) = bl (l ++ [(k : Int)]) := by
  refine List.ext_getElem? fun j => ?_
  by_cases hj : j < 56
  · rw [List.getElem?_set, bl_at (l ++ [(k : Int)]) j hj, bl_length, FsV.has_snoc]
    by_cases hkj : k = j
    · subst hkj; simp [h]
    · have : ¬ (k : Int) = (j : Int) := by omega
      rw [if_neg hkj, bl_at l j hj]; simp [this]
  · rw [List.getElem?_eq_none (by rw [List.length_set, bl_length]; omega), List.getElem?_eq_none (by rw [bl_length]; omega)]
theorem bl_nil : bl [] = List.replicate 56 (.bool false) := by
  refine List.ext_getElem? fun j => ?_
  by_cases hj : j < 56
  · rw [bl_at [] j hj, List.getElem?_replicate, if_pos hj]; rfl
  · rw [List.getElem?_eq_none (by rw [bl_length]; omega), List.getElem?_eq_none (by simp; omega)]
/-- How many of the first j elements are no holes. -/
def jj (l : List Int) (j : Nat) : Nat := (usedV (l.take j)).length
theorem used_split (l : List Int) (j : Nat) : usedV l = usedV (l.take j) ++ usedV (l.drop j) := by
  rw [usedV, usedV, usedV, ← List.filter_append, List.take_append_drop]
theorem jj_zero (l : List Int) : jj l 0 = 0 := by simp [jj, usedV]
theorem jj_end (l : List Int) (j : Nat) (h : j = l.length) : jj l j = (usedV l).length := by rw [jj, h, List.take_length]
theorem jj_hole {l : List Int} {j : Nat} (h : j < l.length) (hb : l.getD j 0 = -1) : jj l (j + 1) = jj l j := by
  rw [jj, jj, FsV.take_snoc l 0 j h, hb]; simp [usedV]
theorem jj_block {l : List Int} {j : Nat} (h : j < l.length) (hb : l.getD j 0 ≠ -1) : jj l (j + 1) = jj l j + 1 ∧ jj l j < (usedV l).length ∧ (usedV l).getD (jj l j) 0 = l.getD j 0 := by
  have e : usedV (l.take (j + 1)) = usedV (l.take j) ++ [l.getD j 0] := by
    rw [FsV.take_snoc l 0 j h, usedV, List.filter_append, ← usedV]
    have : [l.getD j 0].filter (fun b => decide (b ≠ -1)) = [l.getD j 0] := by rw [List.filter_cons_of_pos (by simpa using hb)]; rfl
    rw [this]
  have h1 : jj l (j + 1) = jj l j + 1 := by rw [jj, e, List.length_append, ← jj]; rfl
  have h2 : usedV l = usedV (l.take j) ++ (l.getD j 0 :: usedV (l.drop (j + 1))) := by
    rw [used_split l (j + 1), e, List.append_assoc]; rfl
  refine ⟨h1, ?_, ?_⟩
  · rw [h2, List.length_append, ← jj, List.length_cons]; omega
  · rw [h2, List.getD_eq_getElem?_getD, List.getElem?_append_right (by rw [← jj]; exact Nat.le_refl _), ← jj, Nat.sub_self]; rfl
theorem boolInfo : (Tryz.prog.info? 4).map (fun i => (i.zero, i.size, i.bytes)) = some (some (.bool false), 1, 1) := by kernel_rfl
theorem ret_two {a b c d : Value} (h1 : a = c) (h2 : b = d) : Ending.returned (.tuple #[a, b]) = .returned (.tuple #[c, d]) := by rw [h1, h2]

set_option maxRecDepth 100000 in
set_option maxHeartbeats 6400000 in
theorem used_any (w : World) (v : Value) (f : F) (hc : FsF.cost f ≤ 1073741824) (hu : ∀ n ∈ f.inodes, 0 ≤ n.uid) (h : FsF.Holds w v f) :
    Calls Tryz.prog 54 #[v] w fun e w' => ∃ y, e = .returned (.tuple #[y, .bool (ownB f.inodes)]) ∧ (ownB f.inodes = true → ∃ g, y = .slice (some ⟨g, 0, none⟩) 56 56 ∧ w'.ownsRow w.heap.size 4 1 y 56 (bl (allB f.inodes))) ∧ Below w.heap.size w w' := by
  obtain ⟨i0, hi0, hz0, hz1, hz2⟩ := info_parts boolInfo
  have hci : IF.cost f.inodes ≤ 1073741824 := Nat.le_trans (FsF.le_inodes f) hc
  obtain ⟨r0, r1, r2, rfl, g0, g1, g2⟩ := h
  obtain ⟨qa, qc, rfl⟩ := QF.form g0
  obtain ⟨da, dc, rfl⟩ := SF.form g2
  obtain ⟨ia, ic, rfl, hle, hat⟩ := IF.atL g1
  have HC := Lib.hid hat
  obtain ⟨l, hll⟩ : ∃ l, l = f.inodes := ⟨_, rfl⟩
  rw [← hll] at hu hci hle HC ⊢
  have hlen : l.length ≤ 1073741824 := Nat.le_trans (Nat.le_add_right _ _) hci
  have hcs : IF.csum l ≤ 1073741824 := Nat.le_trans (Nat.le_add_left _ _) hci
  have HCA := Lib.hid (fun i (hi : i < l.length) => Nat.le_trans (IF.cost_at hi) hcs)
  have HU := Lib.hid hu
  have HNO := Lib.hid (fun i j hi hj => FsV.own_no l i j hi hj)
  have HST := Lib.hid (fun i j hj => FsV.own_step l i j hj)
  have HEN := Lib.hid (fun i hi => FsV.own_end l i hi)
  obtain ⟨M, hM⟩ : ∃ M, M = l.length := ⟨_, rfl⟩
  rw [← hM] at hlen hle ⊢
  have HM := Lib.hid hM
  generalize f.quotas.length = DQ at *
  generalize f.data.length = DD at *
  generalize f.tick = T at *
  clear hM hat hc hci hcs g0 g1 g2 hu hll
  have HRO := Lib.hid (show i0.bytes * 56 ≤ 281474976710656 by rw [hz2]; omega)
  have HB0 := Lib.hid ((Below.refl w.heap.size w).alloc (Nat.le_refl _) (.cells #[.int .i64 T, .slice qa DQ qc, .slice ia M ic, .slice da DD dc] 28))
  have HX0 := Lib.hid (new w #[.int .i64 T, .slice qa DQ qc, .slice ia M ic, .slice da DD dc] 28)
  clear hz2
  go_enter Tryz.func54, Tryz.ntmps54
  go_wp2_with (at_make; refine wpList_make_full _ rfl _ _ 75 rfl (w.heap.size + 1) 4 i0 (.bool false) 1 Tryz.underlying75 hi0 hz0 hz1 .i64 .i64 _ _ 56 rfl rfl rfl rfl ?c1 ?c2 ?c3 ?_)
  case c1 => exact HRO.out
  case c2 => unfold maxLen; omega
  case c3 => simp
  intro w1 hown1 hg1
  have HO1 := Lib.hid (show w1.ownsRow (w.heap.size + 1) 4 1 (.slice (some ⟨w.heap.size + 1, 0, none⟩) 56 56) 56 (bl (FsV.seen l 0 0)) from by
    have e : FsV.seen l 0 0 = [] := rfl
    rw [e, bl_nil]
    have key : ∀ xs, w1.ownsRow (w.heap.size + 1) 4 1 (.slice (some ⟨w.heap.size + 1, 0, none⟩) 56 56) 56 xs → xs = List.replicate 56 (.bool false) → w1.ownsRow (w.heap.size + 1) 4 1 (.slice (some ⟨w.heap.size + 1, 0, none⟩) 56 56) 56 (List.replicate 56 (.bool false)) := fun xs h e => e ▸ h
    exact key _ (by simpa only [World.size_alloc] using hown1) (by kernel_rfl))
  have HX1 := Lib.hid (HX0.out.grown hg1 (by simp))
  have HB1 := Lib.hid (HB0.out.grown hg1 HB0.out.size (fun k hk => by cases hk))
  have hsz1 := hg1.size
  simp only [World.size_alloc] at hsz1
  have hx2 := HX1.out.cell 2
  dsimp at hx2
  clear hown1 hg1 HX0 HB0
  go_wp2
  clear hx2
  go_loopw [13] (fun iv wr => ∃ i : Nat, i ≤ M ∧ iv = .int .i64 i ∧ wr.ownsRow (w.heap.size + 1) 4 1 (.slice (some ⟨w.heap.size + 1, 0, none⟩) 56 56) 56 (bl (FsV.seen l i 0)) ∧ goB [] (pre l i 0) = true ∧ Below w.heap.size w wr) (fun iv _ => M - (intOf iv).toNat)
  case atStart => exact ⟨0, Nat.zero_le _, rfl, HO1.out, rfl, HB1.out⟩
  case round =>
    obtain ⟨i, hi, rfl, hown, hgo, hbel⟩ := hrel
    have HB := Lib.hid hbel
    have HO := Lib.hid hown
    have HG := Lib.hid hgo
    have hsz := hbel.size
    clear hown hbel hgo HO1 HB1 HX1 hsz1
    by_cases hlt : i < M
    · have hlx : i < l.length := by rw [← HM.out]; exact hlt
      obtain ⟨b, o, rfl, hb, r0, r1, r2, hC, hP⟩ := HC.out i hlx
      obtain ⟨p0, p1, p2⟩ := hP
      obtain ⟨a0, d0, rfl, hble, hbat⟩ := p0
      obtain ⟨a1, d1, rfl⟩ := AeF.form p1
      obtain ⟨a2, d2, rfl⟩ := AeF.form p2
      obtain ⟨c0, c1, c2, c3, c4, c5, c6, c7, c8, c9⟩ := hC.below hb HB.out
      clear hC p1 p2
      have hcx := HCA.out i hlx
      have HUI := Lib.hid (HU.out _ (IF.mem_getD hlx))
      have HBA := Lib.hid hbat
      have HE1 := Lib.hid (FsV.seen_end l i hlx)
      have HE2 := Lib.hid (FsV.pre_end l i hlx)
      have HSN := Lib.hid (FsV.seen_snoc l i)
      have HNI := Lib.hid (fun j hj => HNO.out i j hlx hj)
      have HSI := Lib.hid (fun j hj => HST.out i j hj)
      rw [show InoV.zero = IF.z0 from rfl] at HE1 HE2 HSN HNI HSI
      clear hbat
      generalize l.getD i IF.z0 = n at c0 c1 c2 c3 c4 c5 c6 c7 c8 c9 hcx HUI HBA HE1 HE2 HSN HNI HSI hble
      have hbl : n.blocks.length ≤ 1073741824 := Nat.le_trans (In.le_blocks n) hcx
      obtain ⟨m, hm⟩ : ∃ m, m = n.blocks.length := ⟨_, rfl⟩
      have HJE := Lib.hid (jj_end n.blocks m hm)
      rw [← hm] at c7 hbl hble HBA
      have HML := Lib.hid hm
      clear hm
      have HN := Lib.hid (HB.out.alloc hsz (.cells #[.int .i64 n.kind, .int .i64 n.mode, .int .i64 n.uid, .int .i64 n.gid, .int .i64 n.links, .int .i64 n.size, .int .i64 n.tick, .slice a0 m d0, .slice a1 n.acl.length d1, .slice a2 n.dflt.length d2] 47))
      have HXN := Lib.hid (new wr #[.int .i64 n.kind, .int .i64 n.mode, .int .i64 n.uid, .int .i64 n.gid, .int .i64 n.links, .int .i64 n.size, .int .i64 n.tick, .slice a0 m d0, .slice a1 n.acl.length d1, .slice a2 n.dflt.length d2] 47)
      have HON := Lib.hid (Strs.own_below HO.out ((Below.refl wr.heap.size wr).alloc (Nat.le_refl _) (.cells #[.int .i64 n.kind, .int .i64 n.mode, .int .i64 n.uid, .int .i64 n.gid, .int .i64 n.links, .int .i64 n.size, .int .i64 n.tick, .slice a0 m d0, .slice a1 n.acl.length d1, .slice a2 n.dflt.length d2] 47)))
      have hrl : w.heap.size + 1 < wr.heap.size := by
        rcases HO.out.2 with ⟨hh, _⟩ | ⟨g, c', cur, hh, _, hg, _⟩
        · cases hh
        · simp only [Value.slice.injEq, Option.some.injEq, Addr.mk.injEq, and_true, true_and] at hh
          obtain ⟨rfl, _⟩ := hh
          exact (Array.getElem?_eq_some_iff.1 hg).1
      obtain ⟨W1, hW1⟩ : ∃ W1, W1 = wr.heap.size := ⟨_, rfl⟩
      have HXW := Lib.hid HXN.out
      have HBW := Lib.hid (Below.refl wr.heap.size wr)
      have HB2 := Lib.hid ((Below.refl wr.heap.size wr).alloc (Nat.le_refl _) (.cells #[.int .i64 n.kind, .int .i64 n.mode, .int .i64 n.uid, .int .i64 n.gid, .int .i64 n.links, .int .i64 n.size, .int .i64 n.tick, .slice a0 m d0, .slice a1 n.acl.length d1, .slice a2 n.dflt.length d2] 47))
      rw [← hW1] at HXW hrl
      have hwl : W1 < wr.heap.size + 1 := by omega
      have HIX := Lib.hid (show jj n.blocks 0 = 0 from jj_zero _)
      go_wp2
      rw [← hW1]
      clear c0 c1 c2 c3 c4 c5 c6 c7 c8 c9
      go_loopw [20] (fun jv wq => ∃ j : Nat, j ≤ m ∧ jv = .int .i64 j ∧ wq.ownsRow (w.heap.size + 1) 4 1 (.slice (some ⟨w.heap.size + 1, 0, none⟩) 56 56) 56 (bl (FsV.seen l i (jj n.blocks j))) ∧ goB [] (pre l i (jj n.blocks j)) = true ∧ Bk wq W1 #[.int .i64 n.kind, .int .i64 n.mode, .int .i64 n.uid, .int .i64 n.gid, .int .i64 n.links, .int .i64 n.size, .int .i64 n.tick, .slice a0 m d0, .slice a1 n.acl.length d1, .slice a2 n.dflt.length d2] 47 ∧ W1 < wq.heap.size ∧ Below w.heap.size w wq) (fun jv _ => m - (intOf jv).toNat)
      case atStart => exact ⟨0, Nat.zero_le _, rfl, by rw [HIX.out]; exact HON.out, by rw [HIX.out]; exact HG.out, HXW.out, by simpa using hwl, HN.out⟩
      case round =>
        obtain ⟨j, hj, rfl, hown, hgo, hxn, hszq, hbel⟩ := hrel
        replace HN := Lib.hid hbel
        replace HON := Lib.hid hown
        replace HG := Lib.hid hgo
        replace HXN := Lib.hid hxn
        clear hown hbel hgo hxn HXW HBW HB2 hW1 hwl
        by_cases hltj : j < m
        · obtain ⟨b2, o2, rfl, hlt2, g0⟩ := HBA.out j hltj
          rw [← HN.out.cell (p := ⟨b2, o2 + j, none⟩) hlt2] at g0
          have hjl : j < n.blocks.length := by rw [← HML.out]; exact hltj
          have HJH := Lib.hid (fun h => jj_hole (l := n.blocks) hjl h)
          have HJB := Lib.hid (fun h => jj_block (l := n.blocks) hjl h)
          generalize n.blocks.getD j 0 = x at g0 HJH HJB
          by_cases hm1 : x = -1
          · subst hm1
            have HON2 := Lib.hid (show wr.ownsRow (w.heap.size + 1) 4 1 (.slice (some ⟨w.heap.size + 1, 0, none⟩) 56 56) 56 (bl (FsV.seen l i (jj n.blocks (j + 1)))) from by rw [HJH.out rfl]; exact HON.out)
            have HG2 := Lib.hid (show goB [] (pre l i (jj n.blocks (j + 1))) = true from by rw [HJH.out rfl]; exact HG.out)
            go_wp2
            go_roundw
            case rel => exact ⟨j + 1, by omega, by go_num, HON2.out, HG2.out, HXN.out, hszq, HN.out⟩
            case measure => simp [intOf]; omega
          · obtain ⟨hj1, hj2, hj3⟩ := HJB.out hm1
            have hx1 : (x == -1) = false := by simpa using hm1
            have hx2 : (x != -1) = true := by simpa using hm1
            have HNJ := Lib.hid (HNI.out _ hj2)
            have HSK := Lib.hid (HSI.out _ hj2 HG.out)
            have HSJ := Lib.hid (HSN.out _ hj2)
            have HJ1 := Lib.hid hj1
            rw [hj3] at HNJ HSK HSJ
            clear hj1 hj2 hj3 hm1 HJH HJB
            have hu2 := Fam.cell (W := wr) (p := ⟨W1, 2, none⟩) hszq (show _ = some (.int .i64 n.uid) from HXN.out.cell 2)
            have HOW := Lib.hid (fun W => FsO.owner_spec x W)
            by_cases hown : ownerV x = n.uid
            · obtain ⟨hx0, hx55, _⟩ := FsV.owner_in hown (by have := HUI.out; omega)
              have HOB := Lib.hid (decide_eq_true hown)
              have hB1 : (ownerV x == n.uid) = true := by simpa using hown
              have hB2 : (ownerV x != n.uid) = false := by simpa using hown
              clear hown
              obtain ⟨k, rfl⟩ : ∃ k : Nat, x = k := ⟨x.toNat, by omega⟩
              have hk : k < 56 := by omega
              have hrow := HON.out.cellAt k (by omega)
              rw [bl_at _ k hk] at hrow
              obtain ⟨C, hC⟩ : ∃ C, hasB (FsV.seen l i (jj n.blocks j)) (k : Int) = C := ⟨_, rfl⟩
              rw [hC] at hrow
              have HCC := Lib.hid hC
              have HONE := Lib.hid (show oneB (FsV.seen l i (jj n.blocks j)) (n.uid, (k : Int)) = !C from by rw [oneB, HOB.out, hC]; rfl)
              have hzr := Fam.cell (W := wr) (p := ⟨w.heap.size + 1, k, none⟩) (by show w.heap.size + 1 < _; omega) hrow
              clear hC hx0 hx55 hrow
              go_wp2
              clear g0 hx1 hx2
              refine Fam.region (by kernel_rfl) (by kernel_rfl) ?_
              cases C
              · repeat (go_big_quiet_step (first | (go_at_call 78; with_reducible refine Fam.calls_same (HOW.out _))))
                refine wpQuiet_nil ?_
                intro _ hw'
                obtain ⟨nq, hw''⟩ := hw'
                subst hw''
                have hbq := Fam.wld_below _ nq
                generalize Fam.wld _ nq = w9 at hbq ⊢
                have HS := Lib.hid (HSK.out (by rw [HONE.out]; rfl))
                have HB9 := Lib.hid (HN.out.trans (hbq.mono HN.out.size))
                have HO9 := Lib.hid (Strs.own_below HON.out hbq)
                have HX9 := Lib.hid (HXN.out.all hbq)
                have hs9 := hbq.size
                have hck := HO9.out.cellAt k (by omega)
                rw [bl_at _ k hk] at hck
                have hfk := HO9.out.frozenAt k
                have hst := HO9.out.stored k (.bool true)
                rw [bl_set _ k hk, ← HSJ.out, ← HJ1.out] at hst
                have HST2 := Lib.hid hst.1
                have HX2 := Lib.hid (HX9.out.grown hst.2 (by simp; omega))
                have HB2 := Lib.hid (HB9.out.setCell (p := ⟨w.heap.size + 1, k, none⟩) (by simp) (.bool true))
                clear hbq hu2 hzr hB1 hB2 hst
                go_wp2
                go_roundw
                case rel => exact ⟨j + 1, by omega, by go_num, HST2.out, by rw [HJ1.out]; exact HS.out, HX2.out, by simp; omega, HB2.out⟩
                case measure => simp [intOf]; omega
              · repeat (go_big_quiet_step (first | (go_at_call 78; with_reducible refine Fam.calls_same (HOW.out _))))
                refine wpQuiet_nil ?_
                intro _ hw'
                obtain ⟨nq, hw''⟩ := hw'
                subst hw''
                have hbq := Fam.wld_below _ nq
                generalize Fam.wld _ nq = w9 at hbq ⊢
                have HF := Lib.hid (HNJ.out (by rw [HONE.out]; rfl))
                have HB9 := Lib.hid (HN.out.trans (hbq.mono HN.out.size))
                clear hbq hu2 hzr hB1 hB2
                go_wp2
                go_ret2
                exact ⟨_, by rw [HF.out]; rfl, (fun h => by rw [HF.out] at h; cases h), HB9.out⟩
            · have HONE := Lib.hid (show oneB (FsV.seen l i (jj n.blocks j)) (n.uid, x) = false from by rw [oneB, decide_eq_false hown]; rfl)
              have hB1 : (ownerV x == n.uid) = false := by simpa using hown
              have hB2 : (ownerV x != n.uid) = true := by simpa using hown
              clear hown
              go_wp2
              clear g0 hx1 hx2
              refine Fam.region (by kernel_rfl) (by kernel_rfl) ?_
              repeat (go_big_quiet_step (first | (go_at_call 78; with_reducible refine Fam.calls_same (HOW.out _))))
              refine wpQuiet_nil ?_
              intro _ hw'
              obtain ⟨nq, hw''⟩ := hw'
              subst hw''
              have hbq := Fam.wld_below _ nq
              generalize Fam.wld _ nq = w9 at hbq ⊢
              have HF := Lib.hid (HNJ.out HONE.out)
              have HB9 := Lib.hid (HN.out.trans (hbq.mono HN.out.size))
              clear hbq hu2 hB1 hB2
              go_wp2
              go_ret2
              exact ⟨_, by rw [HF.out]; rfl, (fun h => by rw [HF.out] at h; cases h), HB9.out⟩
        · obtain rfl : j = m := by omega
          have HO3 := Lib.hid (show wr.ownsRow (w.heap.size + 1) 4 1 (.slice (some ⟨w.heap.size + 1, 0, none⟩) 56 56) 56 (bl (FsV.seen l (i + 1) 0)) from by rw [← HE1.out, ← HJE.out]; exact HON.out)
          have HG3 := Lib.hid (show goB [] (pre l (i + 1) 0) = true from by rw [← HE2.out, ← HJE.out]; exact HG.out)
          go_wp2
          go_roundw
          case rel => exact ⟨i + 1, by omega, by go_num, HO3.out, HG3.out, HN.out⟩
          case measure => simp [intOf]; omega
    · obtain rfl : i = M := by omega
      have HF := Lib.hid (HEN.out i HM.out HG.out)
      have HO3 := Lib.hid (show wr.ownsRow w.heap.size 4 1 (.slice (some ⟨w.heap.size + 1, 0, none⟩) 56 56) 56 (bl (allB l)) from by
        have := HO.out
        rw [FsV.seen_zero, List.take_of_length_le (by rw [← HM.out]; exact Nat.le_refl _)] at this
        exact row_mono this (by omega))
      go_wp2
      go_ret2
      exact ⟨_, by rw [HF.out]; rfl, (fun _ => ⟨_, rfl, HO3.out⟩), HB.out⟩
end Go.Proofs.YtmljjdglmlnbaaaGreatDoor.FsK

-- YtmljjdglmlnbaaaGreatDoorFsS
/- Contract: the model's IsFS. Conditions: as the theorem types them. -/
namespace Go.Proofs.YtmljjdglmlnbaaaGreatDoor.FsS
open Go.ChangeShapes Go.WideShapes Go.ChangeAt Go.RowKit
open Foot Bx
open InoV (I usedV hasB needV)
open FsV (F allB ownB beyond zB freeB elseB okF partsB quB tickB rootB allTo rangeTo)
open Dk (ret_bool)
open FsB (Fit)
set_option linter.unusedVariables false

theorem zeroes_spec (s : ByteArray) (w : World) (h : s.size ≤ maxLen) : Calls Tryz.prog 55 #[.string s] w fun e w' => e = .returned (.bool (zB s)) ∧ w = w' := IsZeroes.spec_any s w h
theorem ok_no_parts {f : F} (h : partsB f = false) : okF f = false := by rw [okF, h]; simp
theorem ok_no_tick {f : F} (h : tickB f = false) : okF f = false := by rw [okF, h]; rfl
theorem ok_no_root {f : F} (h : rootB f = false) : okF f = false := by rw [okF, h]; simp
theorem ok_no_own {f : F} (h : ownB f.inodes = false) : okF f = false := by rw [okF, h]; simp
theorem ok_no_else {f : F} (h : elseB f = false) : okF f = false := by rw [okF, h]; simp
theorem ok_yes {f : F} (h1 : tickB f = true) (h2 : partsB f = true) (h3 : rootB f = true) (h4 : ownB f.inodes = true) (h5 : elseB f = true) : okF f = true := by rw [okF, h1, h2, h3, h4, h5]; rfl
theorem in_any (x lo hi : Int) {A : Bool} (h : (decide (lo ≤ x) && decide (x ≤ hi)) = A) (w : World) : Calls Tryz.prog 52 #[.int .i64 x, .int .i64 lo, .int .i64 hi] w fun e w' => e = .returned (.bool A) ∧ w = w' := by
  have := AclS.in_any x lo hi w; rw [h] at this; exact this

/-- The last test: what lies beyond the size, as the model asks. -/
theorem last_zero {f : F} {n : I} (h : n.blocks.length = 0) : zB (beyond f n) = true := by rw [FsB.beyond_none h]; rfl
theorem last_hole {f : F} {n : I} {L : Nat} (hL : n.blocks.length = L + 1) (h : n.blocks.getD L 0 = -1) : zB (beyond f n) = true := by rw [FsB.beyond_hole hL h]; rfl

set_option maxRecDepth 100000 in
set_option maxHeartbeats 12800000 in
theorem is_spec (w : World) (v : Value) (f : F) (hc : FsF.cost f ≤ 1073741824) (hl : FsF.Lim f) (h : FsF.Holds w v f) :
    Calls Tryz.prog 25 #[v] w fun e w' => e = .returned (.bool (okF f)) ∧ Below w.heap.size w w' := by
  have HFS := Lib.hid h
  have HCA := Lib.hid (fun i (hi : i < f.inodes.length) => FsP.cost_at hc hi)
  have HSA := Lib.hid (fun i (hi : i < f.data.length) => FsP.size_at hl hi)
  have HCC := Lib.hid hc
  obtain ⟨r0, r1, r2, rfl, g0, g1, g2⟩ := h
  obtain ⟨qa, qc, rfl, hQ⟩ := Qt.atL g0
  obtain ⟨ia, ic, rfl, _, hI⟩ := IF.atL g1
  obtain ⟨da, dc, rfl, hD⟩ := g2
  have HQ := Lib.hid hQ
  have HI := Lib.hid hI
  have HD := Lib.hid (show ∀ i, i < f.data.length → ∃ b o, da = some ⟨b, o, none⟩ ∧ b < w.heap.size ∧ w.cell? ⟨b, o + i, none⟩ = some (.string (f.data.getD i ⟨#[]⟩)) from fun i hi => by
    obtain ⟨b, o, e, hlt, hcell⟩ := hD (by intro e; rw [e] at hi; simp at hi)
    exact ⟨b, o, e, hlt, hcell i hi⟩)
  have hlq : f.quotas.length ≤ 1073741824 := Nat.le_trans (FsF.le_quotas f) hc
  have hli : f.inodes.length ≤ 1073741824 := Nat.le_trans (Nat.le_trans (Nat.le_add_right _ _) (FsF.le_inodes f)) hc
  have hld : f.data.length ≤ 1073741824 := Nat.le_trans (Nat.le_trans (Nat.le_add_right _ _) (FsF.le_data f)) hc
  clear g0 g1 hQ hI hD hc hl
  have HN1 := Lib.hid (fun h => ok_no_parts (FsP.parts_quo (f := f) h))
  have HN2 := Lib.hid (fun h => ok_no_parts (FsP.parts_ino (f := f) h))
  have HN3 := Lib.hid (fun h => ok_no_parts (FsP.parts_dat (f := f) h))
  obtain ⟨A, hA⟩ : ∃ A, tickB f = A := ⟨_, rfl⟩
  have hin := in_any f.tick 0 1000000000 hA
  have HTK := Lib.hid hA
  have HIN := Lib.hid hin
  obtain ⟨T, hT⟩ : ∃ T, T = f.tick := ⟨_, rfl⟩
  rw [← hT] at HIN HFS ⊢
  clear hT hA hin
  by_cases h1 : f.quotas.length = 4
  · by_cases h2 : f.inodes.length = 20
    · by_cases h3 : f.data.length = 56
      · have HL1 := Lib.hid h1
        have HL2 := Lib.hid h2
        have HL3 := Lib.hid h3
        rw [h1, h2, h3] at HFS ⊢
        clear h1 h2 h3 hlq hli hld
        have HB0 := Lib.hid ((Below.refl w.heap.size w).alloc (Nat.le_refl _) (.cells #[.int .i64 T, .slice qa 4 qc, .slice ia 20 ic, .slice da 56 dc] 28))
        have HX0 := Lib.hid (new w #[.int .i64 T, .slice qa 4 qc, .slice ia 20 ic, .slice da 56 dc] 28)
        cases A
        · have HF := Lib.hid (ok_no_tick HTK.out)
          go_enter Tryz.func25, Tryz.ntmps25
          go_wp2_with fail
          refine (HIN.out _).mono ?_
          rintro e w1 ⟨rfl, rfl⟩
          go_wp2
          go_ret
          exact ⟨ret_bool HF.out.symm, HB0.out⟩
        go_enter Tryz.func25, Tryz.ntmps25
        go_wp2_with fail
        refine (HIN.out _).mono ?_
        rintro e w1 ⟨rfl, rfl⟩
        go_wp2
        go_loopw [39] (fun iv wr => ∃ k : Nat, k ≤ 4 ∧ iv = .int .i64 k ∧ Bk wr w.heap.size #[.int .i64 T, .slice qa 4 qc, .slice ia 20 ic, .slice da 56 dc] 28 ∧ Below w.heap.size w wr ∧ allTo quB f.quotas k = true) (fun iv _ => 4 - (intOf iv).toNat)
        case atStart => exact ⟨0, Nat.zero_le _, rfl, HX0.out, HB0.out, FsV.allTo_zero _ _⟩
        case round =>
          obtain ⟨k, hk, rfl, hx, hbel, hr⟩ := hrel
          have HB := Lib.hid hbel
          have HX := Lib.hid hx
          have HR := Lib.hid hr
          have hsz := hbel.size
          clear hx hbel hr HB0 HX0 HIN
          by_cases hlt : k < 4
          · have hkl : k < f.quotas.length := by rw [HL1.out]; exact hlt
            obtain ⟨b, o, rfl, hb, hC⟩ := HQ.out k hkl
            obtain ⟨c0, c1⟩ := hC.below hb HB.out
            have hq := FsV.allTo_succ quB f.quotas Qt.a0 k hkl
            have HNO := Lib.hid (fun h => HN1.out (FsV.all_no (z := Qt.a0) hkl h))
            have HRQ := Lib.hid hq
            clear hC hq hkl
            generalize f.quotas.getD k Qt.a0 = q at c0 c1 HNO HRQ
            have HN := Lib.hid (HB.out.alloc hsz (.cells #[.int .i64 q.1, .int .i64 q.2] 51))
            have HXN := Lib.hid (HX.out.alloc (.cells #[.int .i64 q.1, .int .i64 q.2] 51))
            obtain ⟨B, hB⟩ : ∃ B, (decide (0 ≤ q.1) && decide (q.1 ≤ 5)) = B := ⟨_, rfl⟩
            obtain ⟨C, hC⟩ : ∃ C, (decide (0 ≤ q.2) && decide (q.2 ≤ 14)) = C := ⟨_, rfl⟩
            have HI1 := Lib.hid (in_any q.1 0 5 hB)
            have HI2 := Lib.hid (in_any q.2 0 14 hC)
            have HQB := Lib.hid (show quB q = (B && C) from by rw [quB, hB, hC])
            clear hB hC
            cases B
            · have HF := Lib.hid (HNO.out (by rw [HQB.out]; rfl))
              go_wp2_with fail
              refine (HI1.out _).mono ?_
              rintro e w1 ⟨rfl, rfl⟩
              go_wp2
              go_ret
              exact ⟨ret_bool HF.out.symm, HN.out⟩
            · cases C
              · have HF := Lib.hid (HNO.out (by rw [HQB.out]; rfl))
                go_wp2_with fail
                refine (HI1.out _).mono ?_
                rintro e w1 ⟨rfl, rfl⟩
                go_wp2_with fail
                refine (HI2.out _).mono ?_
                rintro e w1 ⟨rfl, rfl⟩
                go_wp2
                go_ret
                exact ⟨ret_bool HF.out.symm, HN.out⟩
              · have HS := Lib.hid (show allTo quB f.quotas (k + 1) = true by rw [HRQ.out, HR.out, HQB.out]; rfl)
                go_wp2_with fail
                refine (HI1.out _).mono ?_
                rintro e w1 ⟨rfl, rfl⟩
                go_wp2_with fail
                refine (HI2.out _).mono ?_
                rintro e w1 ⟨rfl, rfl⟩
                go_wp2
                go_roundw
                case rel => exact ⟨k + 1, by omega, by go_num, HXN.out, HN.out, HS.out⟩
                case measure => simp [intOf]; omega
          · obtain rfl : k = 4 := by omega
            rw [show ((4 : Nat) : Int) = 4 from rfl]
            have HQA := Lib.hid (show f.quotas.all quB = true by rw [← FsV.allTo_end quB f.quotas 4 HL1.out.symm]; exact HR.out)
            have x2 := HX.out.cell 2
            dsimp at x2
            go_wp2
            clear x2
            go_loopw [57] (fun iv wr => ∃ k : Nat, k ≤ 20 ∧ iv = .int .i64 k ∧ Bk wr w.heap.size #[.int .i64 T, .slice qa 4 qc, .slice ia 20 ic, .slice da 56 dc] 28 ∧ Below w.heap.size w wr ∧ allTo InoV.okI f.inodes k = true) (fun iv _ => 20 - (intOf iv).toNat)
            case atStart => exact ⟨0, Nat.zero_le _, rfl, HX.out, HB.out, FsV.allTo_zero _ _⟩
            case round =>
              obtain ⟨k, hk, rfl, hx, hbel, hr⟩ := hrel
              replace HB := Lib.hid hbel
              replace HX := Lib.hid hx
              replace HR := Lib.hid hr
              have hsz := hbel.size
              clear hx hbel hr
              by_cases hlt : k < 20
              · have hkl : k < f.inodes.length := by rw [HL2.out]; exact hlt
                obtain ⟨b, o, rfl, hb, r0, r1, r2, hC, hP⟩ := HI.out k hkl
                have HP := Lib.hid (IF.parts_holds (IF.parts_below hP HB.out))
                obtain ⟨p0, p1, p2⟩ := hP
                obtain ⟨a0, d0, rfl⟩ := NiF.form p0
                obtain ⟨a1, d1, rfl⟩ := AeF.form p1
                obtain ⟨a2, d2, rfl⟩ := AeF.form p2
                obtain ⟨c0, c1, c2, c3, c4, c5, c6, c7, c8, c9⟩ := hC.below hb HB.out
                have hq := FsV.allTo_succ InoV.okI f.inodes IF.z0 k hkl
                have HNO := Lib.hid (fun h => HN2.out (FsV.all_no (z := IF.z0) hkl h))
                have HRQ := Lib.hid hq
                have hcx := HCA.out k hkl
                clear hC p0 p1 p2 hq hkl
                rw [show InoV.zero = IF.z0 from rfl] at hcx
                generalize f.inodes.getD k IF.z0 = n at c0 c1 c2 c3 c4 c5 c6 c7 c8 c9 HNO HRQ hcx HP
                have HW := Lib.hid ((Below.refl wr.heap.size wr).alloc (Nat.le_refl _) (.cells #[.int .i64 n.kind, .int .i64 n.mode, .int .i64 n.uid, .int .i64 n.gid, .int .i64 n.links, .int .i64 n.size, .int .i64 n.tick, .slice a0 n.blocks.length d0, .slice a1 n.acl.length d1, .slice a2 n.dflt.length d2] 47))
                have HN := Lib.hid (HB.out.trans (HW.out.mono hsz))
                have HXN := Lib.hid (HX.out.alloc (.cells #[.int .i64 n.kind, .int .i64 n.mode, .int .i64 n.uid, .int .i64 n.gid, .int .i64 n.links, .int .i64 n.size, .int .i64 n.tick, .slice a0 n.blocks.length d0, .slice a1 n.acl.length d1, .slice a2 n.dflt.length d2] 47))
                have HPN := Lib.hid (In.holds_below HP.out HW.out)
                go_wp2_with fail
                refine (InOs.is_any _ _ n hcx HPN.out).mono ?_
                rintro e w1 ⟨rfl, hb1⟩
                replace HN := Lib.hid (HN.out.trans (hb1.mono HN.out.size))
                replace HXN := Lib.hid (HXN.out.all hb1)
                clear hb1 c0 c1 c2 c3 c4 c5 c6 c7 c8 c9
                cases hq : InoV.okI n
                · have HF := Lib.hid (HNO.out hq)
                  clear hq
                  go_wp2
                  go_ret
                  exact ⟨ret_bool HF.out.symm, HN.out⟩
                · have HS := Lib.hid (show allTo InoV.okI f.inodes (k + 1) = true by rw [HRQ.out, HR.out, hq]; rfl)
                  clear hq
                  go_wp2
                  go_roundw
                  case rel => exact ⟨k + 1, by omega, by go_num, HXN.out, HN.out, HS.out⟩
                  case measure => simp [intOf]; omega
              · obtain rfl : k = 20 := by omega
                rw [show ((20 : Nat) : Int) = 20 from rfl]
                have HIA := Lib.hid (show f.inodes.all InoV.okI = true by rw [← FsV.allTo_end InoV.okI f.inodes 20 HL2.out.symm]; exact HR.out)
                have HUID := Lib.hid (show ∀ n ∈ f.inodes, 0 ≤ n.uid from fun n hn => (InoV.ok_nums (List.all_eq_true.1 HIA.out n hn)).2.2.2.2.1)
                obtain ⟨b, o, rfl, hb, r0, r1, r2, hC, hPt⟩ := HI.out 0 (by rw [HL2.out]; omega)
                have c0 := (hC.below hb HB.out).1
                have HRB := Lib.hid (show rootB f = decide ((f.inodes.getD 0 IF.z0).kind = 2) from rfl)
                rw [Nat.zero_mul, Nat.add_zero] at c0
                clear hC hPt
                generalize (f.inodes.getD 0 IF.z0).kind = K at c0 HRB
                obtain ⟨x0, x1, x2, x3⟩ := Bk.c4 HX.out
                by_cases hk2 : K = 2
                · have k1 : (K == 2) = true := by simpa using hk2
                  have k2 : (K != 2) = false := by simpa using hk2
                  have HRT := Lib.hid (show rootB f = true by rw [HRB.out]; exact decide_eq_true hk2)
                  clear hk2
                  go_wp2_with fail
                  refine (FsK.used_any _ _ f HCC.out HUID.out (FsF.holds_below HFS.out HB.out)).mono ?_
                  rintro e w2 ⟨y, rfl, hrow, hb2⟩
                  have HB2 := Lib.hid (HB.out.trans (hb2.mono HB.out.size))
                  have HX2 := Lib.hid (HX.out.all hb2)
                  have HROW := Lib.hid hrow
                  clear hb2 x0 x1 x2 x3 c0 k1 k2 hrow
                  cases ho : ownB f.inodes
                  · have HF := Lib.hid (ok_no_own ho)
                    clear ho
                    go_wp2
                    go_ret
                    exact ⟨ret_bool HF.out.symm, HB2.out⟩
                  · have HO := Lib.hid ho
                    obtain ⟨g, rfl, hrow⟩ := HROW.out ho
                    have HRW := Lib.hid hrow
                    clear ho hrow HROW
                    have x3 := HX2.out.cell 3
                    dsimp at x3
                    go_wp2
                    clear x3
                    obtain ⟨W0, hW0⟩ : ∃ W0, W0 = wr.heap.size := ⟨_, rfl⟩
                    have HRW2 := Lib.hid (show w2.ownsRow W0 4 1 (.slice (some ⟨g, 0, none⟩) 56 56) 56 (FsK.bl (allB f.inodes)) from by rw [hW0]; exact HRW.out)
                    clear hW0 HRW
                    go_loopw [81] (fun iv wr => ∃ k : Nat, k ≤ 56 ∧ iv = .int .i64 k ∧ Bk wr w.heap.size #[.int .i64 T, .slice qa 4 qc, .slice (some ⟨b, o, none⟩) 20 ic, .slice da 56 dc] 28 ∧ wr.ownsRow W0 4 1 (.slice (some ⟨g, 0, none⟩) 56 56) 56 (FsK.bl (allB f.inodes)) ∧ Below w.heap.size w wr ∧ allTo (fun s => decide (s.size = 32)) f.data k = true ∧ rangeTo (freeB f) k = true) (fun iv _ => 56 - (intOf iv).toNat)
                    case atStart => exact ⟨0, Nat.zero_le _, rfl, HX2.out, HRW2.out, HB2.out, FsV.allTo_zero _ _, rfl⟩
                    case round =>
                      obtain ⟨k, hk, rfl, hx, hrow, hbel, hr, hr2⟩ := hrel
                      replace HB := Lib.hid hbel
                      replace HX := Lib.hid hx
                      replace HR := Lib.hid hr
                      have HR2 := Lib.hid hr2
                      have HRW := Lib.hid hrow
                      have hsz := hbel.size
                      clear hx hbel hr hr2 hrow HRW2 HX2 HB2
                      by_cases hlt : k < 56
                      · have hkl : k < f.data.length := by rw [HL3.out]; exact hlt
                        obtain ⟨b2, o2, rfl, hb2, c0⟩ := HD.out k hkl
                        rw [← HB.out.cell (p := ⟨b2, _, none⟩) hb2] at c0
                        have hcx := HSA.out k hkl
                        have HSU1 := Lib.hid (FsV.allTo_succ (fun s => decide (s.size = 32)) f.data ⟨#[]⟩ k hkl)
                        have HSU2 := Lib.hid (FsV.rangeTo_succ (freeB f) k)
                        have HNO1 := Lib.hid (fun h => HN3.out (FsV.all_no (z := ⟨#[]⟩) hkl h))
                        have HNO2 := Lib.hid (fun h => ok_no_else (FsE.else_no1 (f := f) hlt h))
                        have hfree : freeB f k = (hasB (allB f.inodes) k || zB (f.data.getD k ⟨#[]⟩)) := rfl
                        have hrw := HRW.out.cellAt k (by omega)
                        rw [FsK.bl_at _ k hlt] at hrw
                        generalize f.data.getD k ⟨#[]⟩ = s at c0 hcx hfree HSU1 HNO1
                        generalize hasB (allB f.inodes) (k : Int) = A at hrw hfree
                        have HFR := Lib.hid hfree
                        have HCX := Lib.hid hcx
                        clear hfree hkl
                        unfold maxLen at hcx
                        by_cases hs : s.size = 32
                        · have HS1 := Lib.hid (show allTo (fun s => decide (s.size = 32)) f.data (k + 1) = true by rw [HSU1.out, HR.out, decide_eq_true hs]; rfl)
                          have q1 : ((s.size : Int) != 32) = false := by simp [hs]
                          have q2 : ((s.size : Int) == 32) = true := by simp [hs]
                          clear hs
                          cases A
                          · go_wp2_with fail
                            refine (zeroes_spec s _ HCX.out).mono ?_
                            rintro e w3 ⟨rfl, rfl⟩
                            cases hz : zB s
                            · have HF := Lib.hid (HNO2.out (by rw [HFR.out, hz]; rfl))
                              clear hz
                              go_wp2
                              go_ret
                              exact ⟨ret_bool HF.out.symm, HB.out⟩
                            · have HS2 := Lib.hid (show rangeTo (freeB f) (k + 1) = true by rw [HSU2.out, HR2.out, HFR.out, hz]; rfl)
                              clear hz
                              go_wp2
                              go_roundw
                              case rel => exact ⟨k + 1, by omega, by go_num, HX.out, HRW.out, HB.out, HS1.out, HS2.out⟩
                              case measure => simp [intOf]; omega
                          · have HS2 := Lib.hid (show rangeTo (freeB f) (k + 1) = true by rw [HSU2.out, HR2.out, HFR.out]; rfl)
                            go_wp2
                            go_roundw
                            case rel => exact ⟨k + 1, by omega, by go_num, HX.out, HRW.out, HB.out, HS1.out, HS2.out⟩
                            case measure => simp [intOf]; omega
                        · have HF := Lib.hid (HNO1.out (decide_eq_false hs))
                          have q1 : ((s.size : Int) != 32) = true := by simp; omega
                          have q2 : ((s.size : Int) == 32) = false := by simp; omega
                          clear hs
                          go_wp2
                          go_ret
                          exact ⟨ret_bool HF.out.symm, HB.out⟩
                      · obtain rfl : k = 56 := by omega
                        rw [show ((56 : Nat) : Int) = 56 from rfl]
                        have HRA := Lib.hid (show (List.range 56).all (freeB f) = true from HR2.out)
                        have HPT := Lib.hid (FsV.parts_mk HL1.out HL2.out HL3.out HQA.out HIA.out (by rw [← FsV.allTo_end (fun s => decide (s.size = 32)) f.data 56 HL3.out.symm]; exact HR.out))
                        have HFIT := Lib.hid (fun i hi => FsE.fit_of (i := i) HPT.out HO.out hi)
                        have HNL := Lib.hid (fun i hi h => ok_no_else (FsE.else_no2 (f := f) (i := i) hi h))
                        have x2 := HX.out.cell 2
                        dsimp at x2
                        go_wp2
                        clear x2
                        go_loopw [105] (fun iv wr => ∃ k : Nat, k ≤ 20 ∧ iv = .int .i64 k ∧ Bk wr w.heap.size #[.int .i64 T, .slice qa 4 qc, .slice (some ⟨b, o, none⟩) 20 ic, .slice da 56 dc] 28 ∧ Below w.heap.size w wr ∧ allTo (fun n => zB (beyond f n)) f.inodes k = true) (fun iv _ => 20 - (intOf iv).toNat)
                        case atStart => exact ⟨0, Nat.zero_le _, rfl, HX.out, HB.out, FsV.allTo_zero _ _⟩
                        case round =>
                          obtain ⟨k, hk, rfl, hx, hbel, hr⟩ := hrel
                          replace HB := Lib.hid hbel
                          replace HX := Lib.hid hx
                          replace HR := Lib.hid hr
                          have hsz := hbel.size
                          clear hx hbel hr HRW HR2
                          by_cases hlt : k < 20
                          · have hkl : k < f.inodes.length := by rw [HL2.out]; exact hlt
                            obtain ⟨b', o', e1, hb1, r0, r1, r2, hC, hP⟩ := HI.out k hkl
                            simp only [Option.some.injEq, Addr.mk.injEq, and_true] at e1
                            obtain ⟨rfl, rfl⟩ := e1
                            obtain ⟨p0, p1, p2⟩ := hP
                            obtain ⟨a0, d0, rfl, _, hbat⟩ := p0
                            obtain ⟨a1, d1, rfl⟩ := AeF.form p1
                            obtain ⟨a2, d2, rfl⟩ := AeF.form p2
                            obtain ⟨c0, c1, c2, c3, c4, c5, c6, c7, c8, c9⟩ := hC.below hb1 HB.out
                            have HBL := Lib.hid hbat
                            have HSU := Lib.hid (FsV.allTo_succ (fun n => zB (beyond f n)) f.inodes IF.z0 k hkl)
                            have HNO := Lib.hid (HNL.out k hkl)
                            have HFI := Lib.hid (HFIT.out k hkl)
                            rw [show InoV.zero = IF.z0 from rfl] at HNO HFI
                            clear hC p1 p2 hkl hbat
                            generalize f.inodes.getD k IF.z0 = n at c0 c1 c2 c3 c4 c5 c6 c7 c8 c9 HNO HSU HFI HBL
                            rcases Nat.eq_zero_or_pos n.blocks.length with h0 | hpos
                            · have HS := Lib.hid (show allTo (fun n => zB (beyond f n)) f.inodes (k + 1) = true by rw [HSU.out, HR.out, last_zero h0]; rfl)
                              rw [h0] at c7
                              clear h0
                              have HN := Lib.hid (HB.out.alloc hsz (.cells #[.int .i64 n.kind, .int .i64 n.mode, .int .i64 n.uid, .int .i64 n.gid, .int .i64 n.links, .int .i64 n.size, .int .i64 n.tick, .slice a0 0 d0, .slice a1 n.acl.length d1, .slice a2 n.dflt.length d2] 47))
                              have HXN := Lib.hid (HX.out.alloc (.cells #[.int .i64 n.kind, .int .i64 n.mode, .int .i64 n.uid, .int .i64 n.gid, .int .i64 n.links, .int .i64 n.size, .int .i64 n.tick, .slice a0 0 d0, .slice a1 n.acl.length d1, .slice a2 n.dflt.length d2] 47))
                              have HXI := Lib.hid (new wr #[.int .i64 n.kind, .int .i64 n.mode, .int .i64 n.uid, .int .i64 n.gid, .int .i64 n.links, .int .i64 n.size, .int .i64 n.tick, .slice a0 0 d0, .slice a1 n.acl.length d1, .slice a2 n.dflt.length d2] 47)
                              go_wp2
                              clear c0 c1 c2 c3 c4 c5 c6 c7 c8 c9
                              refine Fam.region (by kernel_rfl) (by kernel_rfl) ?_
                              repeat (go_big_quiet_step (fail))
                              refine wpQuiet_nil ?_
                              intro _ hw'
                              obtain ⟨nq, hw''⟩ := hw'
                              subst hw''
                              have hbq := Fam.wld_below _ nq
                              generalize Fam.wld _ nq = w9 at hbq ⊢
                              have HB9 := Lib.hid (HN.out.trans (hbq.mono HN.out.size))
                              have HX9 := Lib.hid (HXN.out.all hbq)
                              clear hbq
                              go_wp2
                              go_roundw
                              case rel => exact ⟨k + 1, by omega, by go_num, HX9.out, HB9.out, HS.out⟩
                              case measure => simp [intOf]; omega
                            · obtain ⟨L, hL⟩ : ∃ L, n.blocks.length = L + 1 := ⟨n.blocks.length - 1, by omega⟩
                              obtain ⟨X, hX, hX32, hL7⟩ := HFI.out.x hL
                              obtain ⟨b1, o1, rfl, hlt1, gB⟩ := HBL.out L (by omega)
                              have HHO := Lib.hid (fun h => last_hole (f := f) hL h)
                              have HAT := Lib.hid (fun k h => FsB.beyond_at (f := f) (k := k) hL h hX)
                              have hbk := HFI.out.blk _ (show n.blocks.getD L 0 ∈ n.blocks from FsV.mem_getD (by omega))
                              have HSZ := Lib.hid HFI.out.size
                              rw [hL] at c7
                              rw [hX] at c5
                              clear hL hX hpos HFI HBL
                              rw [← HB.out.cell (p := ⟨b1, o1 + L, none⟩) hlt1] at gB
                              have hl1 : b1 < wr.heap.size := by omega
                              generalize n.blocks.getD L 0 = bl at gB hbk HHO HAT
                              have HN := Lib.hid (HB.out.alloc hsz (.cells #[.int .i64 n.kind, .int .i64 n.mode, .int .i64 n.uid, .int .i64 n.gid, .int .i64 n.links, .int .i64 (↑X + ↑L * 32), .int .i64 n.tick, .slice (some ⟨b1, o1, none⟩) (L + 1) d0, .slice a1 n.acl.length d1, .slice a2 n.dflt.length d2] 47))
                              have HXN := Lib.hid (HX.out.alloc (.cells #[.int .i64 n.kind, .int .i64 n.mode, .int .i64 n.uid, .int .i64 n.gid, .int .i64 n.links, .int .i64 (↑X + ↑L * 32), .int .i64 n.tick, .slice (some ⟨b1, o1, none⟩) (L + 1) d0, .slice a1 n.acl.length d1, .slice a2 n.dflt.length d2] 47))
                              have HXI := Lib.hid (new wr #[.int .i64 n.kind, .int .i64 n.mode, .int .i64 n.uid, .int .i64 n.gid, .int .i64 n.links, .int .i64 (↑X + ↑L * 32), .int .i64 n.tick, .slice (some ⟨b1, o1, none⟩) (L + 1) d0, .slice a1 n.acl.length d1, .slice a2 n.dflt.length d2] 47)
                              have HWA := Lib.hid ((Below.refl wr.heap.size wr).alloc (Nat.le_refl _) (.cells #[.int .i64 n.kind, .int .i64 n.mode, .int .i64 n.uid, .int .i64 n.gid, .int .i64 n.links, .int .i64 (↑X + ↑L * 32), .int .i64 n.tick, .slice (some ⟨b1, o1, none⟩) (L + 1) d0, .slice a1 n.acl.length d1, .slice a2 n.dflt.length d2] 47))
                              by_cases hm : bl = -1
                              · subst hm
                                have HS := Lib.hid (show allTo (fun n => zB (beyond f n)) f.inodes (k + 1) = true by rw [HSU.out, HR.out, HHO.out rfl]; rfl)
                                clear hbk HSZ HAT HHO
                                go_wp2
                                clear c0 c1 c2 c3 c4 c5 c6 c7 c8 c9
                                have gB2 := HWA.out.cell (p := ⟨b1, o1 + L, none⟩) hl1
                                rw [gB] at gB2
                                have y7 := HXI.out.cell 7
                                dsimp at y7
                                clear gB
                                generalize wr.alloc (.cells #[.int .i64 n.kind, .int .i64 n.mode, .int .i64 n.uid, .int .i64 n.gid, .int .i64 n.links, .int .i64 (↑X + ↑L * 32), .int .i64 n.tick, .slice (some ⟨b1, o1, none⟩) (L + 1) d0, .slice a1 n.acl.length d1, .slice a2 n.dflt.length d2] 47) = w0 at *
                                have hsz0 := HWA.out.size
                                have z7 := Fam.cell (W := w0) (p := ⟨wr.heap.size, 7, none⟩) HXI.out.lt y7
                                have zb := Fam.cell (W := w0) (p := ⟨b1, o1 + L, none⟩) (by show b1 < _; omega) gB2
                                clear y7 gB2
                                refine Fam.region (by kernel_rfl) (by kernel_rfl) ?_
                                repeat (go_big_quiet_step (fail))
                                refine wpQuiet_nil ?_
                                intro _ hw'
                                obtain ⟨nq, hw''⟩ := hw'
                                subst hw''
                                have hbq := Fam.wld_below _ nq
                                generalize Fam.wld _ nq = w9 at hbq ⊢
                                have HB9 := Lib.hid (HN.out.trans (hbq.mono HN.out.size))
                                have HX9 := Lib.hid (HXN.out.all hbq)
                                clear hbq z7 zb
                                go_wp2
                                go_roundw
                                case rel => exact ⟨k + 1, by omega, by go_num, HX9.out, HB9.out, HS.out⟩
                                case measure => simp [intOf]; omega
                              · obtain ⟨j, rfl⟩ : ∃ j : Nat, bl = j := ⟨bl.toNat, by omega⟩
                                have hj : j < 56 := by omega
                                obtain ⟨b2, o2, rfl, hlt2, gD⟩ := HD.out j (by rw [HL3.out]; exact hj)
                                rw [← HB.out.cell (p := ⟨b2, o2 + j, none⟩) hlt2] at gD
                                have hl2 : b2 < wr.heap.size := by omega
                                have HV := Lib.hid (HAT.out j rfl)
                                have hsz2 : (f.data.getD j ⟨#[]⟩).size = 32 := HSZ.out _ (FsV.mem_getD (by rw [HL3.out]; exact hj))
                                have hm1 : ((j : Int) == -1) = false := by simp
                                have hm2 : ((j : Int) != -1) = true := by simp
                                clear hbk hm HHO HAT HSZ
                                generalize f.data.getD j ⟨#[]⟩ = s at gD hsz2 HV
                                have hs1 : (s.size : Int) = 32 := by omega
                                have HZL := Lib.hid (show (s.extract X 32).size ≤ maxLen from by unfold maxLen; rw [ByteArray.size_extract]; omega)
                                have HZC := Lib.hid (fun W => zeroes_spec (s.extract X 32) W HZL.out)
                                obtain ⟨Z, hZ⟩ : ∃ Z, zB (s.extract X 32) = Z := ⟨_, rfl⟩
                                have HZ := Lib.hid hZ
                                rw [hZ] at HZC
                                clear hZ
                                go_wp2
                                clear c0 c1 c2 c3 c4 c5 c6 c7 c8 c9
                                have gB2 := HWA.out.cell (p := ⟨b1, o1 + L, none⟩) hl1
                                rw [gB] at gB2
                                have gD2 := HWA.out.cell (p := ⟨b2, o2 + j, none⟩) hl2
                                rw [gD] at gD2
                                have y7 := HXI.out.cell 7
                                have y5 := HXI.out.cell 5
                                have y3 := HXN.out.cell 3
                                dsimp at y7 y5 y3
                                clear gB gD
                                generalize wr.alloc (.cells #[.int .i64 n.kind, .int .i64 n.mode, .int .i64 n.uid, .int .i64 n.gid, .int .i64 n.links, .int .i64 (↑X + ↑L * 32), .int .i64 n.tick, .slice (some ⟨b1, o1, none⟩) (L + 1) d0, .slice a1 n.acl.length d1, .slice a2 n.dflt.length d2] 47) = w0 at *
                                have hsz0 := HWA.out.size
                                have z7 := Fam.cell (W := w0) (p := ⟨wr.heap.size, 7, none⟩) HXI.out.lt y7
                                have z5 := Fam.cell (W := w0) (p := ⟨wr.heap.size, 5, none⟩) HXI.out.lt y5
                                have z3 := Fam.cell (W := w0) (p := ⟨w.heap.size, 3, none⟩) HXN.out.lt y3
                                have zb := Fam.cell (W := w0) (p := ⟨b1, o1 + L, none⟩) (by show b1 < _; omega) gB2
                                have zd := Fam.cell (W := w0) (p := ⟨b2, o2 + j, none⟩) (by show b2 < _; omega) gD2
                                clear y7 y5 y3 gB2 gD2
                                refine Fam.region (by kernel_rfl) (by kernel_rfl) ?_
                                cases Z
                                · repeat (go_big_quiet_step (first | (go_at_call 55; with_reducible refine Fam.calls_same (HZC.out _))))
                                  refine wpQuiet_nil ?_
                                  intro _ hw'
                                  obtain ⟨nq, hw''⟩ := hw'
                                  subst hw''
                                  have hbq := Fam.wld_below _ nq
                                  generalize Fam.wld _ nq = w9 at hbq ⊢
                                  have HB9 := Lib.hid (HN.out.trans (hbq.mono HN.out.size))
                                  have HF := Lib.hid (HNO.out (by rw [HV.out]; exact HZ.out))
                                  clear hbq z7 z5 z3 zb zd
                                  go_wp2
                                  go_ret
                                  exact ⟨ret_bool HF.out.symm, HB9.out⟩
                                · repeat (go_big_quiet_step (first | (go_at_call 55; with_reducible refine Fam.calls_same (HZC.out _))))
                                  refine wpQuiet_nil ?_
                                  intro _ hw'
                                  obtain ⟨nq, hw''⟩ := hw'
                                  subst hw''
                                  have hbq := Fam.wld_below _ nq
                                  generalize Fam.wld _ nq = w9 at hbq ⊢
                                  have HB9 := Lib.hid (HN.out.trans (hbq.mono HN.out.size))
                                  have HX9 := Lib.hid (HXN.out.all hbq)
                                  have HS := Lib.hid (show allTo (fun n => zB (beyond f n)) f.inodes (k + 1) = true by rw [HSU.out, HR.out, HV.out, HZ.out]; rfl)
                                  clear hbq z7 z5 z3 zb zd
                                  go_wp2
                                  go_roundw
                                  case rel => exact ⟨k + 1, by omega, by go_num, HX9.out, HB9.out, HS.out⟩
                                  case measure => simp [intOf]; omega
                          · obtain rfl : k = 20 := by omega
                            have HEL := Lib.hid (show elseB f = true by rw [elseB, HRA.out, ← FsV.allTo_end (fun n => zB (beyond f n)) f.inodes 20 HL2.out.symm, HR.out]; rfl)
                            have HF := Lib.hid (ok_yes HTK.out HPT.out HRT.out HO.out HEL.out)
                            go_wp2
                            go_ret
                            exact ⟨ret_bool HF.out.symm, HB.out⟩
                · have k1 : (K == 2) = false := by simpa using hk2
                  have k2 : (K != 2) = true := by simpa using hk2
                  have HF := Lib.hid (ok_no_root (f := f) (by rw [HRB.out, decide_eq_false hk2]))
                  clear hk2
                  go_wp2
                  go_ret
                  exact ⟨ret_bool HF.out.symm, HB.out⟩
      · have HF := Lib.hid (ok_no_parts (f := f) (by simp [partsB, h3]))
        rw [h1, h2]
        have q1 : ((f.data.length : Int) != 56) = true := by simp; omega
        have q2 : ((f.data.length : Int) == 56) = false := by simp; omega
        clear h1 h2 h3 HFS
        generalize f.data.length = M at *
        cases A
        all_goals
          go_enter Tryz.func25, Tryz.ntmps25
          go_wp2_with fail
          refine (HIN.out _).mono ?_
          rintro e w1 ⟨rfl, rfl⟩
          go_wp2
          go_ret
          exact ⟨ret_bool HF.out.symm, (Below.refl w.heap.size w).alloc (Nat.le_refl _) _⟩
    · have HF := Lib.hid (ok_no_parts (f := f) (by simp [partsB, h2]))
      rw [h1]
      have q1 : ((f.inodes.length : Int) != 20) = true := by simp; omega
      have q2 : ((f.inodes.length : Int) == 20) = false := by simp; omega
      clear h1 h2 HFS
      generalize f.inodes.length = M at *
      generalize f.data.length = M2 at *
      cases A
      all_goals
        go_enter Tryz.func25, Tryz.ntmps25
        go_wp2_with fail
        refine (HIN.out _).mono ?_
        rintro e w1 ⟨rfl, rfl⟩
        go_wp2
        go_ret
        exact ⟨ret_bool HF.out.symm, (Below.refl w.heap.size w).alloc (Nat.le_refl _) _⟩
  · have HF := Lib.hid (ok_no_parts (f := f) (by simp [partsB, h1]))
    have q1 : ((f.quotas.length : Int) != 4) = true := by simp; omega
    have q2 : ((f.quotas.length : Int) == 4) = false := by simp; omega
    clear h1 HFS
    generalize f.quotas.length = M0 at *
    generalize f.inodes.length = M at *
    generalize f.data.length = M2 at *
    cases A
    all_goals
      go_enter Tryz.func25, Tryz.ntmps25
      go_wp2_with fail
      refine (HIN.out _).mono ?_
      rintro e w1 ⟨rfl, rfl⟩
      go_wp2
      go_ret
      exact ⟨ret_bool HF.out.symm, (Below.refl w.heap.size w).alloc (Nat.le_refl _) _⟩
end Go.Proofs.YtmljjdglmlnbaaaGreatDoor.FsS

-- YtmljjdglmlnbaaaGreatDoorLaidN
/- What the rows' listed variable gives the walks: the table of an inode's fields reads as it is laid; and the heap that the door's run leaves meets the list. No condition of its own. -/
namespace Go.Proofs.YtmljjdglmlnbaaaGreatDoor.LaidN
open Go.ChangeShapes Go.WideShapes Go.ChangeAt Go.RowKit
open InOk (Vars NF)
set_option linter.unusedVariables false

theorem gN : Tryz.prog.globalNamed "loop.example/g00817/impl.numberFields" = some 1 := by kernel_rfl
theorem gNType : (Tryz.prog.globals[1]?).map (·.type) = some 147 := by kernel_rfl
def list1 : List (String × DataW Unit) := [("loop.example/g00817/impl.numberFields", Rows.laid_loop_example_g00817_impl_numberFields)]
theorem elem_of {H : Type} {enc : TypeId × Value → H} {w : World} {base : Nat} {sp : Nat → Bool} {held : Bool} {m : Nat} {a b : Int} {u v : Value} {z : DataW H × List MemPlace}
    (h : DataW.trod enc Tryz.prog w base sp held m 146 [u, v] = some z) (hz : z.1 = .agg [.lit (.int .i64 a), .lit (.int .i64 b)]) : u = .int .i64 a ∧ v = .int .i64 b := by
  obtain ⟨y0, y1, n, rfl, hl, h0, h1⟩ := trod_struct2 Tryz.underlying146 h
  have hci : Tryz.prog.cellsOf 3 = 1 := by kernel_rfl
  obtain ⟨i0, e0, rfl, _⟩ := DataW.trod_int Tryz.underlying3 h0
  obtain ⟨i1, e1, rfl, _⟩ := DataW.trod_int Tryz.underlying3 h1
  simp only [DataW.agg.injEq, List.cons.injEq, DataW.lit.injEq, Lit.int.injEq, true_and, and_true] at hz
  obtain ⟨rfl, rfl⟩ := hz
  exact ⟨by simpa [hci] using e0, by simpa [hci] using e1⟩
set_option maxRecDepth 100000 in
theorem cells_of {H : Type} {enc : TypeId × Value → H} {w : World} {base : Nat} {sp : Nat → Bool} {held : Bool} {fuel : Nat} {cs : List Value} {p : List MemPlace}
    (h : DataW.trod enc Tryz.prog w base sp held fuel 147 cs = some (Rows.laid_loop_example_g00817_impl_numberFields, p)) : cs = NF.map (Value.int .i64) := by
  obtain ⟨xs, m, rfl, hx, hl, hxl, hf⟩ := DataW.trod_array Tryz.underlying147 h
  rw [show Tryz.prog.cellsOf 147 = 14 from by kernel_rfl] at hl
  rw [show Tryz.prog.cellsOf 146 = 2 from by kernel_rfl] at hf
  obtain ⟨z0, z1, z2, z3, z4, z5, z6, rfl⟩ : ∃ z0 z1 z2 z3 z4 z5 z6, xs = [z0, z1, z2, z3, z4, z5, z6] := by
    match xs, hxl with
    | [z0, z1, z2, z3, z4, z5, z6], _ => exact ⟨_, _, _, _, _, _, _, rfl⟩
  obtain ⟨c0, c1, c2, c3, c4, c5, c6, c7, c8, c9, ca, cb, cc, cd, rfl⟩ : ∃ c0 c1 c2 c3 c4 c5 c6 c7 c8 c9 ca cb cc cd, cs = [c0, c1, c2, c3, c4, c5, c6, c7, c8, c9, ca, cb, cc, cd] := by
    match cs, hl with
    | [c0, c1, c2, c3, c4, c5, c6, c7, c8, c9, ca, cb, cc, cd], _ => exact ⟨_, _, _, _, _, _, _, _, _, _, _, _, _, _, rfl⟩
  have hx1 := congrArg Prod.fst hx
  simp only [Rows.laid_loop_example_g00817_impl_numberFields, List.map_cons, List.map_nil, DataW.agg.injEq, List.cons.injEq, and_true] at hx1
  obtain ⟨q0, q1, q2, q3, q4, q5, q6⟩ := hx1
  obtain ⟨rfl, rfl⟩ := elem_of (hf 0 (by omega)) q0.symm
  obtain ⟨rfl, rfl⟩ := elem_of (hf 1 (by omega)) q1.symm
  obtain ⟨rfl, rfl⟩ := elem_of (hf 2 (by omega)) q2.symm
  obtain ⟨rfl, rfl⟩ := elem_of (hf 3 (by omega)) q3.symm
  obtain ⟨rfl, rfl⟩ := elem_of (hf 4 (by omega)) q4.symm
  obtain ⟨rfl, rfl⟩ := elem_of (hf 5 (by omega)) q5.symm
  obtain ⟨rfl, rfl⟩ := elem_of (hf 6 (by omega)) q6.symm
  rfl
theorem vars_of {W : World} (h : laidMetH Tryz.prog list1 W) : Vars W := by
  rw [MakeChecks.laidMetH_plain _ _ _ (by kernel_rfl)] at h
  obtain ⟨ps, ⟨g', t', cs, fuel, p, q, hg', ht', hvar, hd, _, _⟩, _⟩ := h
  obtain rfl := Option.some.inj (gN.symm.trans hg')
  obtain rfl := Option.some.inj (gNType.symm.trans ht')
  have hcs := cells_of hd
  have hc : ∀ j, j < 14 → W.cell? ⟨1, j, none⟩ = some (.int .i64 (NF.getD j 0)) := by
    intro j hj
    have := World.var?_cell gN hvar j
    rw [this, ← Array.getElem?_toList, hcs, List.getElem?_map]
    have hl : j < NF.length := by simpa [NF] using hj
    rw [List.getElem?_eq_getElem hl, List.getD_eq_getElem?_getD, List.getElem?_eq_getElem hl]; rfl
  refine ⟨?_, hc⟩
  have := hc 0 (by omega)
  simp only [World.cell?] at this
  split at this
  · rename_i heq; exact (Array.getElem?_eq_some_iff.1 heq).1
  · cases this
theorem door1 (os : Os) (args : Array Value) : laidMetH Tryz.prog list1 ((World.doorLaid Tryz.prog 400 os).forCall (fun _ _ => 0) ⟨#[], args, []⟩).memory :=
  laidMetH_of_parts3 (fuel := 8) (laidMet_of_run' 8 (by kernel_rfl) (by kernel_rfl)) (by kernel_rfl) (by kernel_rfl)
end Go.Proofs.YtmljjdglmlnbaaaGreatDoor.LaidN

-- YtmljjdglmlnbaaaGreatDoorLaidM
/- What the rows' listed variables give the walks, where the table of an inode's fields stands among the library's tables: it reads as it is laid. No condition of its own. -/
namespace Go.Proofs.YtmljjdglmlnbaaaGreatDoor.LaidM
open Go.ChangeShapes Go.WideShapes Go.ChangeAt Go.RowKit
open InOk (Vars NF)
open LaidN (gN gNType cells_of)
set_option linter.unusedVariables false

def list3 : List (String × DataW Unit) := [("unicode/utf8.acceptRanges", Rows.laid_unicode_utf8_acceptRanges), ("loop.example/g00817/impl.numberFields", Rows.laid_loop_example_g00817_impl_numberFields), ("unicode/utf8.first", Rows.laid_unicode_utf8_first)]
theorem vars_at {W : World} {rest : List (String × DataW Unit)} (h : laidMet Tryz.prog (("loop.example/g00817/impl.numberFields", Rows.laid_loop_example_g00817_impl_numberFields) :: rest) W) : Vars W := by
  obtain ⟨ps, ⟨g', t', cs, fuel, p, q, hg', ht', hvar, hd, _, _⟩, _⟩ := h
  obtain rfl := Option.some.inj (gN.symm.trans hg')
  obtain rfl := Option.some.inj (gNType.symm.trans ht')
  have hcs := cells_of hd
  have hc : ∀ j, j < 14 → W.cell? ⟨1, j, none⟩ = some (.int .i64 (NF.getD j 0)) := by
    intro j hj
    have := World.var?_cell gN hvar j
    rw [this, ← Array.getElem?_toList, hcs, List.getElem?_map]
    have hl : j < NF.length := by simpa [NF] using hj
    rw [List.getElem?_eq_getElem hl, List.getD_eq_getElem?_getD, List.getElem?_eq_getElem hl]; rfl
  refine ⟨?_, hc⟩
  have := hc 0 (by omega)
  simp only [World.cell?] at this
  split at this
  · rename_i heq; exact (Array.getElem?_eq_some_iff.1 heq).1
  · cases this
theorem vars_of {W : World} (h : laidMetH Tryz.prog list3 W) : Vars W := by
  rw [MakeChecks.laidMetH_plain _ _ _ (by kernel_rfl)] at h
  exact vars_at (laidMet.tail h)
end Go.Proofs.YtmljjdglmlnbaaaGreatDoor.LaidM

-- YtmljjdglmlnbaaaGreatDoorKitV
/- A law's call returned true and left every block below the old heap's size as it was; then the row's post holds, named variables and all. No condition. -/
namespace Go.Proofs.YtmljjdglmlnbaaaGreatDoor.KitV
open Go.ChangeShapes Go.WideShapes Go.ChangeAt Go.RowKit
set_option linter.unusedVariables false

theorem vars_length {H : Type} {enc : TypeId × Value → H} {P : Program} {W : World} {sp : Nat → Bool} : ∀ {ns : List String} {gs : List (DataW H)} {ps : List MemPlace}, DataW.TrodVars enc P W sp ns gs ps → gs.length = ns.length
  | [], [], _, _ => rfl
  | [], _ :: _, _, h => h.elim
  | _ :: _, [], _, h => h.elim
  | n :: ns, d :: ds, ps, h => by
    obtain ⟨g, t, cs, fuel, p, q, h1, h2, h3, h4, hs, e⟩ := h
    simp [vars_length hs]
theorem all_length {H : Type} {enc : TypeId × Value → H} {P : Program} {W : World} {b : Nat} {sp : Nat → Bool} {hh : Bool} : ∀ (ts : List TypeId) (vs : List Value) (ds : List (DataW H)) (ps : List MemPlace), DataW.TrodAll enc P W b sp hh ts vs ds ps → ds.length = ts.length := by
  intro ts
  induction ts with
  | nil => intro vs ds ps h; cases vs <;> cases ds <;> first | rfl | exact h.elim
  | cons t ts ih =>
    intro vs ds ps h
    cases vs with
    | nil => cases ds <;> exact h.elim
    | cons v vs =>
      cases ds with
      | nil => exact h.elim
      | cons d ds => obtain ⟨p, q, _, h1, _⟩ := h; simp [ih _ _ _ h1]
/-- THE LAW's POST, where the row names variables. -/
theorem law_post {H : Type} {enc : TypeId × Value → H} {P : Program} {f : Func} {s : ChangeSpec} {T : TypeId} {W W' : World} {args : Array Value} {ds gs : List (DataW H)} {before : List MemPlace}
    (hl : laidOutB P = true) (hr0 : (f.params.toList.all fun t => P.readableRec t && decide (t < P.types.size)) = true) (hv : varsRowed P s.vars = true) (hT : P.underlying T = some .bool)
    (hres : f.resultTypes = #[T])
    (hs : ∀ (H : Type) (ds gs : List (DataW H)), ds.length = f.params.toList.length → gs.length = s.vars.length → s.fn H (ds ++ gs) = { results := [.lit (.bool true)], args := ds, vars := gs })
    (hW : DataW.Whole enc P f.params.toList s.vars false W args.toList ds gs before)
    (hb : Below W.heap.size W W') :
    s.post enc P f false true false false W args (.bool true) W' := by
  have hW0 := hW
  have hr : ∀ t ∈ f.params.toList, P.readableRec t = true ∧ t < P.types.size := by
    intro t ht
    have := List.all_eq_true.1 hr0 t ht
    simpa using this
  obtain ⟨p, q, hA, hV, hpq, hfz, hnd⟩ := hW
  have hfn := hs H ds gs (all_length _ _ _ _ hA) (vars_length hV)
  refine ⟨ds, gs, before, [], p, q, hW0, ?_, ?_, ?_, hb.frame _, fun h => by cases h⟩
  · rw [hfn, hres]
    exact trodAll_mk1 (shut_bool hT _)
  · rw [hfn]
    exact Kit.trodAll_below hl hb _ _ _ _ hr hA
  · rw [hfn]
    exact Below.trodVars hl hb hv hV
end Go.Proofs.YtmljjdglmlnbaaaGreatDoor.KitV
