/- Helper texts joined, one behind another (a claim has at most 60 files): what each proves, its own head says: YthppbcnejapbiaaGreatDoorFsP, YthppbcnejapbiaaGreatDoorMpB, YthppbcnejapbiaaGreatDoorFsU, YthppbcnejapbiaaGreatDoorFsW, YthppbcnejapbiaaGreatDoorFsB, YthppbcnejapbiaaGreatDoorIsZeroes, YthppbcnejapbiaaGreatDoorFsE, YthppbcnejapbiaaGreatDoorApp, YthppbcnejapbiaaGreatDoorFsM, YthppbcnejapbiaaGreatDoorFsX, YthppbcnejapbiaaGreatDoorFsY, YthppbcnejapbiaaGreatDoorFoB, YthppbcnejapbiaaGreatDoorCoN, YthppbcnejapbiaaGreatDoorFsZ, YthppbcnejapbiaaGreatDoorFsZw, YthppbcnejapbiaaGreatDoorPadTo, YthppbcnejapbiaaGreatDoorFsZr, YthppbcnejapbiaaGreatDoorCoC, YthppbcnejapbiaaGreatDoorFsK, YthppbcnejapbiaaGreatDoorFsS, YthppbcnejapbiaaGreatDoorLaidN, YthppbcnejapbiaaGreatDoorLaidM, YthppbcnejapbiaaGreatDoorKitV, YthppbcnejapbiaaGreatDoorSpR. -/
import Derived.Test.YthppbcnejapbiaaGreatDoorFsBaseA
import Derived.Test.YthppbcnejapbiaaGreatDoorFsBaseB
import Derived.Maps.OwnSet
import Derived.Test.YthppbcnejapbiaaGreatDoorFam
import Derived.Test.YthppbcnejapbiaaGreatDoorKit
import Derived.Test.YthppbcnejapbiaaGreatDoorShelf
import Derived.Test.YthppbcnejapbiaaGreatDoorDkAt
import Derived.Deep.AppendSrc
import Derived.Lib.SliceRun
import Derived.Deep.RegionHeld3
import Derived.Lib.BufferWrite
import Derived.Shelf.Spec.SlicesInsert
import Derived.Test.YthppbcnejapbiaaGreatDoorRowG
import Derived.BigQuiet
import Derived.Deep.RegionLaw
import Derived.LaidMore
import Derived.MakeChecks
import Derived.Lib.LaidTab
import Derived.OpenShut
import Derived.Stop.LaidErr
import Derived.Stop.Joined
import Derived.Lay
import Derived.OpenVars

-- YthppbcnejapbiaaGreatDoorFsP
/- Contracts: the program's isQuota and hasValidParts. Conditions: as each theorem types them. -/
namespace Go.Proofs.YthppbcnejapbiaaGreatDoor.FsP
open Go.ChangeShapes Go.WideShapes Go.ChangeAt Go.RowKit
open Foot Bx
open FsV (F quB ownerV partsB allTo)
open Dk (ret_bool)
open Strs (ret_int)
set_option linter.unusedVariables false

set_option maxRecDepth 100000 in
set_option maxHeartbeats 1600000 in
theorem quota_impl (q : Int × Int) (w : World) :
    Calls Tryz.prog 171 #[.agg #[.int .i64 q.1, .int .i64 q.2]] w fun e w' => e = .returned (.bool (quB q)) ∧ Below w.heap.size w w' := by
  obtain ⟨a, b⟩ := q
  have HB := Lib.hid ((Below.refl w.heap.size w).alloc (Nat.le_refl _) (.cells #[.int .i64 a, .int .i64 b] 113))
  unfold quB
  dsimp only
  cases h1 : decide (0 ≤ a) <;> cases h2 : decide (a ≤ 5) <;> cases h3 : decide (0 ≤ b) <;> cases h4 : decide (b ≤ 14)
  all_goals
    go_enter Tryz.func171, Tryz.ntmps171
    go_wp2
    go_ret
    exact ⟨rfl, HB.out⟩

theorem parts_quo {f : F} (h : f.quotas.all quB = false) : partsB f = false := by simp [partsB, h]
theorem parts_ino {f : F} (h : f.inodes.all InoV.okI = false) : partsB f = false := by simp [partsB, h]
theorem parts_dat {f : F} (h : f.data.all (fun s => decide (s.size = 32)) = false) : partsB f = false := by simp [partsB, h]
/-- An inode's integers and lists are in range, its cost is within the whole's. -/
theorem lim_at {f : F} (hl : FsF.Lim f) {i : Nat} (hi : i < f.inodes.length) : In.Lim (f.inodes.getD i InoV.zero) := hl.inodes.2 _ (FsV.mem_getD hi)
theorem cost_at {f : F} (hc : FsF.cost f ≤ 1073741824) {i : Nat} (hi : i < f.inodes.length) : In.cost (f.inodes.getD i InoV.zero) ≤ 1073741824 :=
  Nat.le_trans (IF.cost_at hi) (Nat.le_trans (Nat.le_trans (Nat.le_add_left _ _) (FsF.le_inodes f)) hc)
theorem size_at {f : F} (hl : FsF.Lim f) {i : Nat} (hi : i < f.data.length) : (f.data.getD i ⟨#[]⟩).size ≤ maxLen := hl.data.2 _ (FsV.mem_getD hi)

set_option maxRecDepth 100000 in
set_option maxHeartbeats 3200000 in
theorem parts_impl (w : World) (v : Value) (f : F) (hc : FsF.cost f ≤ 1073741824) (hl : FsF.Lim f) (hv : InOk.Vars w) (h : FsF.Holds w v f) :
    Calls Tryz.prog 133 #[v] w fun e w' => e = .returned (.bool (partsB f)) ∧ Below w.heap.size w w' := by
  have HCA := Lib.hid (fun i (hi : i < f.inodes.length) => cost_at hc hi)
  have HLA := Lib.hid (fun i (hi : i < f.inodes.length) => lim_at hl hi)
  have HSA := Lib.hid (fun i (hi : i < f.data.length) => size_at hl hi)
  have HV := Lib.hid hv
  obtain ⟨r0, r1, r2, rfl, g0, g1, g2⟩ := h
  obtain ⟨qa, qc, rfl, hQ⟩ := Qt.atL g0
  obtain ⟨ia, ic, rfl, _, hI⟩ := IF.atL g1
  obtain ⟨da, dc, rfl, hD⟩ := g2
  have HQ := Lib.hid hQ
  have HI := Lib.hid hI
  have HD := Lib.hid (show ∀ i, i < f.data.length → ∃ b o, da = some ⟨b, o, none⟩ ∧ b < w.heap.size ∧ w.cell? ⟨b, o + i, none⟩ = some (.string (f.data.getD i ⟨#[]⟩)) from fun i hi => by
    obtain ⟨b, o, e, hlt, hcell⟩ := hD (by intro e; rw [e] at hi; simp at hi)
    exact ⟨b, o, e, hlt, hcell i hi⟩)
  have HNQ := Lib.hid (fun h => parts_quo (f := f) h)
  have HNI := Lib.hid (fun h => parts_ino (f := f) h)
  have HND := Lib.hid (fun h => parts_dat (f := f) h)
  have hlq : f.quotas.length ≤ 1073741824 := Nat.le_trans (FsF.le_quotas f) hc
  have hli : f.inodes.length ≤ 1073741824 := Nat.le_trans (Nat.le_trans (Nat.le_add_right _ _) (FsF.le_inodes f)) hc
  have hld : f.data.length ≤ 1073741824 := Nat.le_trans (Nat.le_trans (Nat.le_add_right _ _) (FsF.le_data f)) hc
  clear g0 g1 hQ hI hD hc hl hv
  by_cases h1 : f.quotas.length = 4
  · by_cases h2 : f.inodes.length = 20
    · by_cases h3 : f.data.length = 56
      · have HL1 := Lib.hid h1
        have HL2 := Lib.hid h2
        have HL3 := Lib.hid h3
        rw [h1, h2, h3]
        clear h1 h2 h3 hlq hli hld
        obtain ⟨T, hT⟩ : ∃ T, T = f.tick := ⟨_, rfl⟩
        rw [← hT]
        clear hT
        have HB0 := Lib.hid ((Below.refl w.heap.size w).alloc (Nat.le_refl _) (.cells #[.int .i64 T, .slice qa 4 qc, .slice ia 20 ic, .slice da 56 dc] 33))
        have HX0 := Lib.hid (new w #[.int .i64 T, .slice qa 4 qc, .slice ia 20 ic, .slice da 56 dc] 33)
        go_enter Tryz.func133, Tryz.ntmps133
        go_wp2
        go_loopw [28] (fun iv wr => ∃ k : Nat, k ≤ 4 ∧ iv = .int .i64 k ∧ Bk wr w.heap.size #[.int .i64 T, .slice qa 4 qc, .slice ia 20 ic, .slice da 56 dc] 33 ∧ Below w.heap.size w wr ∧ allTo quB f.quotas k = true) (fun iv _ => 4 - (intOf iv).toNat)
        case atStart => exact ⟨0, Nat.zero_le _, rfl, HX0.out, HB0.out, FsV.allTo_zero _ _⟩
        case round =>
          obtain ⟨k, hk, rfl, hx, hbel, hr⟩ := hrel
          have HB := Lib.hid hbel
          have HX := Lib.hid hx
          have HR := Lib.hid hr
          have hsz := hbel.size
          clear hx hbel hr HB0 HX0
          by_cases hlt : k < 4
          · have hkl : k < f.quotas.length := by rw [HL1.out]; exact hlt
            obtain ⟨b, o, rfl, hb, hC⟩ := HQ.out k hkl
            obtain ⟨c0, c1⟩ := hC.below hb HB.out
            have hq := FsV.allTo_succ quB f.quotas Qt.a0 k hkl
            have HNO := Lib.hid (fun h => HNQ.out (FsV.all_no (z := Qt.a0) hkl h))
            have HRQ := Lib.hid hq
            clear hC hq hkl
            generalize f.quotas.getD k Qt.a0 = q at c0 c1 HNO HRQ
            have HN := Lib.hid (HB.out.alloc hsz (.cells #[.int .i64 q.1, .int .i64 q.2] 113))
            have HXN := Lib.hid (HX.out.alloc (.cells #[.int .i64 q.1, .int .i64 q.2] 113))
            go_wp2_with fail
            refine (quota_impl q _).mono ?_
            rintro e w1 ⟨rfl, hb1⟩
            replace HN := Lib.hid (HN.out.trans (hb1.mono HN.out.size))
            replace HXN := Lib.hid (HXN.out.all hb1)
            clear hb1 c0 c1
            cases hq : quB q
            · have HF := Lib.hid (HNO.out hq)
              clear hq
              go_wp2
              go_ret
              exact ⟨ret_bool HF.out.symm, HN.out⟩
            · have HS := Lib.hid (show allTo quB f.quotas (k + 1) = true by rw [HRQ.out, HR.out, hq]; rfl)
              clear hq
              go_wp2
              go_roundw
              case rel => exact ⟨k + 1, by omega, by go_num, HXN.out, HN.out, HS.out⟩
              case measure => simp [intOf]; omega
          · obtain rfl : k = 4 := by omega
            rw [show ((4 : Nat) : Int) = 4 from rfl]
            have HQA := Lib.hid (show f.quotas.all quB = true by rw [← FsV.allTo_end quB f.quotas 4 HL1.out.symm]; exact HR.out)
            obtain ⟨x0, x1, x2, x3⟩ := Bk.c4 HX.out
            go_wp2
            clear x0 x1 x2 x3
            go_loopw [39] (fun iv wr => ∃ k : Nat, k ≤ 20 ∧ iv = .int .i64 k ∧ Bk wr w.heap.size #[.int .i64 T, .slice qa 4 qc, .slice ia 20 ic, .slice da 56 dc] 33 ∧ Below w.heap.size w wr ∧ allTo InoV.okI f.inodes k = true) (fun iv _ => 20 - (intOf iv).toNat)
            case atStart => exact ⟨0, Nat.zero_le _, rfl, HX.out, HB.out, FsV.allTo_zero _ _⟩
            case round =>
              obtain ⟨k, hk, rfl, hx, hbel, hr⟩ := hrel
              replace HB := Lib.hid hbel
              replace HX := Lib.hid hx
              replace HR := Lib.hid hr
              have hsz := hbel.size
              clear hx hbel hr
              by_cases hlt : k < 20
              · have hkl : k < f.inodes.length := by rw [HL2.out]; exact hlt
                obtain ⟨b, o, rfl, hb, r0, r1, r2, hC, hP⟩ := HI.out k hkl
                have HP := Lib.hid (IF.parts_holds (IF.parts_below hP HB.out))
                obtain ⟨p0, p1, p2⟩ := hP
                obtain ⟨a0, d0, rfl⟩ := NiF.form p0
                obtain ⟨a1, d1, rfl⟩ := AeF.form p1
                obtain ⟨a2, d2, rfl⟩ := AeF.form p2
                obtain ⟨c0, c1, c2, c3, c4, c5, c6, c7, c8, c9⟩ := hC.below hb HB.out
                have hq := FsV.allTo_succ InoV.okI f.inodes IF.z0 k hkl
                have HNO := Lib.hid (fun h => HNI.out (FsV.all_no (z := IF.z0) hkl h))
                have HRQ := Lib.hid hq
                have hcx := HCA.out k hkl
                have HLX := Lib.hid (HLA.out k hkl)
                clear hC p0 p1 p2 hq hkl
                rw [show InoV.zero = IF.z0 from rfl] at hcx HLX
                generalize f.inodes.getD k IF.z0 = n at c0 c1 c2 c3 c4 c5 c6 c7 c8 c9 HNO HRQ hcx HLX HP
                have HN := Lib.hid (HB.out.alloc hsz (.cells #[.int .i64 n.kind, .int .i64 n.mode, .int .i64 n.uid, .int .i64 n.gid, .int .i64 n.links, .int .i64 n.size, .int .i64 n.tick, .slice a0 n.blocks.length d0, .slice a1 n.acl.length d1, .slice a2 n.dflt.length d2] 89))
                have HXN := Lib.hid (HX.out.alloc (.cells #[.int .i64 n.kind, .int .i64 n.mode, .int .i64 n.uid, .int .i64 n.gid, .int .i64 n.links, .int .i64 n.size, .int .i64 n.tick, .slice a0 n.blocks.length d0, .slice a1 n.acl.length d1, .slice a2 n.dflt.length d2] 89))
                have HPN := Lib.hid (In.holds_below HP.out ((Below.refl wr.heap.size wr).alloc (Nat.le_refl _) (.cells #[.int .i64 n.kind, .int .i64 n.mode, .int .i64 n.uid, .int .i64 n.gid, .int .i64 n.links, .int .i64 n.size, .int .i64 n.tick, .slice a0 n.blocks.length d0, .slice a1 n.acl.length d1, .slice a2 n.dflt.length d2] 89)))
                go_wp2_with fail
                refine (InOk.is_any _ _ n hcx HLX.out.blocks.2 (HV.out.all HN.out) HPN.out).mono ?_
                rintro e w1 ⟨rfl, hb1⟩
                replace HN := Lib.hid (HN.out.trans (hb1.mono HN.out.size))
                replace HXN := Lib.hid (HXN.out.all hb1)
                clear hb1 c0 c1 c2 c3 c4 c5 c6 c7 c8 c9
                cases hq : InoV.okI n
                · have HF := Lib.hid (HNO.out hq)
                  clear hq
                  go_wp2
                  go_ret
                  exact ⟨ret_bool HF.out.symm, HN.out⟩
                · have HS := Lib.hid (show allTo InoV.okI f.inodes (k + 1) = true by rw [HRQ.out, HR.out, hq]; rfl)
                  clear hq
                  go_wp2
                  go_roundw
                  case rel => exact ⟨k + 1, by omega, by go_num, HXN.out, HN.out, HS.out⟩
                  case measure => simp [intOf]; omega
              · obtain rfl : k = 20 := by omega
                rw [show ((20 : Nat) : Int) = 20 from rfl]
                have HIA := Lib.hid (show f.inodes.all InoV.okI = true by rw [← FsV.allTo_end InoV.okI f.inodes 20 HL2.out.symm]; exact HR.out)
                obtain ⟨x0, x1, x2, x3⟩ := Bk.c4 HX.out
                go_wp2
                clear x0 x1 x2 x3
                go_loopw [50] (fun iv wr => ∃ k : Nat, k ≤ 56 ∧ iv = .int .i64 k ∧ Below w.heap.size w wr ∧ allTo (fun s => decide (s.size = 32)) f.data k = true) (fun iv _ => 56 - (intOf iv).toNat)
                case atStart => exact ⟨0, Nat.zero_le _, rfl, HB.out, FsV.allTo_zero _ _⟩
                case round =>
                  obtain ⟨k, hk, rfl, hbel, hr⟩ := hrel
                  replace HB := Lib.hid hbel
                  replace HR := Lib.hid hr
                  clear hbel hr HX
                  by_cases hlt : k < 56
                  · have hkl : k < f.data.length := by rw [HL3.out]; exact hlt
                    obtain ⟨b, o, rfl, hb, c0⟩ := HD.out k hkl
                    rw [← HB.out.cell (p := ⟨b, _, none⟩) hb] at c0
                    have hq := FsV.allTo_succ (fun s => decide (s.size = 32)) f.data ⟨#[]⟩ k hkl
                    have HNO := Lib.hid (fun h => HND.out (FsV.all_no (z := ⟨#[]⟩) hkl h))
                    have HRQ := Lib.hid hq
                    have hcx := HSA.out k hkl
                    clear hq hkl
                    generalize f.data.getD k ⟨#[]⟩ = s at c0 HNO HRQ hcx
                    unfold maxLen at hcx
                    by_cases hs : s.size = 32
                    · have HS := Lib.hid (show allTo (fun s => decide (s.size = 32)) f.data (k + 1) = true by rw [HRQ.out, HR.out, decide_eq_true hs]; rfl)
                      have q1 : ((s.size : Int) != 32) = false := by simp [hs]
                      have q2 : ((s.size : Int) == 32) = true := by simp [hs]
                      clear hs
                      go_wp2
                      go_roundw
                      case rel => exact ⟨k + 1, by omega, by go_num, HB.out, HS.out⟩
                      case measure => simp [intOf]; omega
                    · have HF := Lib.hid (HNO.out (decide_eq_false hs))
                      have q1 : ((s.size : Int) != 32) = true := by simp; omega
                      have q2 : ((s.size : Int) == 32) = false := by simp; omega
                      clear hs
                      go_wp2
                      go_ret
                      exact ⟨ret_bool HF.out.symm, HB.out⟩
                  · obtain rfl : k = 56 := by omega
                    have HF := Lib.hid (FsV.parts_mk HL1.out HL2.out HL3.out HQA.out HIA.out (by rw [← FsV.allTo_end (fun s => decide (s.size = 32)) f.data 56 HL3.out.symm]; exact HR.out))
                    go_wp2
                    go_ret
                    exact ⟨ret_bool HF.out.symm, HB.out⟩
      · have HF := Lib.hid (show partsB f = false by simp [partsB, h3])
        rw [h1, h2]
        have q1 : ((f.data.length : Int) != 56) = true := by simp; omega
        have q2 : ((f.data.length : Int) == 56) = false := by simp; omega
        clear h1 h2 h3
        generalize f.data.length = M at *
        go_enter Tryz.func133, Tryz.ntmps133
        go_wp2
        go_ret
        exact ⟨ret_bool HF.out.symm, (Below.refl w.heap.size w).alloc (Nat.le_refl _) _⟩
    · have HF := Lib.hid (show partsB f = false by simp [partsB, h2])
      rw [h1]
      have q1 : ((f.inodes.length : Int) != 20) = true := by simp; omega
      have q2 : ((f.inodes.length : Int) == 20) = false := by simp; omega
      clear h1 h2
      generalize f.inodes.length = M at *
      generalize f.data.length = M2 at *
      go_enter Tryz.func133, Tryz.ntmps133
      go_wp2
      go_ret
      exact ⟨ret_bool HF.out.symm, (Below.refl w.heap.size w).alloc (Nat.le_refl _) _⟩
  · have HF := Lib.hid (show partsB f = false by simp [partsB, h1])
    have q1 : ((f.quotas.length : Int) != 4) = true := by simp; omega
    have q2 : ((f.quotas.length : Int) == 4) = false := by simp; omega
    clear h1
    generalize f.quotas.length = M0 at *
    generalize f.inodes.length = M at *
    generalize f.data.length = M2 at *
    go_enter Tryz.func133, Tryz.ntmps133
    go_wp2
    go_ret
    exact ⟨ret_bool HF.out.symm, (Below.refl w.heap.size w).alloc (Nat.le_refl _) _⟩
end Go.Proofs.YthppbcnejapbiaaGreatDoor.FsP

-- YthppbcnejapbiaaGreatDoorMpB
/- A map from ints to bools of the call's own, told by the set of its keys that are true: made, read, written, a key deleted; what stands while other blocks turn. Conditions: as each theorem types them. -/
namespace Go.Proofs.YthppbcnejapbiaaGreatDoor.MpB
open Go.ChangeShapes Go.WideShapes Go.ChangeAt Go.RowKit
open Go.Maps (Keyed int_keyed IsMap)
open Foot
set_option linter.unusedVariables false

theorem law : Keyed Tryz.prog 3 := int_keyed Tryz.underlying3
theorem zeroE (w : World) : (zeroValue 4).run Tryz.prog w = .ok (.bool false) w := by kernel_rfl
theorem wf_of {x : Int} (h : Rg x) : (Lit.int .i64 x).wf = true := by
  unfold Rg at h
  exact WalkArith.wf_i64 (by omega)
theorem key_of {x : Int} (h : Rg x) : keyOf Tryz.prog 3 (.int .i64 x) = some (.int .i64 x) := Maps.keyOf_int_mk Tryz.underlying3 (wf_of h)
theorem key_lit {x : Int} (h : Rg x) : WideAt.IsKeyLit (.int .i64 x) := law.key (key_of h)
set_option maxRecDepth 100000 in
theorem bool_inv {H : Type} {v : Value} {z : DataW H × List MemPlace} (h : plainElem Tryz.prog 4 v = some z) : ∃ a, v = .bool a ∧ z = (.lit (.bool a), []) := by
  have hu := Tryz.underlying4
  generalize Tryz.prog = P at h hu
  unfold plainElem at h
  rw [hu] at h
  cases v <;> simp at h
  subst h
  exact ⟨_, rfl, rfl⟩
/-- Block b is a map of at most n entries; s tells which keys read as true. -/
def Is (w : World) (b n : Nat) (s : Int → Bool) : Prop := ∃ D : DataW Unit, w.ownsMap Tryz.prog 3 (plainElem Tryz.prog 4) b n D ∧ ∀ x, Rg x → D.atKey (.int .i64 x) (.lit (.bool false)) = .lit (.bool (s x))
section
variable {w w' : World} {b n : Nat} {s : Int → Bool}
theorem made (w : World) : Is (w.alloc (.map #[] 0)) w.heap.size 0 fun _ => false := ⟨_, World.ownsMap_made _ _ _ _, fun _ _ => rfl⟩
theorem Is.lt (h : Is w b n s) : b < w.heap.size := by obtain ⟨D, hD, _⟩ := h; exact hD.lt
theorem Is.kept {row : Option Nat} (h : Is w b n s) (hg : w.grownBy w' row) (hne : some b ≠ row) : Is w' b n s := by obtain ⟨D, hD, hs⟩ := h; exact ⟨D, hD.kept hg hne, hs⟩
theorem grown_of (hb : Below w.heap.size w w') : w.grownBy w' none := ⟨hb.os, hb.tape, hb.output, hb.size, fun k hk _ => hb.block k hk⟩
theorem Is.below (h : Is w b n s) (hb : Below w.heap.size w w') : Is w' b n s := h.kept (grown_of hb) (by simp)
theorem Is.alloc (h : Is w b n s) (o : Obj) : Is (w.alloc o) b n s := h.kept (World.grownBy_alloc w o none) (by simp)
theorem Is.drew (h : Is w b n s) : Is w.drew b n s := h
theorem Is.set (h : Is w b n s) {a : Addr} (ha : b ≠ a.block) (u : Value) : Is (w.setCell a u) b n s := by obtain ⟨D, hD, hs⟩ := h; exact ⟨D, hD.setCell ha u, hs⟩
theorem Is.chg {S : List Nat} (h : Is w b n s) (hc : Chg w w' S) (hb : b ∉ S) : Is w' b n s := by
  obtain ⟨D, ⟨es, clock, hh, r⟩, hs⟩ := h
  exact ⟨D, ⟨es, clock, (hc.block b (Array.getElem?_eq_some_iff.1 hh).1 hb).trans hh, r⟩, hs⟩
theorem Is.as {t : Int → Bool} (h : Is w b n s) (he : ∀ x, Rg x → s x = t x) : Is w b n t := by obtain ⟨D, hD, hs⟩ := h; exact ⟨D, hD, fun x hx => by rw [hs x hx, he x hx]⟩
theorem Is.mono {m : Nat} (h : Is w b n s) (hm : n ≤ m) : Is w b m s := by obtain ⟨D, hD, hs⟩ := h; exact ⟨D, hD.mono hm, hs⟩
theorem Is.look (h : Is w b n s) {x : Int} (hx : Rg x) : (Instr.lookup 138 (.map (some b)) (.int .i64 x) false).run Tryz.prog w = .ok (.bool (s x)) w := by
  obtain ⟨D, hD, hs⟩ := h
  obtain ⟨v, ps, hrun, hv⟩ := hD.lookup law Tryz.underlying138 (zeroE w) (plainElem_bool Tryz.underlying4 false) (key_of hx)
  obtain ⟨c, rfl, hc⟩ := bool_inv hv
  have e := congrArg Prod.fst hc
  dsimp only at e
  rw [hs x hx] at e
  rw [hrun]
  simp only [DataW.lit.injEq, Lit.bool.injEq] at e
  rw [e]
end
section
variable (w : World) {ops : Array Oper} {rest : List Oper} {o : Oper} {a : Act} {Q : Exit → Act → World → Prop}
theorem wpList_put (hg : o.guard = none) (m x v : Operand) (hop : o.op = Op.mapUpdate 138 m x v) (b n : Nat) (s : Int → Bool) (hm : a.eval m = .map (some b)) (hown : Is w b n s) (hn : n < maxLen) (k : Int) (hx : a.eval x = .int .i64 k) (hv : a.eval v = .bool true) (hr : Rg k)
    (hK : ∀ w', Is w' b (n + 1) (fun y => decide (y = k) || s y) → w.grownBy w' (some b) → wpList Tryz.prog ops Q rest (a.put o.dst undef) w') : wpList Tryz.prog ops Q (o :: rest) a w := by
  obtain ⟨D, hD, hs⟩ := hown
  refine wpList_mapUpdate_own w hg m x v 138 hop 3 4 law Tryz.underlying138 _ b n D hm hD hn _ _ _ hx hv (key_of hr) (.lit (.bool true)) [] (plainElem_bool Tryz.underlying4 true) ?_
  intro w' hown' hg'
  refine hK w' ⟨_, hown', fun y hy => ?_⟩ hg'
  by_cases hyk : y = k
  · subst hyk
    rw [Maps.atKey_put_same hD.isMap (key_lit hy)]
    simp
  · rw [Maps.atKey_put_other (by simpa using hyk), hs y hy]
    simp [hyk]
theorem wpList_del (hg : o.guard = none) (m x : Operand) (hop : o.op = Op.call { callee := Callee.builtin Builtin.delete, args := #[m, x], argTypes := #[138, 3] }) (b n : Nat) (s : Int → Bool) (hm : a.eval m = .map (some b)) (hown : Is w b n s) (k : Int) (hx : a.eval x = .int .i64 k) (hr : Rg k)
    (hK : ∀ w', Is w' b n (fun y => !decide (y = k) && s y) → w.grownBy w' (some b) → wpList Tryz.prog ops Q rest (a.put o.dst (.tuple #[])) w') : wpList Tryz.prog ops Q (o :: rest) a w := by
  obtain ⟨D, hD, hs⟩ := hown
  refine wpList_delete_own w hg m x 138 3 hop 4 law Tryz.underlying138 _ b n D hm hD _ _ hx (key_of hr) ?_
  intro w' hown' hg'
  refine hK w' ⟨_, hown', fun y hy => ?_⟩ hg'.grown
  by_cases hyk : y = k
  · subst hyk
    rw [Maps.atKey_del_same]
    simp
  · rw [Maps.atKey_del_other (by simpa using hyk), hs y hy]
    simp [hyk]
end
end Go.Proofs.YthppbcnejapbiaaGreatDoor.MpB

-- YthppbcnejapbiaaGreatDoorFsU
/- Contracts: the program's blocksInUse (a map that has each block in use) and haveOwnBlocks. Conditions: as each theorem types them. -/
namespace Go.Proofs.YthppbcnejapbiaaGreatDoor.FsU
open Go.ChangeShapes Go.WideShapes Go.ChangeAt Go.RowKit
open Foot Bx
open InoV (I usedV hasB)
open FsV (F allB pre goB ownB oneB ownerV)
open Dk (ret_bool)
open MpB (Is)
set_option linter.unusedVariables false

theorem allB_len (l : List I) : (allB l).length ≤ IF.csum l := by
  induction l with
  | nil => exact Nat.le_refl _
  | cons n r ih =>
    have h1 : allB (n :: r) = usedV n.blocks ++ allB r := rfl
    have h2 : IF.csum (n :: r) = In.cost n + IF.csum r := by simp [IF.csum]
    have h3 := InEq.used_len n.blocks
    have h4 : n.blocks.length ≤ In.cost n := In.le_blocks n
    rw [h1, h2, List.length_append]; omega
theorem seen_len (l : List I) (i j : Nat) (hi : i < l.length) : (FsV.seen l i j).length ≤ IF.csum l := by
  have h1 : (FsV.seen l i j).length ≤ (allB (l.take (i + 1))).length := by
    rw [FsV.take_snoc l InoV.zero i hi, FsV.all_app, List.length_append, FsV.seen, List.length_append, List.length_take]
    simp [allB]; omega
  have h2 := allB_len (l.take (i + 1))
  have h3 := IF.csum_le l (i + 1)
  omega
theorem used_mem {l : List Int} {x : Int} (h : x ∈ usedV l) : x ∈ l := (List.mem_filter.1 h).1
/-- What stands at a place of a row of ints that the call owns. -/
theorem row_at {w : World} {base : Nat} {a : Option Addr} {c : Nat} {l : List Int} {S : List Nat} (h : NiF.Own w base (.slice a l.length c) l S) (j : Nat) (hj : j < l.length) : ∃ b o, a = some ⟨b, o, none⟩ ∧ w.cell? ⟨b, o + j, none⟩ = some (.int .i64 (l.getD j 0)) := by
  obtain ⟨a', c', e, _, hc⟩ := NiF.own_holds h
  rw [Value.slice.injEq] at e
  obtain ⟨rfl, _, rfl⟩ := e
  obtain ⟨b, o, e, _, hcell⟩ := hc j hj
  exact ⟨b, o, e, hcell⟩

set_option maxRecDepth 100000 in
set_option maxHeartbeats 3200000 in
theorem inuse_le (w : World) (v : Value) (l : List I) (hc : IF.cost l ≤ 1073741824) (hl : IF.Lim l) (h : IF.Holds w v l) :
    Calls Tryz.prog 160 #[v] w fun e w' => ∃ n, n ≤ 1073741824 ∧ e = .returned (.map (some w.heap.size)) ∧ Is w' w.heap.size n (hasB (allB l)) ∧ Below w.heap.size w w' := by
  obtain ⟨a, cap, rfl, hle, hat⟩ := IF.atL h
  have HC := Lib.hid hat
  have hlen : l.length ≤ 1073741824 := Nat.le_trans (Nat.le_add_right _ _) hc
  have hcs : IF.csum l ≤ 1073741824 := Nat.le_trans (Nat.le_add_left _ _) hc
  have HLM := Lib.hid hl.2
  have HCA := Lib.hid (fun i (hi : i < l.length) => Nat.le_trans (IF.cost_at hi) hcs)
  have HSL := Lib.hid (fun i j hi => Nat.le_trans (seen_len l i j hi) hcs)
  have HAL := Lib.hid (Nat.le_trans (allB_len l) hcs)
  obtain ⟨M, hM⟩ : ∃ M, M = l.length := ⟨_, rfl⟩
  rw [← hM] at hlen hle ⊢
  have HM := Lib.hid hM
  clear hM hat h hc hl hcs
  have HS0 := Lib.hid (show (fun _ => false) = hasB (FsV.seen l 0 0) from by funext x; rfl)
  have HBW := Lib.hid ((Below.refl w.heap.size w).alloc (Nat.le_refl _) (.map #[] 0))
  have HI0 := Lib.hid (MpB.made w)
  have hmm := @run_makeMap Tryz.prog
  go_enter Tryz.func160, Tryz.ntmps160
  go_wp2
  go_loopw [11] (fun iv wr => ∃ i : Nat, i ≤ M ∧ iv = .int .i64 i ∧ Is wr w.heap.size (FsV.seen l i 0).length (hasB (FsV.seen l i 0)) ∧ Below w.heap.size w wr) (fun iv _ => M - (intOf iv).toNat)
  case atStart => exact ⟨0, Nat.zero_le _, rfl, by rw [← HS0.out]; exact HI0.out, HBW.out⟩
  case round =>
    obtain ⟨i, hi, rfl, his, hbel⟩ := hrel
    have HB := Lib.hid hbel
    have HI := Lib.hid his
    have hsz := hbel.size
    clear his hbel HBW HI0 hmm
    by_cases hlt : i < M
    · have hlx : i < l.length := by rw [← HM.out]; exact hlt
      obtain ⟨b, o, rfl, hb, r0, r1, r2, hC, hP⟩ := HC.out i hlx
      have HP := Lib.hid (IF.parts_holds (IF.parts_below hP HB.out))
      obtain ⟨p0, p1, p2⟩ := hP
      obtain ⟨a0, d0, rfl⟩ := NiF.form p0
      obtain ⟨a1, d1, rfl⟩ := AeF.form p1
      obtain ⟨a2, d2, rfl⟩ := AeF.form p2
      obtain ⟨c0, c1, c2, c3, c4, c5, c6, c7, c8, c9⟩ := hC.below hb HB.out
      clear hC p0 p1 p2
      have hcx := HCA.out i hlx
      have HRX := Lib.hid (HLM.out _ (IF.mem_getD hlx)).blocks.2
      have HEND := Lib.hid (FsV.seen_end l i hlx)
      have HSN := Lib.hid (FsV.seen_snoc l i)
      have HSB := Lib.hid (fun j => HSL.out i j hlx)
      rw [show InoV.zero = IF.z0 from rfl] at HEND HSN
      generalize l.getD i IF.z0 = n at c0 c1 c2 c3 c4 c5 c6 c7 c8 c9 HP hcx HRX HEND HSN
      have hbl : n.blocks.length ≤ 1073741824 := Nat.le_trans (In.le_blocks n) hcx
      have HN := Lib.hid (HB.out.alloc hsz (.cells #[.int .i64 n.kind, .int .i64 n.mode, .int .i64 n.uid, .int .i64 n.gid, .int .i64 n.links, .int .i64 n.size, .int .i64 n.tick, .slice a0 n.blocks.length d0, .slice a1 n.acl.length d1, .slice a2 n.dflt.length d2] 89))
      have HIN := Lib.hid (HI.out.alloc (.cells #[.int .i64 n.kind, .int .i64 n.mode, .int .i64 n.uid, .int .i64 n.gid, .int .i64 n.links, .int .i64 n.size, .int .i64 n.tick, .slice a0 n.blocks.length d0, .slice a1 n.acl.length d1, .slice a2 n.dflt.length d2] 89))
      have HPN := Lib.hid (In.holds_below HP.out ((Below.refl wr.heap.size wr).alloc (Nat.le_refl _) (.cells #[.int .i64 n.kind, .int .i64 n.mode, .int .i64 n.uid, .int .i64 n.gid, .int .i64 n.links, .int .i64 n.size, .int .i64 n.tick, .slice a0 n.blocks.length d0, .slice a1 n.acl.length d1, .slice a2 n.dflt.length d2] 89)))
      go_wp2_with fail
      refine (InEq.used_impl _ _ n hbl HPN.out).mono ?_
      rintro e w1 ⟨y, S, rfl, hown, hb1⟩
      obtain ⟨ya, yc, rfl⟩ := NiF.own_form hown
      have hs1 := hb1.size
      have hbs := HIN.out.lt
      simp only [World.size_alloc] at hs1 hbs
      have HO := Lib.hid (NiF.own_mono hown (show w.heap.size + 1 ≤ _ by simp only [World.size_alloc]; omega))
      replace HN := Lib.hid (HN.out.trans (hb1.mono HN.out.size))
      replace HIN := Lib.hid (HIN.out.below hb1)
      have HUM := Lib.hid (fun x (hx : x ∈ usedV n.blocks) => HRX.out x (used_mem hx))
      obtain ⟨ul, hul⟩ : ∃ ul, ul = usedV n.blocks := ⟨_, rfl⟩
      rw [← hul] at HO HEND HSN HUM ⊢
      have hul2 : ul.length ≤ 1073741824 := by rw [hul]; exact Nat.le_trans (InEq.used_len _) hbl
      obtain ⟨m, hm⟩ : ∃ m, m = ul.length := ⟨_, rfl⟩
      have HOA := Lib.hid HO.out
      rw [← hm] at HOA HEND HSN hul2 ⊢
      have HML := Lib.hid hm
      clear hown hb1 hul hm c0 c1 c2 c3 c4 c5 c6 c7 c8 c9 HO
      go_wp2
      go_loopw [18] (fun jv wq => ∃ j : Nat, j ≤ m ∧ jv = .int .i64 j ∧ Is wq w.heap.size (FsV.seen l i j).length (hasB (FsV.seen l i j)) ∧ NiF.Own wq (w.heap.size + 1) (.slice ya m yc) ul S ∧ w.heap.size < wq.heap.size ∧ Below w.heap.size w wq) (fun jv _ => m - (intOf jv).toNat)
      case atStart => exact ⟨0, Nat.zero_le _, rfl, HIN.out, HOA.out, by omega, HN.out⟩
      case round =>
        obtain ⟨j, hj, rfl, his, hown, hszq, hbel⟩ := hrel
        replace HN := Lib.hid hbel
        replace HIN := Lib.hid his
        replace HOA := Lib.hid hown
        clear his hown hbel
        by_cases hltj : j < m
        · have hjl : j < ul.length := by rw [← HML.out]; exact hltj
          have hown := HOA.out
          rw [HML.out] at hown
          obtain ⟨b2, o2, rfl, g0⟩ := row_at hown j hjl
          have hrg : Rg (ul.getD j 0) := HUM.out _ (FsV.mem_getD hjl)
          have hst := HSN.out j hltj
          have hbnd := HSB.out (j + 1)
          rw [hst, List.length_append, List.length_singleton] at hbnd
          have HST := Lib.hid hst
          clear hst hown
          generalize ul.getD j 0 = x at g0 hrg HST
          have HRG := Lib.hid hrg
          clear hrg
          go_wp2_with (at_mapUpdate; refine MpB.wpList_put _ rfl _ _ _ rfl w.heap.size _ _ rfl HIN.out ?c1 x rfl rfl HRG.out ?_)
          case c1 => unfold maxLen; omega
          intro w2 his2 hg2
          have HI2 := Lib.hid (show Is w2 w.heap.size (FsV.seen l i (j + 1)).length (hasB (FsV.seen l i (j + 1))) from by
            rw [HST.out]
            refine (his2.mono (by simp)).as fun y _ => ?_
            rw [FsV.has_snoc, Bool.or_comm]
            congr 1
            exact decide_eq_decide.2 eq_comm)
          have HO2 := Lib.hid (NiF.own_chg HOA.out (Chg.of_grown hg2) (fun z hz hz2 => by
            have h1 := NiF.own_lies HOA.out z hz
            have h2 : z = w.heap.size := by simpa using hz2
            omega))
          have hsz2 := hg2.size
          have HB2 := Lib.hid ((HN.out.grown hg2 HN.out.size (fun k hk => by cases hk; exact Nat.le_refl _)))
          clear his2 hg2
          go_wp2
          go_roundw
          case rel => exact ⟨j + 1, by omega, by go_num, HI2.out, HO2.out, by omega, HB2.out⟩
          case measure => simp [intOf]; omega
        · obtain rfl : j = m := by omega
          have HI3 := Lib.hid (show Is wr w.heap.size (FsV.seen l (i + 1) 0).length (hasB (FsV.seen l (i + 1) 0)) from by rw [← HEND.out]; exact HIN.out)
          go_wp2
          go_roundw
          case rel => exact ⟨i + 1, by omega, by go_num, HI3.out, HN.out⟩
          case measure => simp [intOf]; omega
    · obtain rfl : i = M := by omega
      have HLE := Lib.hid (show (FsV.seen l i 0).length ≤ 1073741824 from by
        rw [FsV.seen_zero, List.take_of_length_le (by rw [← HM.out]; exact Nat.le_refl _)]
        exact HAL.out)
      have HI3 := Lib.hid (show Is wr w.heap.size (FsV.seen l i 0).length (hasB (allB l)) from by
        have := HI.out
        rw [FsV.seen_zero, List.take_of_length_le (by rw [← HM.out]; exact Nat.le_refl _)] at this
        rw [FsV.seen_zero, List.take_of_length_le (by rw [← HM.out]; exact Nat.le_refl _)]
        exact this)
      go_wp2
      go_ret
      exact ⟨_, HLE.out, rfl, HI3.out, HB.out⟩
theorem inuse_any (w : World) (v : Value) (l : List I) (hc : IF.cost l ≤ 1073741824) (hl : IF.Lim l) (h : IF.Holds w v l) :
    Calls Tryz.prog 160 #[v] w fun e w' => ∃ n, e = .returned (.map (some w.heap.size)) ∧ Is w' w.heap.size n (hasB (allB l)) ∧ Below w.heap.size w w' :=
  (inuse_le w v l hc hl h).mono fun e w' ⟨n, _, h⟩ => ⟨n, h⟩
end Go.Proofs.YthppbcnejapbiaaGreatDoor.FsU

-- YthppbcnejapbiaaGreatDoorFsW
/- Contract: the program's haveOwnBlocks tells whether each block in use belongs to the pool of its inode's owner, and to no other inode. Conditions: as the theorem types them. -/
namespace Go.Proofs.YthppbcnejapbiaaGreatDoor.FsW
open Go.ChangeShapes Go.WideShapes Go.ChangeAt Go.RowKit
open Foot Bx
open InoV (I usedV hasB)
open FsV (F allB pre goB ownB oneB ownerV)
open Dk (ret_bool)
open MpB (Is)
open FsU (row_at used_mem)
set_option linter.unusedVariables false

theorem one_of {l : List I} {i j : Nat} {u x : Int} {A B : Bool} (hA : hasB (allB l) x = true) (hs : (hasB (allB l) x && !hasB (FsV.seen l i j) x) = A) (hB : decide (ownerV x = u) = B) : oneB (FsV.seen l i j) (u, x) = (B && A) := by
  rw [oneB, ← hs, ← hB, hA]; rfl

set_option maxRecDepth 100000 in
set_option maxHeartbeats 6400000 in
theorem own_impl (w : World) (v : Value) (l : List I) (hc : IF.cost l ≤ 1073741824) (hl : IF.Lim l) (h : IF.Holds w v l) :
    Calls Tryz.prog 134 #[v] w fun e w' => e = .returned (.bool (ownB l)) ∧ Below w.heap.size w w' := by
  have HIU := Lib.hid (fun W (hb : Below w.heap.size w W) => FsU.inuse_any W v l hc hl (IF.holds_below h hb))
  obtain ⟨a, cap, rfl, hle, hat⟩ := IF.atL h
  have HC := Lib.hid hat
  have hlen : l.length ≤ 1073741824 := Nat.le_trans (Nat.le_add_right _ _) hc
  have hcs : IF.csum l ≤ 1073741824 := Nat.le_trans (Nat.le_add_left _ _) hc
  have HLM := Lib.hid hl.2
  have HCA := Lib.hid (fun i (hi : i < l.length) => Nat.le_trans (IF.cost_at hi) hcs)
  have HHA := Lib.hid (fun i j hi hj => FsV.has_at (ns := l) (i := i) (j := j) hi hj)
  have HNO := Lib.hid (fun i j hi hj => FsV.own_no l i j hi hj)
  have HST := Lib.hid (fun i j hj => FsV.own_step l i j hj)
  have HEN := Lib.hid (fun i hi => FsV.own_end l i hi)
  obtain ⟨M, hM⟩ : ∃ M, M = l.length := ⟨_, rfl⟩
  rw [← hM] at hlen hle HIU ⊢
  have HM := Lib.hid hM
  clear hM hat h hc hl hcs
  go_enter Tryz.func134, Tryz.ntmps134
  go_wp2_with fail
  refine (HIU.out _ (Below.refl _ _)).mono ?_
  rintro e w0 ⟨N, rfl, his0, hb0⟩
  have HI0 := Lib.hid (show Is w0 w.heap.size N (fun x => hasB (allB l) x && !hasB (FsV.seen l 0 0) x) from his0.as fun x _ => by rw [show hasB (FsV.seen l 0 0) x = false from rfl]; simp)
  have HB0 := Lib.hid hb0
  clear his0 hb0 HIU
  go_wp2
  go_loopw [12] (fun iv wr => ∃ i : Nat, i ≤ M ∧ iv = .int .i64 i ∧ Is wr w.heap.size N (fun x => hasB (allB l) x && !hasB (FsV.seen l i 0) x) ∧ goB [] (pre l i 0) = true ∧ Below w.heap.size w wr) (fun iv _ => M - (intOf iv).toNat)
  case atStart => exact ⟨0, Nat.zero_le _, rfl, HI0.out, rfl, HB0.out⟩
  case round =>
    obtain ⟨i, hi, rfl, his, hgo, hbel⟩ := hrel
    have HB := Lib.hid hbel
    have HI := Lib.hid his
    have HG := Lib.hid hgo
    have hsz := hbel.size
    clear his hbel hgo HI0 HB0
    by_cases hlt : i < M
    · have hlx : i < l.length := by rw [← HM.out]; exact hlt
      obtain ⟨b, o, rfl, hb, r0, r1, r2, hC, hP⟩ := HC.out i hlx
      have HP := Lib.hid (IF.parts_holds (IF.parts_below hP HB.out))
      obtain ⟨p0, p1, p2⟩ := hP
      obtain ⟨a0, d0, rfl⟩ := NiF.form p0
      obtain ⟨a1, d1, rfl⟩ := AeF.form p1
      obtain ⟨a2, d2, rfl⟩ := AeF.form p2
      obtain ⟨c0, c1, c2, c3, c4, c5, c6, c7, c8, c9⟩ := hC.below hb HB.out
      clear hC p0 p1 p2
      have hcx := HCA.out i hlx
      have HRX := Lib.hid (HLM.out _ (IF.mem_getD hlx)).blocks.2
      have HE1 := Lib.hid (FsV.seen_end l i hlx)
      have HE2 := Lib.hid (FsV.pre_end l i hlx)
      have HSN := Lib.hid (FsV.seen_snoc l i)
      have HNI := Lib.hid (fun j hj => HNO.out i j hlx hj)
      have HSI := Lib.hid (fun j hj => HST.out i j hj)
      have HHI := Lib.hid (fun j hj => HHA.out i j hlx hj)
      rw [show InoV.zero = IF.z0 from rfl] at HE1 HE2 HSN HNI HSI HHI
      generalize l.getD i IF.z0 = n at c0 c1 c2 c3 c4 c5 c6 c7 c8 c9 HP hcx HRX HE1 HE2 HSN HNI HSI HHI
      have hbl : n.blocks.length ≤ 1073741824 := Nat.le_trans (In.le_blocks n) hcx
      have HN := Lib.hid (HB.out.alloc hsz (.cells #[.int .i64 n.kind, .int .i64 n.mode, .int .i64 n.uid, .int .i64 n.gid, .int .i64 n.links, .int .i64 n.size, .int .i64 n.tick, .slice a0 n.blocks.length d0, .slice a1 n.acl.length d1, .slice a2 n.dflt.length d2] 89))
      have HIN := Lib.hid (HI.out.alloc (.cells #[.int .i64 n.kind, .int .i64 n.mode, .int .i64 n.uid, .int .i64 n.gid, .int .i64 n.links, .int .i64 n.size, .int .i64 n.tick, .slice a0 n.blocks.length d0, .slice a1 n.acl.length d1, .slice a2 n.dflt.length d2] 89))
      have HPN := Lib.hid (In.holds_below HP.out ((Below.refl wr.heap.size wr).alloc (Nat.le_refl _) (.cells #[.int .i64 n.kind, .int .i64 n.mode, .int .i64 n.uid, .int .i64 n.gid, .int .i64 n.links, .int .i64 n.size, .int .i64 n.tick, .slice a0 n.blocks.length d0, .slice a1 n.acl.length d1, .slice a2 n.dflt.length d2] 89)))
      have HXN := Lib.hid (new wr #[.int .i64 n.kind, .int .i64 n.mode, .int .i64 n.uid, .int .i64 n.gid, .int .i64 n.links, .int .i64 n.size, .int .i64 n.tick, .slice a0 n.blocks.length d0, .slice a1 n.acl.length d1, .slice a2 n.dflt.length d2] 89)
      go_wp2_with fail
      refine (InEq.used_impl _ _ n hbl HPN.out).mono ?_
      rintro e w1 ⟨y, S, rfl, hown, hb1⟩
      obtain ⟨ya, yc, rfl⟩ := NiF.own_form hown
      have hs1 := hb1.size
      have hbs := HIN.out.lt
      have hbs0 := HI.out.lt
      simp only [World.size_alloc] at hs1 hbs
      have HO := Lib.hid (NiF.own_mono hown (show w.heap.size + 1 ≤ _ by simp only [World.size_alloc]; omega))
      replace HN := Lib.hid (HN.out.trans (hb1.mono HN.out.size))
      replace HIN := Lib.hid (HIN.out.below hb1)
      replace HXN := Lib.hid (HXN.out.all hb1)
      have HUM := Lib.hid (fun x (hx : x ∈ usedV n.blocks) => HRX.out x (used_mem hx))
      obtain ⟨ul, hul⟩ : ∃ ul, ul = usedV n.blocks := ⟨_, rfl⟩
      rw [← hul] at HO HE1 HE2 HSN HUM HNI HSI HHI ⊢
      have hul2 : ul.length ≤ 1073741824 := by rw [hul]; exact Nat.le_trans (InEq.used_len _) hbl
      obtain ⟨m, hm⟩ : ∃ m, m = ul.length := ⟨_, rfl⟩
      have HOA := Lib.hid HO.out
      rw [← hm] at HOA HE1 HE2 HSN HNI HSI HHI hul2 ⊢
      have HML := Lib.hid hm
      obtain ⟨W1, hW1⟩ : ∃ W1, W1 = wr.heap.size := ⟨_, rfl⟩
      rw [← hW1] at HXN ⊢
      have hbx : w.heap.size < W1 := by omega
      have hbx1 : W1 < w1.heap.size := by omega
      clear hown hb1 hul hm c0 c1 c2 c3 c4 c5 c6 c7 c8 c9 HO hW1
      go_wp2
      go_loopw [19] (fun jv wq => ∃ j : Nat, j ≤ m ∧ jv = .int .i64 j ∧ Is wq w.heap.size N (fun x => hasB (allB l) x && !hasB (FsV.seen l i j) x) ∧ goB [] (pre l i j) = true ∧ NiF.Own wq (w.heap.size + 1) (.slice ya m yc) ul S ∧ Bk wq W1 #[.int .i64 n.kind, .int .i64 n.mode, .int .i64 n.uid, .int .i64 n.gid, .int .i64 n.links, .int .i64 n.size, .int .i64 n.tick, .slice a0 n.blocks.length d0, .slice a1 n.acl.length d1, .slice a2 n.dflt.length d2] 89 ∧ W1 < wq.heap.size ∧ Below w.heap.size w wq) (fun jv _ => m - (intOf jv).toNat)
      case atStart => exact ⟨0, Nat.zero_le _, rfl, HIN.out, HG.out, HOA.out, HXN.out, hbx1, HN.out⟩
      case round =>
        obtain ⟨j, hj, rfl, his, hgo, hown, hxn, hszq, hbel⟩ := hrel
        replace HN := Lib.hid hbel
        replace HIN := Lib.hid his
        replace HOA := Lib.hid hown
        replace HG := Lib.hid hgo
        replace HXN := Lib.hid hxn
        clear his hown hbel hgo hxn hbx1
        by_cases hltj : j < m
        · have hjl : j < ul.length := by rw [← HML.out]; exact hltj
          have hown := HOA.out
          rw [HML.out] at hown
          obtain ⟨b2, o2, rfl, g0⟩ := row_at hown j hjl
          have hrg : Rg (ul.getD j 0) := HUM.out _ (FsV.mem_getD hjl)
          have HSJ := Lib.hid (HSN.out j hltj)
          have HNJ := Lib.hid (HNI.out j hltj)
          have HSK := Lib.hid (HSI.out j hltj HG.out)
          have HHJ := Lib.hid (HHI.out j hltj)
          clear hown
          generalize ul.getD j 0 = x at g0 hrg HSJ HNJ HSK HHJ
          have HRG := Lib.hid hrg
          clear hrg
          obtain ⟨A, hA⟩ : ∃ A, (hasB (allB l) x && !hasB (FsV.seen l i j) x) = A := ⟨_, rfl⟩
          have HA := Lib.hid hA
          clear hA
          have hu2 := Fam.cell (W := wr) (p := ⟨W1, 2, none⟩) hszq (show _ = some (.int .i64 n.uid) from HXN.out.cell 2)
          have HOW := Lib.hid (fun W => FsO.owner_impl x W)
          have hlk : ∀ q : Fam.Ix wr, (Instr.lookup 138 (.map (some w.heap.size)) (.int .i64 x) false).run Tryz.prog (Fam.wld wr q) = .ok (.bool A) (Fam.wld wr q) := fun q => by
            rw [← HA.out]; exact (HIN.out.below (Fam.wld_below wr q)).look HRG.out
          obtain ⟨B, hB⟩ : ∃ B, decide (ownerV x = n.uid) = B := ⟨_, rfl⟩
          have HOB := Lib.hid hB
          have hB1 : (ownerV x == n.uid) = B := by rw [← hB]; by_cases hh : ownerV x = n.uid <;> simp [hh]
          have hB2 : (ownerV x != n.uid) = !B := by rw [bne, hB1]
          clear hB
          go_wp2
          refine Fam.region (by kernel_rfl) (by kernel_rfl) ?_
          cases A
          · repeat (go_big_quiet_step (first | (go_at_call 173; with_reducible refine Fam.calls_same (HOW.out _))))
            refine wpQuiet_nil ?_
            intro _ hw'
            obtain ⟨nq, hw''⟩ := hw'
            subst hw''
            have hbq := Fam.wld_below _ nq
            generalize Fam.wld _ nq = w9 at hbq ⊢
            have HF := Lib.hid (HNJ.out (by rw [one_of HHJ.out HA.out HOB.out]; simp))
            have HB9 := Lib.hid (HN.out.trans (hbq.mono HN.out.size))
            clear hbq hu2 hlk g0
            go_wp2
            go_ret
            exact ⟨ret_bool HF.out.symm, HB9.out⟩
          · cases B
            · repeat (go_big_quiet_step (first | (go_at_call 173; with_reducible refine Fam.calls_same (HOW.out _))))
              refine wpQuiet_nil ?_
              intro _ hw'
              obtain ⟨nq, hw''⟩ := hw'
              subst hw''
              have hbq := Fam.wld_below _ nq
              generalize Fam.wld _ nq = w9 at hbq ⊢
              have HF := Lib.hid (HNJ.out (by rw [one_of HHJ.out HA.out HOB.out]; simp))
              have HB9 := Lib.hid (HN.out.trans (hbq.mono HN.out.size))
              clear hbq hu2 hlk g0
              go_wp2
              go_ret
              exact ⟨ret_bool HF.out.symm, HB9.out⟩
            · repeat (go_big_quiet_step (first | (go_at_call 173; with_reducible refine Fam.calls_same (HOW.out _))))
              refine wpQuiet_nil ?_
              intro _ hw'
              obtain ⟨nq, hw''⟩ := hw'
              subst hw''
              have hbq := Fam.wld_below _ nq
              generalize Fam.wld _ nq = w9 at hbq ⊢
              have HS := Lib.hid (HSK.out (by rw [one_of HHJ.out HA.out HOB.out]; rfl))
              have HB9 := Lib.hid (HN.out.trans (hbq.mono HN.out.size))
              have HI9 := Lib.hid (HIN.out.below hbq)
              have HO9 := Lib.hid (NiF.own_below HOA.out hbq)
              have HX9 := Lib.hid (HXN.out.all hbq)
              have hs9 := hbq.size
              clear hbq hu2 hlk g0 hB1 hB2
              go_wp2_with (at_delete; refine MpB.wpList_del _ rfl _ _ rfl w.heap.size _ _ rfl HI9.out x rfl HRG.out ?_)
              intro w2 his2 hg2
              have HI2 := Lib.hid (show Is w2 w.heap.size N (fun y => hasB (allB l) y && !hasB (FsV.seen l i (j + 1)) y) from his2.as fun y _ => by
                rw [HSJ.out, FsV.has_snoc]
                by_cases hyx : y = x
                · subst hyx; simp
                · have : ¬ x = y := fun e => hyx e.symm
                  simp [hyx, this])
              have HO2 := Lib.hid (NiF.own_chg HO9.out (Chg.of_grown hg2) (fun z hz hz2 => by
                have h1 := NiF.own_lies HO9.out z hz
                have h2 : z = w.heap.size := by simpa using hz2
                omega))
              have HX2 := Lib.hid (HX9.out.grown hg2 (by simp; omega))
              have hsz2 := hg2.size
              have HB2 := Lib.hid ((HB9.out.grown hg2 HB9.out.size (fun k hk => by cases hk; exact Nat.le_refl _)))
              clear his2 hg2
              go_wp2
              go_roundw
              case rel => exact ⟨j + 1, by omega, by go_num, HI2.out, HS.out, HO2.out, HX2.out, by omega, HB2.out⟩
              case measure => simp [intOf]; omega
        · obtain rfl : j = m := by omega
          have HI3 := Lib.hid (show Is wr w.heap.size N (fun x => hasB (allB l) x && !hasB (FsV.seen l (i + 1) 0) x) from by rw [← HE1.out]; exact HIN.out)
          have HG3 := Lib.hid (show goB [] (pre l (i + 1) 0) = true from by rw [← HE2.out]; exact HG.out)
          go_wp2
          go_roundw
          case rel => exact ⟨i + 1, by omega, by go_num, HI3.out, HG3.out, HN.out⟩
          case measure => simp [intOf]; omega
    · obtain rfl : i = M := by omega
      have HF := Lib.hid (HEN.out i HM.out HG.out)
      go_wp2
      go_ret
      exact ⟨ret_bool HF.out.symm, HB.out⟩
end Go.Proofs.YthppbcnejapbiaaGreatDoor.FsW

-- YthppbcnejapbiaaGreatDoorFsB
/- Contract: the program's beyondSize gives what the last block of an inode has beyond its size. Conditions: as the theorem types them. -/
namespace Go.Proofs.YthppbcnejapbiaaGreatDoor.FsB
open Go.ChangeShapes Go.WideShapes Go.ChangeAt Go.RowKit
open Foot Bx
open InoV (I usedV hasB needV)
open FsV (F allB ownB beyond zB freeB elseB okF partsB tickB rootB allTo rangeTo)
open Dk (ret_bool)
open MpB (Is)
set_option linter.unusedVariables false

theorem ret_str {a b : ByteArray} (h : a = b) : Ending.returned (.string a) = .returned (.string b) := by rw [h]
/-- What is asked of an inode for its last block to be looked at. -/
structure Fit (f : F) (n : I) : Prop where
  len : f.data.length = 56
  size : ∀ s ∈ f.data, s.size = 32
  need : (n.blocks.length : Int) = needV n.size
  lo : 0 ≤ n.size
  hi : n.size ≤ 256
  blk : ∀ b ∈ n.blocks, b = -1 ∨ (0 ≤ b ∧ b ≤ 55)
theorem Fit.x {f : F} {n : I} (h : Fit f n) {L : Nat} (hL : n.blocks.length = L + 1) : ∃ X : Nat, n.size = (X : Int) + (L : Int) * 32 ∧ X ≤ 32 ∧ L ≤ 7 := by
  have h1 := h.need
  have h2 := h.lo
  have h3 := h.hi
  rw [hL] at h1
  unfold needV at h1
  split at h1
  · omega
  · exact ⟨(n.size - (L : Int) * 32).toNat, by omega, by omega, by omega⟩
theorem beyond_none {f : F} {n : I} (h : n.blocks.length = 0) : beyond f n = ⟨#[]⟩ := by rw [beyond, if_pos h]; rfl
theorem beyond_hole {f : F} {n : I} {L : Nat} (hL : n.blocks.length = L + 1) (h : n.blocks.getD L 0 = -1) : beyond f n = ⟨#[]⟩ := by
  rw [beyond, if_neg (by omega), hL, Nat.add_sub_cancel, if_pos h]; rfl
theorem beyond_at {f : F} {n : I} {L X k : Nat} (hL : n.blocks.length = L + 1) (h : n.blocks.getD L 0 = (k : Int)) (hx : n.size = (X : Int) + (L : Int) * 32) : beyond f n = (f.data.getD k ⟨#[]⟩).extract X 32 := by
  rw [beyond, if_neg (by omega), hL, Nat.add_sub_cancel, if_neg (by omega), h, hx, show ((k : Int)).toNat = k from rfl, show ((X : Int) + (L : Int) * 32 - (((L + 1 : Nat) : Int) - 1) * 32).toNat = X from by omega]; rfl

set_option maxRecDepth 100000 in
set_option maxHeartbeats 3200000 in
theorem beyond_impl (w : World) (vf vn : Value) (f : F) (n : I) (hF : FsF.Holds w vf f) (hN : In.Holds w vn n) (hfit : Fit f n) :
    Calls Tryz.prog 175 #[vf, vn] w fun e w' => e = .returned (.string (beyond f n)) ∧ Below w.heap.size w w' := by
  obtain ⟨r0, r1, r2, rfl, g0, g1, g2⟩ := hF
  obtain ⟨qa, qc, rfl⟩ := QF.form g0
  obtain ⟨ia, ic, rfl⟩ := IF.form g1
  obtain ⟨da, dc, rfl, hD⟩ := g2
  obtain ⟨s0, s1, s2, rfl, k0, k1, k2⟩ := hN
  obtain ⟨a, c, rfl, _, hB⟩ := k0
  obtain ⟨a1, d1, rfl⟩ := AeF.form k1
  obtain ⟨a2, d2, rfl⟩ := AeF.form k2
  have HD := Lib.hid (show ∀ i, i < f.data.length → ∃ b o, da = some ⟨b, o, none⟩ ∧ b < w.heap.size ∧ w.cell? ⟨b, o + i, none⟩ = some (.string (f.data.getD i ⟨#[]⟩)) from fun i hi => by
    obtain ⟨b, o, e, hlt, hcell⟩ := hD (by intro e; rw [e] at hi; simp at hi)
    exact ⟨b, o, e, hlt, hcell i hi⟩)
  have HBL := Lib.hid hB
  have HFIT := Lib.hid hfit
  clear g0 g1 hD k1 k2 hB hfit
  have HB0 := Lib.hid (((Below.refl w.heap.size w).alloc (Nat.le_refl _) (.cells #[.int .i64 f.tick, .slice qa f.quotas.length qc, .slice ia f.inodes.length ic, .slice da f.data.length dc] 33)).alloc (by simp) (.cells #[.int .i64 n.kind, .int .i64 n.mode, .int .i64 n.uid, .int .i64 n.gid, .int .i64 n.links, .int .i64 n.size, .int .i64 n.tick, .slice a n.blocks.length c, .slice a1 n.acl.length d1, .slice a2 n.dflt.length d2] 89))
  have HX := Lib.hid ((new w #[.int .i64 f.tick, .slice qa f.quotas.length qc, .slice ia f.inodes.length ic, .slice da f.data.length dc] 33).alloc (.cells #[.int .i64 n.kind, .int .i64 n.mode, .int .i64 n.uid, .int .i64 n.gid, .int .i64 n.links, .int .i64 n.size, .int .i64 n.tick, .slice a n.blocks.length c, .slice a1 n.acl.length d1, .slice a2 n.dflt.length d2] 89))
  have HY := Lib.hid (new_at (w.alloc (.cells #[.int .i64 f.tick, .slice qa f.quotas.length qc, .slice ia f.inodes.length ic, .slice da f.data.length dc] 33)) #[.int .i64 n.kind, .int .i64 n.mode, .int .i64 n.uid, .int .i64 n.gid, .int .i64 n.links, .int .i64 n.size, .int .i64 n.tick, .slice a n.blocks.length c, .slice a1 n.acl.length d1, .slice a2 n.dflt.length d2] 89 (w.heap.size + 1) (by simp))
  rcases Nat.eq_zero_or_pos n.blocks.length with h0 | hp
  · have HV := Lib.hid (beyond_none (f := f) h0)
    rw [h0]
    clear h0
    rw [HV.out]
    generalize f.data.length = DM at HD ⊢
    generalize f.inodes.length = DI at *
    generalize f.quotas.length = DQ at *
    go_enter Tryz.func175, Tryz.ntmps175
    go_wp2
    go_ret
    exact ⟨rfl, ((Below.refl w.heap.size w).alloc (Nat.le_refl _) _).alloc (by simp) _⟩
  · obtain ⟨L, hL⟩ : ∃ L, n.blocks.length = L + 1 := ⟨n.blocks.length - 1, by omega⟩
    obtain ⟨X, hX, hX32, hL7⟩ := HFIT.out.x hL
    obtain ⟨b1, o1, rfl, hlt1, gB⟩ := HBL.out L (by omega)
    have HHO := Lib.hid (fun h => beyond_hole (f := f) hL h)
    have HAT := Lib.hid (fun k h => beyond_at (f := f) (k := k) hL h hX)
    have hbk := HFIT.out.blk _ (show n.blocks.getD L 0 ∈ n.blocks from FsV.mem_getD (by omega))
    have hlen := HFIT.out.len
    have HSZ := Lib.hid HFIT.out.size
    rw [hL, hlen] at HB0 HX HY ⊢
    rw [hX] at HB0 HX HY ⊢
    rw [hlen] at HD
    have HLN := Lib.hid hlen
    clear hL hX hp hlen HFIT
    have gB2 := HB0.out.cell (p := ⟨b1, o1 + L, none⟩) hlt1
    rw [gB] at gB2
    have y5 := HY.out.cell 5
    have y7 := HY.out.cell 7
    have x3 := HX.out.cell 3
    dsimp at y5 y7 x3
    generalize n.blocks.getD L 0 = bl at gB gB2 hbk HHO HAT
    by_cases hm : bl = -1
    · subst hm
      have HV := Lib.hid (HHO.out rfl)
      clear hbk gB HD HSZ HAT HHO
      rw [HV.out]
      generalize f.inodes.length = DI at *
      generalize f.quotas.length = DQ at *
      go_enter Tryz.func175, Tryz.ntmps175
      go_wp2
      go_ret
      exact ⟨rfl, HB0.out⟩
    · obtain ⟨k, rfl⟩ : ∃ k : Nat, bl = k := ⟨bl.toNat, by omega⟩
      have hk : k < 56 := by omega
      obtain ⟨b2, o2, rfl, hlt2, gD⟩ := HD.out k hk
      have HV := Lib.hid (HAT.out k rfl)
      have gD2 := HB0.out.cell (p := ⟨b2, o2 + k, none⟩) hlt2
      rw [gD] at gD2
      have hsz : (f.data.getD k ⟨#[]⟩).size = 32 := HSZ.out _ (FsV.mem_getD (by rw [HLN.out]; exact hk))
      have hm1 : ((k : Int) == -1) = false := by simp
      have hm2 : ((k : Int) != -1) = true := by simp
      clear hbk gB hm HHO HAT gD HD HSZ HLN
      rw [HV.out]
      generalize f.data.getD k ⟨#[]⟩ = s at gD2 hsz ⊢
      have HSS := Lib.hid hsz
      have hs1 : (s.size : Int) = 32 := by omega
      generalize f.inodes.length = DI at *
      generalize f.quotas.length = DQ at *
      go_enter Tryz.func175, Tryz.ntmps175
      go_wp2
      generalize (w.alloc (.cells #[.int .i64 f.tick, .slice qa DQ qc, .slice ia DI ic, .slice (some ⟨b2, o2, none⟩) 56 dc] 33)).alloc _ = w0 at *
      have z5 := Fam.cell (W := w0) (p := ⟨w.heap.size + 1, 5, none⟩) HY.out.lt y5
      have z7 := Fam.cell (W := w0) (p := ⟨w.heap.size + 1, 7, none⟩) HY.out.lt y7
      have z3 := Fam.cell (W := w0) (p := ⟨w.heap.size, 3, none⟩) HX.out.lt x3
      have zb := Fam.cell (W := w0) (p := ⟨b1, o1 + L, none⟩) (by have := HB0.out.size; show b1 < _; omega) gB2
      have zd := Fam.cell (W := w0) (p := ⟨b2, o2 + k, none⟩) (by have := HB0.out.size; show b2 < _; omega) gD2
      clear y5 y7 x3 gB2 gD2
      refine Fam.region (by kernel_rfl) (by kernel_rfl) ?_
      repeat (go_big_quiet_step (fail))
      refine wpQuiet_nil ?_
      intro _ hw'
      obtain ⟨nq, hw''⟩ := hw'
      subst hw''
      have hbq := Fam.wld_below _ nq
      generalize Fam.wld _ nq = w9 at hbq ⊢
      replace HB0 := Lib.hid (HB0.out.trans (hbq.mono HB0.out.size))
      clear hbq z5 z7 z3 zb zd
      go_wp2
      go_ret
      exact ⟨rfl, HB0.out⟩
end Go.Proofs.YthppbcnejapbiaaGreatDoor.FsB

-- YthppbcnejapbiaaGreatDoorIsZeroes
/- Contracts: for every string, the program's IsZeroes and the model's tell whether all of its bytes are 0. Condition: the string's length is one that Go's ints hold. -/
namespace Go.Proofs.YthppbcnejapbiaaGreatDoor.IsZeroes
open Go.ChangeShapes Go.WideShapes Go.ChangeAt Go.RowKit
set_option linter.unusedVariables false

def zeroB (l : List UInt8) : Bool := l.all (· == 0)
theorem ret_bool {a b : Bool} (h : a = b) : Ending.returned (.bool a) = .returned (.bool b) := by rw [h]
theorem drop_nil (l : List UInt8) (h : zeroB l = true) : l.dropWhile (· == 0) = [] := by
  induction l with
  | nil => rfl
  | cons a l ih =>
    simp only [zeroB, List.all_cons, Bool.and_eq_true] at h
    rw [List.dropWhile_cons, if_pos h.1]
    exact ih h.2
theorem nil_drop (l : List UInt8) (h : l.dropWhile (· == 0) = []) : zeroB l = true := by
  induction l with
  | nil => rfl
  | cons a l ih =>
    rw [List.dropWhile_cons] at h
    split at h
    · rename_i ha
      simp only [zeroB, List.all_cons, Bool.and_eq_true]
      exact ⟨ha, ih h⟩
    · cases h
theorem zero_rev (l : List UInt8) : zeroB l.reverse = zeroB l := by simp [zeroB]
theorem zero_append (a b : List UInt8) : zeroB (a ++ b) = (zeroB a && zeroB b) := by simp [zeroB]
theorem zero_take (l : List UInt8) : zeroB (l.takeWhile (· == 0)) = true := by
  induction l with
  | nil => rfl
  | cons a l ih =>
    rw [List.takeWhile_cons]
    split
    · rename_i ha
      simp only [zeroB, List.all_cons, Bool.and_eq_true]
      exact ⟨ha, ih⟩
    · rfl
theorem trim_nil (l : List UInt8) : (Lib.trimB l 0 = []) ↔ zeroB l = true := by
  unfold Lib.trimB Lib.trimLeftB Lib.trimRightB
  constructor
  · intro h
    have h1 := nil_drop _ h
    rw [zero_rev] at h1
    have h2 : zeroB (l.reverse.takeWhile (· == 0) ++ l.reverse.dropWhile (· == 0)) = true := by
      rw [zero_append, zero_take, h1]; rfl
    rw [List.takeWhile_append_dropWhile, zero_rev] at h2
    exact h2
  · intro h
    rw [drop_nil l.reverse (by rw [zero_rev]; exact h)]
    rfl
/-- What is left of the string is empty exactly if all bytes are 0. -/
theorem empty_is (l : List UInt8) : (⟨(Lib.trimB l 0).toArray⟩ : ByteArray).toList.isEmpty = zeroB l := by
  rw [ByteArray.toList_eq]
  have e : (⟨(Lib.trimB l 0).toArray⟩ : ByteArray).data.toList = Lib.trimB l 0 := by simp
  rw [e, Bool.eq_iff_iff, List.isEmpty_iff]
  exact trim_nil l
def upto (s : ByteArray) (k : Nat) : Prop := zeroB (s.data.toList.take k) = true
theorem upto_zero (s : ByteArray) : upto s 0 := by simp [upto, zeroB]
theorem upto_succ (s : ByteArray) (k : Nat) (h : k < s.size) (hu : upto s k) (hd : s[k] = 0) : upto s (k + 1) := by
  unfold upto at *
  rw [List.take_succ_eq_append_getElem (by simpa using h), zero_append, hu]
  have : s.data.toList[k]'(by simpa using h) = s[k] := rfl
  rw [this, hd]; rfl
theorem no_of (s : ByteArray) (k : Nat) (h : k < s.size) (hd : s[k] ≠ 0) : zeroB s.data.toList = false := by
  have hm : s[k] ∈ s.data.toList := by
    have : s.data.toList[k]'(by simpa using h) = s[k] := rfl
    rw [← this]; exact List.getElem_mem _
  rw [zeroB, List.all_eq_false]
  exact ⟨_, hm, by simpa using hd⟩
theorem end_of (s : ByteArray) (k : Nat) (h : s.size ≤ k) (hu : upto s k) : zeroB s.data.toList = true := by
  unfold upto at hu
  rw [List.take_of_length_le (by simpa using h)] at hu
  exact hu
theorem byte_zero (b : UInt8) : ((b.toNat : Int) == 0) = true ↔ b = 0 := by
  rw [beq_iff_eq]
  constructor
  · intro h; exact UInt8.toNat_inj.1 (by simpa using h)
  · rintro rfl; rfl

set_option maxRecDepth 100000 in
set_option maxHeartbeats 400000 in
theorem spec_any (s : ByteArray) (w : World) (hs : s.size ≤ maxLen) :
    Calls Tryz.prog 132 #[.string s] w fun e w' => e = .returned (.bool (zeroB s.data.toList)) ∧ w = w' := by
  unfold maxLen at hs
  go_enter Tryz.func132, Tryz.ntmps132
  go_wp2
  go_loop [3] (fun i => ∃ k : Nat, k ≤ s.size ∧ i = .int .i64 k ∧ upto s k) (fun i => s.size - (intOf i).toNat)
  case atStart => exact ⟨0, Nat.zero_le _, rfl, upto_zero s⟩
  case round =>
    obtain ⟨k, hk, rfl, hu⟩ := hrel
    have HU := Lib.hid hu
    clear hu
    by_cases hlt : k < s.size
    · by_cases h0 : s[k] = 0
      · have hb1 : ((s[k].toNat : Int) == 0) = true := (byte_zero _).2 h0
        have hb2 : ((s[k].toNat : Int) != 0) = false := by simp [h0]
        have HN := Lib.hid (upto_succ s k hlt HU.out h0)
        clear h0
        go_wp2
        go_round
        case rel => exact ⟨k + 1, by omega, by go_num, HN.out⟩
        case measure => simp [intOf]; omega
      · have hb1 : ((s[k].toNat : Int) == 0) = false := by rw [Bool.eq_false_iff]; exact fun h => h0 ((byte_zero _).1 h)
        have hb2 : ((s[k].toNat : Int) != 0) = true := by rw [bne, hb1]; rfl
        have HN := Lib.hid (no_of s k hlt h0)
        clear h0
        go_wp2
        go_ret
        exact ⟨ret_bool HN.out.symm, rfl⟩
    · go_wp2
      go_ret
      exact ⟨ret_bool (end_of s k (by omega) HU.out).symm, rfl⟩

set_option maxRecDepth 100000 in
set_option maxHeartbeats 400000 in
theorem impl_any (s : ByteArray) (w : World) (hs : s.size ≤ maxLen) :
    Calls Tryz.prog 174 #[.string s] w fun e w' => e = .returned (.bool (zeroB s.data.toList)) ∧ Below w.heap.size w w' := by
  unfold maxLen at hs
  have HE := Lib.hid (empty_is s.data.toList)
  go_enter Tryz.func174, Tryz.ntmps174
  go_wp2_with fail
  refine (Tryz.strings_Trim_one s 0 (by decide) _ hs).mono ?_
  rintro e w1 ⟨rfl, hw⟩
  have HB := Lib.hid (show Below w.heap.size w w1 by rcases hw with rfl | rfl; exact Below.refl _ _; exact (Below.refl _ _).drew)
  clear hw
  generalize (⟨(Lib.trimB s.data.toList 0).toArray⟩ : ByteArray) = t at HE ⊢
  go_wp2_with fail
  go_ret
  exact ⟨ret_bool HE.out, HB.out⟩
end Go.Proofs.YthppbcnejapbiaaGreatDoor.IsZeroes

-- YthppbcnejapbiaaGreatDoorFsE
/- Contracts: the program's hasZerosElsewhere and IsFS. Conditions: as each theorem types them. -/
namespace Go.Proofs.YthppbcnejapbiaaGreatDoor.FsE
open Go.ChangeShapes Go.WideShapes Go.ChangeAt Go.RowKit
open Foot Bx
open InoV (I usedV hasB needV)
open FsV (F allB ownB beyond zB freeB elseB okF partsB tickB rootB allTo rangeTo)
open Dk (ret_bool)
open MpB (Is)
open FsB (Fit)
set_option linter.unusedVariables false

theorem zeroes_any (s : ByteArray) (w : World) (h : s.size ≤ maxLen) : Calls Tryz.prog 174 #[.string s] w fun e w' => e = .returned (.bool (zB s)) ∧ Below w.heap.size w w' := IsZeroes.impl_any s w h
theorem fit_of {f : F} (hp : partsB f = true) (ho : ownB f.inodes = true) {i : Nat} (hi : i < f.inodes.length) : Fit f (f.inodes.getD i InoV.zero) := by
  obtain ⟨_, _, h3, _, h5, h6⟩ := FsV.parts_of hp
  have hm := FsV.mem_getD (z := InoV.zero) hi
  have hn := InoV.ok_nums (h5 _ hm)
  have hbl := InoV.ok_blocks (h5 _ hm)
  generalize f.inodes.getD i InoV.zero = n at hm hn hbl
  refine ⟨h3, h6, hn.2.2.2.2.2.2.2.2.2.2.2.2.2.2, hn.2.2.2.2.2.2.2.2.2.2.1, hn.2.2.2.2.2.2.2.2.2.2.2.1, fun b hb => ?_⟩
  by_cases hb1 : b = -1
  · exact .inl hb1
  · right
    have hu : b ∈ usedV n.blocks := List.mem_filter.2 ⟨hb, by simpa using hb1⟩
    have hp2 : (n.uid, b) ∈ FsV.pairs f.inodes := List.mem_flatMap.2 ⟨n, hm, List.mem_map.2 ⟨b, hu, rfl⟩⟩
    have := FsV.owner_in ((FsV.go_mem ho).1 _ hp2) (by dsimp only; omega)
    dsimp only at this
    omega
theorem beyond_size (f : F) (n : I) (h : Fit f n) : (beyond f n).size ≤ maxLen := by
  unfold maxLen
  rcases Nat.eq_zero_or_pos n.blocks.length with h0 | hp
  · rw [FsB.beyond_none h0]; decide
  · obtain ⟨L, hL⟩ : ∃ L, n.blocks.length = L + 1 := ⟨n.blocks.length - 1, by omega⟩
    obtain ⟨X, hX, hX32, hL7⟩ := h.x hL
    by_cases hm : n.blocks.getD L 0 = -1
    · rw [FsB.beyond_hole hL hm]; decide
    · have hb := h.blk _ (show n.blocks.getD L 0 ∈ n.blocks from FsV.mem_getD (by omega))
      rw [FsB.beyond_at (k := (n.blocks.getD L 0).toNat) hL (by omega) hX, ByteArray.size_extract]
      omega
theorem else_no1 {f : F} {k : Nat} (hk : k < 56) (h : freeB f k = false) : elseB f = false := by rw [elseB, FsV.range_no hk h]; rfl
theorem else_no2 {f : F} {i : Nat} (hi : i < f.inodes.length) (h : zB (beyond f (f.inodes.getD i InoV.zero)) = false) : elseB f = false := by
  rw [elseB, FsV.all_no (p := fun n => zB (beyond f n)) (z := InoV.zero) hi h, Bool.and_false]

set_option maxRecDepth 100000 in
set_option maxHeartbeats 6400000 in
theorem else_impl (w : World) (v : Value) (f : F) (hc : FsF.cost f ≤ 1073741824) (hl : FsF.Lim f) (hp : partsB f = true) (ho : ownB f.inodes = true) (h : FsF.Holds w v f) :
    Calls Tryz.prog 135 #[v] w fun e w' => e = .returned (.bool (elseB f)) ∧ Below w.heap.size w w' := by
  have HFS := Lib.hid h
  obtain ⟨_, hI20, hD56, _, _, _⟩ := FsV.parts_of hp
  have HFIT := Lib.hid (fun i hi => fit_of (i := i) hp ho hi)
  have HBS := Lib.hid (fun i hi => beyond_size f _ (fit_of (i := i) hp ho hi))
  have HSA := Lib.hid (fun i (hi : i < f.data.length) => FsP.size_at hl hi)
  have HN1 := Lib.hid (fun k (hk : k < 56) h => else_no1 (f := f) hk h)
  have HN2 := Lib.hid (fun i hi h => else_no2 (f := f) (i := i) hi h)
  have HIU := Lib.hid (fun W v' (hv : IF.Holds W v' f.inodes) => FsU.inuse_any W v' f.inodes (Nat.le_trans (FsF.le_inodes f) hc) hl.inodes hv)
  obtain ⟨r0, r1, r2, rfl, g0, g1, g2⟩ := h
  have G1 := Lib.hid g1
  obtain ⟨qa, qc, rfl⟩ := QF.form g0
  obtain ⟨ia, ic, rfl, _, hI⟩ := IF.atL g1
  obtain ⟨da, dc, rfl, hD⟩ := g2
  have HI := Lib.hid hI
  have HD := Lib.hid (show ∀ i, i < f.data.length → ∃ b o, da = some ⟨b, o, none⟩ ∧ b < w.heap.size ∧ w.cell? ⟨b, o + i, none⟩ = some (.string (f.data.getD i ⟨#[]⟩)) from fun i hi => by
    obtain ⟨b, o, e, hlt, hcell⟩ := hD (by intro e; rw [e] at hi; simp at hi)
    exact ⟨b, o, e, hlt, hcell i hi⟩)
  have HL2 := Lib.hid hI20
  have HL3 := Lib.hid hD56
  rw [hI20] at HFS G1 ⊢
  rw [hD56] at HFS ⊢
  obtain ⟨T, hT⟩ : ∃ T, T = f.tick := ⟨_, rfl⟩
  obtain ⟨Q, hQ⟩ : ∃ Q, Q = f.quotas.length := ⟨_, rfl⟩
  rw [← hT, ← hQ] at HFS ⊢
  clear hT hQ g0 g1 hI hD hI20 hD56 hc hl hp ho
  have HB0 := Lib.hid ((Below.refl w.heap.size w).alloc (Nat.le_refl _) (.cells #[.int .i64 T, .slice qa Q qc, .slice ia 20 ic, .slice da 56 dc] 33))
  have HX0 := Lib.hid (new w #[.int .i64 T, .slice qa Q qc, .slice ia 20 ic, .slice da 56 dc] 33)
  go_enter Tryz.func135, Tryz.ntmps135
  go_wp2_with fail
  refine (HIU.out _ _ (IF.holds_below G1.out HB0.out)).mono ?_
  rintro e w1 ⟨N, rfl, his, hb⟩
  have HI1 := Lib.hid his
  have HB1 := Lib.hid (HB0.out.trans (hb.mono HB0.out.size))
  have HX1 := Lib.hid (HX0.out.all hb)
  have hsz0 := hb.size
  clear his hb HIU HB0 HX0
  rw [show (w.alloc (.cells #[.int .i64 T, .slice qa Q qc, .slice ia 20 ic, .slice da 56 dc] 33)).heap.size = w.heap.size + 1 from by simp] at HI1 ⊢
  have x3 := HX1.out.cell 3
  dsimp at x3
  go_wp2
  clear x3
  go_loopw [14] (fun iv wr => ∃ k : Nat, k ≤ 56 ∧ iv = .int .i64 k ∧ Bk wr w.heap.size #[.int .i64 T, .slice qa Q qc, .slice ia 20 ic, .slice da 56 dc] 33 ∧ Is wr (w.heap.size + 1) N (hasB (allB f.inodes)) ∧ Below w.heap.size w wr ∧ rangeTo (freeB f) k = true) (fun iv _ => 56 - (intOf iv).toNat)
  case atStart => exact ⟨0, Nat.zero_le _, rfl, HX1.out, HI1.out, HB1.out, rfl⟩
  case round =>
    obtain ⟨k, hk, rfl, hx, his, hbel, hr⟩ := hrel
    have HB := Lib.hid hbel
    have HX := Lib.hid hx
    have HS := Lib.hid his
    have HR := Lib.hid hr
    clear hx hbel hr his HX1 HI1 HB1
    by_cases hlt : k < 56
    · have hkl : k < f.data.length := by rw [HL3.out]; exact hlt
      obtain ⟨b, o, rfl, hb, c0⟩ := HD.out k hkl
      rw [← HB.out.cell (p := ⟨b, _, none⟩) hb] at c0
      have hcx := HSA.out k hkl
      have HNO := Lib.hid (HN1.out k hlt)
      have HSU := Lib.hid (FsV.rangeTo_succ (freeB f) k)
      have hfree : freeB f k = (hasB (allB f.inodes) k || zB (f.data.getD k ⟨#[]⟩)) := rfl
      have hlk := HS.out.look (x := (k : Int)) (by unfold Rg; omega)
      generalize f.data.getD k ⟨#[]⟩ = s at c0 hcx hfree
      generalize hasB (allB f.inodes) (k : Int) = A at hlk hfree
      have HFR := Lib.hid hfree
      have HCX := Lib.hid hcx
      clear hfree hcx hkl
      cases A
      · go_wp2_with fail
        refine (zeroes_any s _ HCX.out).mono ?_
        rintro e w2 ⟨rfl, hb2⟩
        have HB2 := Lib.hid (HB.out.trans (hb2.mono HB.out.size))
        have HX2 := Lib.hid (HX.out.all hb2)
        have HS2 := Lib.hid (HS.out.below hb2)
        clear hb2 hlk c0
        cases hz : zB s
        · have HF := Lib.hid (HNO.out (by rw [HFR.out, hz]; rfl))
          clear hz
          go_wp2
          go_ret
          exact ⟨ret_bool HF.out.symm, HB2.out⟩
        · have HN := Lib.hid (show rangeTo (freeB f) (k + 1) = true by rw [HSU.out, HR.out, HFR.out, hz]; rfl)
          clear hz
          go_wp2
          go_roundw
          case rel => exact ⟨k + 1, by omega, by go_num, HX2.out, HS2.out, HB2.out, HN.out⟩
          case measure => simp [intOf]; omega
      · have HN := Lib.hid (show rangeTo (freeB f) (k + 1) = true by rw [HSU.out, HR.out, HFR.out]; rfl)
        go_wp2
        go_roundw
        case rel => exact ⟨k + 1, by omega, by go_num, HX.out, HS.out, HB.out, HN.out⟩
        case measure => simp [intOf]; omega
    · obtain rfl : k = 56 := by omega
      rw [show ((56 : Nat) : Int) = 56 from rfl]
      have HRA := Lib.hid (show (List.range 56).all (freeB f) = true from HR.out)
      have x2 := HX.out.cell 2
      dsimp at x2
      go_wp2
      clear x2
      go_loopw [32] (fun iv wr => ∃ k : Nat, k ≤ 20 ∧ iv = .int .i64 k ∧ Bk wr w.heap.size #[.int .i64 T, .slice qa Q qc, .slice ia 20 ic, .slice da 56 dc] 33 ∧ Below w.heap.size w wr ∧ allTo (fun n => zB (beyond f n)) f.inodes k = true) (fun iv _ => 20 - (intOf iv).toNat)
      case atStart => exact ⟨0, Nat.zero_le _, rfl, HX.out, HB.out, FsV.allTo_zero _ _⟩
      case round =>
        obtain ⟨k, hk, rfl, hx, hbel, hr⟩ := hrel
        replace HB := Lib.hid hbel
        replace HX := Lib.hid hx
        replace HR := Lib.hid hr
        have hsz := hbel.size
        clear hx hbel hr HS
        by_cases hlt : k < 20
        · have hkl : k < f.inodes.length := by rw [HL2.out]; exact hlt
          obtain ⟨b, o, rfl, hb, r0, r1, r2, hC, hP⟩ := HI.out k hkl
          have HP := Lib.hid (IF.parts_holds (IF.parts_below hP HB.out))
          obtain ⟨p0, p1, p2⟩ := hP
          obtain ⟨a0, d0, rfl⟩ := NiF.form p0
          obtain ⟨a1, d1, rfl⟩ := AeF.form p1
          obtain ⟨a2, d2, rfl⟩ := AeF.form p2
          obtain ⟨c0, c1, c2, c3, c4, c5, c6, c7, c8, c9⟩ := hC.below hb HB.out
          have HSU := Lib.hid (FsV.allTo_succ (fun n => zB (beyond f n)) f.inodes IF.z0 k hkl)
          have HNO := Lib.hid (HN2.out k hkl)
          have HFI := Lib.hid (HFIT.out k hkl)
          have HSZ := Lib.hid (HBS.out k hkl)
          rw [show InoV.zero = IF.z0 from rfl] at HNO HFI HSZ
          clear hC p0 p1 p2 hkl
          generalize f.inodes.getD k IF.z0 = n at c0 c1 c2 c3 c4 c5 c6 c7 c8 c9 HNO HSU HFI HSZ HP
          have HW := Lib.hid ((Below.refl wr.heap.size wr).alloc (Nat.le_refl _) (.cells #[.int .i64 n.kind, .int .i64 n.mode, .int .i64 n.uid, .int .i64 n.gid, .int .i64 n.links, .int .i64 n.size, .int .i64 n.tick, .slice a0 n.blocks.length d0, .slice a1 n.acl.length d1, .slice a2 n.dflt.length d2] 89))
          have HN := Lib.hid (HB.out.trans (HW.out.mono hsz))
          have HXN := Lib.hid (HX.out.alloc (.cells #[.int .i64 n.kind, .int .i64 n.mode, .int .i64 n.uid, .int .i64 n.gid, .int .i64 n.links, .int .i64 n.size, .int .i64 n.tick, .slice a0 n.blocks.length d0, .slice a1 n.acl.length d1, .slice a2 n.dflt.length d2] 89))
          have HPN := Lib.hid (In.holds_below HP.out HW.out)
          have HFN := Lib.hid (FsF.holds_below HFS.out HN.out)
          obtain ⟨x0, x1, x2, x3⟩ := Bk.c4 HXN.out
          go_wp2_with fail
          refine (FsB.beyond_impl _ _ _ f n HFN.out HPN.out HFI.out).mono ?_
          rintro e w2 ⟨rfl, hb2⟩
          have HB2 := Lib.hid (HN.out.trans (hb2.mono HN.out.size))
          have HX2 := Lib.hid (HXN.out.all hb2)
          clear hb2 x0 x1 x2 x3 c0 c1 c2 c3 c4 c5 c6 c7 c8 c9
          generalize beyond f n = s at HSZ HNO HSU ⊢
          go_wp2_with fail
          refine (zeroes_any s _ HSZ.out).mono ?_
          rintro e w3 ⟨rfl, hb3⟩
          have HB3 := Lib.hid (HB2.out.trans (hb3.mono HB2.out.size))
          have HX3 := Lib.hid (HX2.out.all hb3)
          clear hb3
          cases hz : zB s
          · have HF := Lib.hid (HNO.out hz)
            clear hz
            go_wp2
            go_ret
            exact ⟨ret_bool HF.out.symm, HB3.out⟩
          · have HN4 := Lib.hid (show allTo (fun n => zB (beyond f n)) f.inodes (k + 1) = true by rw [HSU.out, HR.out, hz]; rfl)
            clear hz
            go_wp2
            go_roundw
            case rel => exact ⟨k + 1, by omega, by go_num, HX3.out, HB3.out, HN4.out⟩
            case measure => simp [intOf]; omega
        · obtain rfl : k = 20 := by omega
          have HF := Lib.hid (show elseB f = true by rw [elseB, HRA.out, ← FsV.allTo_end (fun n => zB (beyond f n)) f.inodes 20 HL2.out.symm, HR.out]; rfl)
          go_wp2
          go_ret
          exact ⟨ret_bool HF.out.symm, HB.out⟩

set_option maxRecDepth 100000 in
set_option maxHeartbeats 6400000 in
theorem is_impl (w : World) (v : Value) (f : F) (hc : FsF.cost f ≤ 1073741824) (hl : FsF.Lim f) (hv : InOk.Vars w) (h : FsF.Holds w v f) :
    Calls Tryz.prog 75 #[v] w fun e w' => e = .returned (.bool (okF f)) ∧ Below w.heap.size w w' := by
  have HFS := Lib.hid h
  have HHI := Lib.hid (show IF.cost f.inodes ≤ 1073741824 from Nat.le_trans (FsF.le_inodes f) hc)
  obtain ⟨r0, r1, r2, rfl, g0, g1, g2⟩ := h
  have G1 := Lib.hid g1
  obtain ⟨qa, qc, rfl⟩ := QF.form g0
  obtain ⟨ia, ic, rfl, _, hI⟩ := IF.atL g1
  obtain ⟨da, dc, rfl⟩ := SF.form g2
  have HI := Lib.hid hI
  have HV := Lib.hid hv
  have HLM := Lib.hid hl
  have HCC := Lib.hid hc
  clear g0 g1 g2 hI hv hl hc
  obtain ⟨T, hT⟩ : ∃ T, T = f.tick := ⟨_, rfl⟩
  obtain ⟨Q, hQ⟩ : ∃ Q, Q = f.quotas.length := ⟨_, rfl⟩
  obtain ⟨M, hM⟩ : ∃ M, M = f.inodes.length := ⟨_, rfl⟩
  obtain ⟨D, hD⟩ : ∃ D, D = f.data.length := ⟨_, rfl⟩
  have HTK := Lib.hid (show FsV.tickB f = (decide (0 ≤ T) && decide (T ≤ 1000000000)) from by rw [FsV.tickB, hT])
  rw [← hT, ← hQ, ← hM, ← hD] at HFS ⊢
  rw [← hM] at G1
  have HM := Lib.hid hM
  clear hT hQ hM hD
  have HB0 := Lib.hid ((Below.refl w.heap.size w).alloc (Nat.le_refl _) (.cells #[.int .i64 T, .slice qa Q qc, .slice ia M ic, .slice da D dc] 33))
  have HX0 := Lib.hid (new w #[.int .i64 T, .slice qa Q qc, .slice ia M ic, .slice da D dc] 33)
  by_cases h0 : T < 0
  · have HF := Lib.hid (show okF f = false by rw [okF, HTK.out, decide_eq_false (by omega)]; rfl)
    have q1 : decide (T < 0) = true := decide_eq_true h0
    clear h0
    go_enter Tryz.func75, Tryz.ntmps75
    go_wp2
    go_ret
    exact ⟨ret_bool HF.out.symm, HB0.out⟩
  · by_cases h1 : 1000000000 < T
    · have HF := Lib.hid (show okF f = false by rw [okF, HTK.out, decide_eq_false (show ¬ T ≤ 1000000000 by omega)]; simp)
      have q0 : decide (T < 0) = false := decide_eq_false h0
      have q1 : decide (1000000000 < T) = true := decide_eq_true h1
      clear h0 h1
      go_enter Tryz.func75, Tryz.ntmps75
      go_wp2
      go_ret
      exact ⟨ret_bool HF.out.symm, HB0.out⟩
    · have HT2 := Lib.hid (show FsV.tickB f = true by rw [HTK.out, decide_eq_true (show 0 ≤ T by omega), decide_eq_true (show T ≤ 1000000000 by omega)]; rfl)
      have q0 : decide (T < 0) = false := decide_eq_false h0
      have q1 : decide (1000000000 < T) = false := decide_eq_false h1
      clear h0 h1
      go_enter Tryz.func75, Tryz.ntmps75
      go_wp2_with fail
      refine (FsP.parts_impl _ _ f HCC.out HLM.out (HV.out.all HB0.out) (FsF.holds_below HFS.out HB0.out)).mono ?_
      rintro e w1 ⟨rfl, hb1⟩
      have HB1 := Lib.hid (HB0.out.trans (hb1.mono HB0.out.size))
      have HX1 := Lib.hid (HX0.out.all hb1)
      clear hb1
      cases hp : FsV.partsB f
      · have HF := Lib.hid (show okF f = false by rw [okF, hp]; simp)
        clear hp
        go_wp2
        go_ret
        exact ⟨ret_bool HF.out.symm, HB1.out⟩
      · have HP := Lib.hid hp
        have hM20 : M = 20 := by rw [HM.out]; exact (FsV.parts_of hp).2.1
        subst hM20
        clear hp
        obtain ⟨b, o, rfl, hb, r0, r1, r2, hC, hPt⟩ := HI.out 0 (by rw [← HM.out]; omega)
        have c0 := (hC.below hb HB1.out).1
        have HRB := Lib.hid (show FsV.rootB f = decide ((f.inodes.getD 0 IF.z0).kind = 2) from rfl)
        rw [Nat.zero_mul, Nat.add_zero] at c0
        clear hC hPt
        generalize (f.inodes.getD 0 IF.z0).kind = K at c0 HRB
        obtain ⟨x0, x1, x2, x3⟩ := Bk.c4 HX1.out
        by_cases hk : K = 2
        · have k1 : (K == 2) = true := by simpa using hk
          have k2 : (K != 2) = false := by simpa using hk
          have HR := Lib.hid (show FsV.rootB f = true by rw [HRB.out]; exact decide_eq_true hk)
          clear hk
          go_wp2_with fail
          refine (FsW.own_impl _ _ f.inodes HHI.out HLM.out.inodes (IF.holds_below G1.out HB1.out)).mono ?_
          rintro e w2 ⟨rfl, hb2⟩
          have HB2 := Lib.hid (HB1.out.trans (hb2.mono HB1.out.size))
          have HX2 := Lib.hid (HX1.out.all hb2)
          clear hb2 x0 x1 x2 x3 c0 k1 k2
          cases ho : FsV.ownB f.inodes
          · have HF := Lib.hid (show okF f = false by rw [okF, ho]; simp)
            clear ho
            go_wp2
            go_ret
            exact ⟨ret_bool HF.out.symm, HB2.out⟩
          · have HO := Lib.hid ho
            clear ho
            obtain ⟨x0, x1, x2, x3⟩ := Bk.c4 HX2.out
            go_wp2_with fail
            refine (else_impl _ _ f HCC.out HLM.out HP.out HO.out (FsF.holds_below HFS.out HB2.out)).mono ?_
            rintro e w3 ⟨rfl, hb3⟩
            have HB3 := Lib.hid (HB2.out.trans (hb3.mono HB2.out.size))
            clear hb3 x0 x1 x2 x3
            have HF := Lib.hid (show okF f = FsV.elseB f by rw [okF, HT2.out, HP.out, HR.out, HO.out]; rfl)
            go_wp2
            go_ret
            exact ⟨ret_bool HF.out.symm, HB3.out⟩
        · have k1 : (K == 2) = false := by simpa using hk
          have k2 : (K != 2) = true := by simpa using hk
          have HF := Lib.hid (show okF f = false by rw [okF, HRB.out, decide_eq_false hk]; simp)
          clear hk
          go_wp2
          go_ret
          exact ⟨ret_bool HF.out.symm, HB1.out⟩
end Go.Proofs.YthppbcnejapbiaaGreatDoor.FsE

-- YthppbcnejapbiaaGreatDoorApp
/- One append, onto a row of the call's own, of a slice that may be nil: what lies behind it. Conditions: as each theorem types them. -/
namespace Go.Proofs.YthppbcnejapbiaaGreatDoor.App
open Go.ChangeShapes Go.WideShapes Go.ChangeAt Go.RowKit
open Wr (Wt wcells wcells_length wcells_at d0)
set_option linter.unusedVariables false

/-- What is appended: nothing, off a nil slice; or the cells behind an address. -/
def SrcRow (w : World) (size : Nat) (x : Value) (m : Nat) (news : List Value) : Prop :=
  (m = 0 ∧ news = [] ∧ ∃ c, x = .slice none 0 c) ∨
  ∃ ad c, x = .slice (some ad) m c ∧ news.length = m * size ∧ (∀ j u, news[j]? = some u → w.cell? (ad.add j) = some u) ∧ ∀ u ∈ news, u.oneCell' = true
theorem SrcRow.below {w w' : World} {size : Nat} {x : Value} {m : Nat} {news : List Value} (h : SrcRow w size x m news) (hb : ∀ p : Addr, ∀ u, w.cell? p = some u → w'.cell? p = some u) : SrcRow w' size x m news := by
  rcases h with h | ⟨ad, c, rfl, hl, hn, h1⟩
  · exact .inl h
  · exact .inr ⟨ad, c, rfl, hl, fun j u hj => hb _ _ (hn j u hj), h1⟩

theorem run_append_nilsrc {P : Program} (w : World) (base : Nat) (t ty e : TypeId) (i : TypeInfo) (size : Nat) (ht : P.underlying t = some (.slice e)) (hi : P.info? e = some i) (hsize : i.size = size)
    (v : Value) (n : Nat) (xs : List Value) (hown : w.ownsRow base e size v n xs) (c : Nat) :
    (Builtin.append_ #[t, t] ty #[v, .slice none 0 c]).run P w = .ok v w := by
  rcases hown.2 with ⟨rfl, rfl⟩ | ⟨g, cap, cur, rfl, hbg, hg, hnc, hcm, hcs, htake⟩
  · simp [Builtin.append_, run_underlying ht, sizeOf, typeInfo, hi, Builtin.lenOf, Builtin.firstCells]
  · have := run_append_room_src (P := P) w t t ty e i ht hi g 0 n cap (.slice none 0 c) 0 [] (Src.ofNil w ht c) (by omega) (fun j hj => by simp at hj) (fun j hj => by simp at hj)
    simpa [World.setCells] using this

theorem wpList_append_src {P : Program} {w : World} {ops : Array Oper} {rest : List Oper} {o : Oper} {a : Act} {Q : Exit → Act → World → Prop} (hgd : o.guard = none) (s x : Operand) (t : TypeId)
    (ho : o.op = .call { callee := .builtin .append, args := #[s, x], argTypes := #[t, t] })
    (base : Nat) (e : TypeId) (i : TypeInfo) (z : Value) (size bytes : Nat) (ht : P.underlying t = some (.slice e)) (hi : P.info? e = some i) (hz : i.zero = some z)
    (hsize : i.size = size) (hby : i.bytes = bytes) (hzs : z.cells.size = size) (hsz : 0 < size)
    (v : Value) (n : Nat) (xs : List Value) (hs : a.eval s = v) (hown : w.ownsRow base e size v n xs)
    (m : Nat) (news : List Value) (hsrc : SrcRow w size (a.eval x) m news)
    (h63 : n + m ≤ maxLen) (hbytes : (n + m) * bytes ≤ 140737488355328) (hbase : base ≤ w.heap.size)
    (h : ∀ a' c' w', w'.ownsRow base e size (.slice a' (n + m) c') (n + m) (xs ++ news) → w.grownBy w' v.ownBlock → wpList P ops Q rest (a.put o.dst (.slice a' (n + m) c')) w') : wpList P ops Q (o :: rest) a w := by
  rcases hsrc with ⟨rfl, rfl, c, hx⟩ | ⟨ad, c, hx, hl, hnews, h1⟩
  · refine wpList_plain hgd fun K hK => ?_
    have hr := run_append_nilsrc (P := P) w base t o.type e i size ht hi hsize v n xs hown c
    obtain ⟨a', c', rfl⟩ := Dk.slice_of hown
    unfold Oper.wp execOp
    simp only [ho, resolve, invoke, builtin, Sem.run_bind, Sem.run_pure, Result.andThen_ok, List.map_toArray, List.map_cons, List.map_nil, hs, hx, hr]
    refine hK _ _ ?_
    have hh := h a' c' w (by simpa using hown) (World.grownBy.refl _ _)
    simpa using hh
  · refine wpList_append_own w hgd s x t ho base e i z size bytes ht hi hz hsize hby hzs hsz v n xs hs hown ad m c news hx hl hnews h1 h63 hbytes hbase fun v' w' h2 h3 h4 => ?_
    obtain ⟨a', c', rfl⟩ := Dk.slice_of h2
    exact h a' c' w' h2 h3
end Go.Proofs.YthppbcnejapbiaaGreatDoor.App

-- YthppbcnejapbiaaGreatDoorFsM
/- Facts on making a file system: the row of its inodes, the zero value, what a made one costs; appending within a region; the library's Clone of a slice of Quotas. Conditions: as each theorem types them. -/
namespace Go.Proofs.YthppbcnejapbiaaGreatDoor.FsM
open Go.ChangeShapes Go.WideShapes Go.ChangeAt Go.RowKit
open Foot Bx
open InoV (I)
open App (SrcRow wpList_append_src)
set_option linter.unusedVariables false

def zcells : List Value := [.int .i64 0, .int .i64 0, .int .i64 0, .int .i64 0, .int .i64 0, .int .i64 0, .int .i64 0, .slice none 0 0, .slice none 0 0, .slice none 0 0]
/-- The cells of twenty zero inodes, as 'make' lays them. -/
def zrow : List Value := (madeCells zcells.toArray 200).toList
/-- 'make([]Inode, 20)'. -/
theorem make_run (W : World) : (Instr.makeSlice 31 (.int .i64 20) (.int .i64 20)).run Tryz.prog W = .ok (.slice (some ⟨W.heap.size, 0, none⟩) 20 20) (W.alloc (.cells zrow.toArray 89)) := by
  obtain ⟨i0, hi, hz0, hz1, hz2⟩ := info_parts IF.info
  have := run_make (P := Tryz.prog) W 31 89 i0 _ Tryz.underlying31 hi hz0 .i64 .i64 20 20 (by decide) (by decide) (by rw [hz2]; decide) (by decide)
  rw [hz1] at this
  exact this
end Go.Proofs.YthppbcnejapbiaaGreatDoor.FsM

-- YthppbcnejapbiaaGreatDoorFsX
/- Plain facts on changing a file system: one inode and the data change; when it stays valid. No condition of its own. -/
namespace Go.Proofs.YthppbcnejapbiaaGreatDoor.FsX
open InoV (I okI usedV hasB)
open FsV
set_option linter.unusedVariables false

theorem go_of {p : List (Int × Int)} : ∀ {s : List Int}, (∀ x ∈ p, ownerV x.2 = x.1) → (p.map Prod.snd).Nodup → (∀ x ∈ p, x.2 ∉ s) → goB s p = true := by
  induction p with
  | nil => intro s _ _ _; rfl
  | cons a r ih =>
    intro s h1 h2 h3
    rw [List.map_cons, List.nodup_cons] at h2
    have hs : hasB s a.2 = false := by
      rw [Bool.eq_false_iff, ne_eq, has_mem]
      exact h3 a (by simp)
    rw [goB, oneB, hs, h1 a (by simp)]
    rw [ih (fun x hx => h1 x (by simp [hx])) h2.2 (fun x hx => ?_)]
    · simp
    · rw [List.mem_append, not_or]
      refine ⟨h3 x (by simp [hx]), fun hh => h2.1 ?_⟩
      rw [List.mem_singleton] at hh
      rw [← hh]
      exact List.mem_map_of_mem hx
/-- Each block's owner is its inode's, and none stands twice. -/
theorem own_iff (ns : List I) : ownB ns = true ↔ (∀ n ∈ ns, ∀ b ∈ usedV n.blocks, ownerV b = n.uid) ∧ (allB ns).Nodup := by
  constructor
  · intro h
    obtain ⟨h1, h2, _⟩ := go_mem h
    rw [pairs_snd] at h2
    refine ⟨fun n hn b hb => ?_, h2⟩
    exact h1 (n.uid, b) (List.mem_flatMap.2 ⟨n, hn, List.mem_map_of_mem hb⟩)
  · rintro ⟨h1, h2⟩
    refine go_of (fun x hx => ?_) (by rw [pairs_snd]; exact h2) (fun x _ hh => by cases hh)
    obtain ⟨n, hn, hx⟩ := List.mem_flatMap.1 hx
    obtain ⟨b, hb, rfl⟩ := List.mem_map.1 hx
    exact h1 n hn b hb
theorem mem_all {ns : List I} {b : Int} : b ∈ allB ns ↔ ∃ n ∈ ns, b ∈ usedV n.blocks := List.mem_flatMap
theorem ns_split (ns : List I) (i : Nat) (hi : i < ns.length) : ns = ns.take i ++ (ns.getD i InoV.zero :: ns.drop (i + 1)) := by
  rw [List.getD_eq_getElem?_getD, List.getElem?_eq_getElem hi]; simp
theorem set_split (ns : List I) (i : Nat) (n : I) (hi : i < ns.length) : ns.set i n = ns.take i ++ (n :: ns.drop (i + 1)) := by
  rw [List.set_eq_take_append_cons_drop, if_pos hi]
theorem all_split (ns : List I) (i : Nat) (hi : i < ns.length) : allB ns = allB (ns.take i) ++ (usedV (ns.getD i InoV.zero).blocks ++ allB (ns.drop (i + 1))) := by
  conv => lhs; rw [ns_split ns i hi]
  rw [all_app]; rfl
theorem all_set (ns : List I) (i : Nat) (n : I) (hi : i < ns.length) : allB (ns.set i n) = allB (ns.take i) ++ (usedV n.blocks ++ allB (ns.drop (i + 1))) := by
  rw [set_split ns i n hi, all_app]; rfl
/-- Another inode's block is not this one's. -/
theorem apart {ns : List I} {i : Nat} (h : (allB ns).Nodup) (hi : i < ns.length) {b : Int} (hb : b ∈ usedV (ns.getD i InoV.zero).blocks) : b ∉ allB (ns.take i) ∧ b ∉ allB (ns.drop (i + 1)) := by
  rw [all_split ns i hi, List.nodup_append] at h
  obtain ⟨_, h2, h3⟩ := h
  rw [List.nodup_append] at h2
  exact ⟨fun hh => h3 b hh b (List.mem_append.2 (.inl hb)) rfl, fun hh => h2.2.2 b hb b hh rfl⟩
theorem own_set {ns : List I} {i : Nat} {n : I} (h : ownB ns = true) (hi : i < ns.length) (h1 : ∀ b ∈ usedV n.blocks, ownerV b = n.uid) (h2 : (usedV n.blocks).Nodup) (h3 : ∀ b ∈ usedV n.blocks, b ∈ usedV (ns.getD i InoV.zero).blocks ∨ b ∉ allB ns) : ownB (ns.set i n) = true := by
  rw [own_iff] at h ⊢
  obtain ⟨g1, g2⟩ := h
  refine ⟨fun m hm b hb => ?_, ?_⟩
  · rcases List.mem_or_eq_of_mem_set hm with hm | rfl
    · exact g1 m hm b hb
    · exact h1 b hb
  · have hap : ∀ b ∈ usedV n.blocks, b ∉ allB (ns.take i) ∧ b ∉ allB (ns.drop (i + 1)) := fun b hb => by
      rcases h3 b hb with h | h
      · exact apart g2 hi h
      · rw [all_split ns i hi] at h
        simp only [List.mem_append, not_or] at h
        exact ⟨h.1, h.2.2⟩
    rw [all_split ns i hi, List.nodup_append, List.nodup_append] at g2
    obtain ⟨a1, ⟨_, a3, _⟩, a5⟩ := g2
    rw [all_set ns i n hi, List.nodup_append, List.nodup_append]
    refine ⟨a1, ⟨h2, a3, fun x hx y hy e => (hap x hx).2 (e ▸ hy)⟩, fun x hx y hy e => ?_⟩
    rcases List.mem_append.1 hy with hy | hy
    · exact (hap y hy).1 (e ▸ hx)
    · exact a5 x hx y (by simp [hy]) e
theorem else_iff (f : F) : elseB f = true ↔ (∀ b : Nat, b < 56 → ((b : Int) ∈ allB f.inodes ∨ zB (f.data.getD b e0) = true)) ∧ ∀ n ∈ f.inodes, zB (beyond f n) = true := by
  rw [elseB, Bool.and_eq_true, List.all_eq_true, List.all_eq_true]
  refine and_congr ⟨fun h b hb => ?_, fun h b hb => ?_⟩ Iff.rfl
  · have := h b (List.mem_range.2 hb)
    rwa [freeB, Bool.or_eq_true, has_mem] at this
  · rw [freeB, Bool.or_eq_true, has_mem]
    exact h b (List.mem_range.1 hb)
end Go.Proofs.YthppbcnejapbiaaGreatDoor.FsX

-- YthppbcnejapbiaaGreatDoorFsY
/- Plain facts on the contents of files: what is read, written, resized, freed, moved to another owner, as functions on a file system; the blocks that an allocation chooses. No condition of its own. -/
namespace Go.Proofs.YthppbcnejapbiaaGreatDoor.FsY
open InoV (I okI usedV hasB needV)
open FsV
set_option linter.unusedVariables false

def ino (f : F) (i : Nat) : I := f.inodes.getD i InoV.zero
def Z (n : Nat) : List UInt8 := List.replicate n 0
def dat (d : List ByteArray) (b : Int) : ByteArray := d.getD b.toNat e0
/-- A block's bytes, zeros for a hole. -/
def one (d : List ByteArray) (b : Int) : List UInt8 := if b = -1 then Z 32 else (dat d b).data.toList
def cont (d : List ByteArray) (bs : List Int) : List UInt8 := bs.flatMap (one d)
/-- The content with zeros behind it. -/
def content (d : List ByteArray) (bs : List Int) : List UInt8 := cont d bs ++ Z (256 - 32 * bs.length)
def hasObjB (f : F) (i : Int) : Bool := decide (0 ≤ i) && decide (i ≤ 19) && okF f && !decide ((ino f i.toNat).kind = 0)
/-- Another block for each chosen one: s are the numbers in use. -/
def renew (a : Nat) (q : Int) (ch : Int → Bool) : (Int → Bool) → List Int → List Int × Int
  | _, [] => ([], 0)
  | s, b :: r =>
    if ch b then
      if (pick (fun k => s (k : Int)) a 14 q).2 = 0 then
        ((pick (fun k => s (k : Int)) a 14 q).1 :: (renew a q ch (fun z => decide (z = (pick (fun k => s (k : Int)) a 14 q).1) || s z) r).1, (renew a q ch (fun z => decide (z = (pick (fun k => s (k : Int)) a 14 q).1) || s z) r).2)
      else (b :: r, (pick (fun k => s (k : Int)) a 14 q).2)
    else (b :: (renew a q ch s r).1, (renew a q ch s r).2)
def holes (bs : List Int) (m : Nat) : List Int := (bs ++ List.replicate (m - bs.length) (-1)).take m
def sized (n : I) (size : Int) : I := { n with size := size, blocks := holes n.blocks (needV size).toNat }
def splice (c : List UInt8) (a : Nat) (s : List UInt8) : List UInt8 := c.take a ++ s ++ c.drop (a + s.length)
def quo (f : F) (u : Nat) : Int := (f.quotas.getD u (0, 0)).2
def isHole (b : Int) : Bool := decide (b = -1)
def isBlock (b : Int) : Bool := !decide (b = -1)

/-- The inode that is written to, before its holes are filled. -/
def wrI (n : I) (a l : Nat) : I := sized n (max (((a + l : Nat) : Int)) n.size)
def lastB (a l : Nat) : Nat := (needV ((a + l : Nat) : Int)).toNat
def wrR (f : F) (n : I) (a l : Nat) : List Int × Int := renew (14 * n.uid.toNat) (quo f n.uid.toNat) isHole (hasB (allB f.inodes)) (((wrI n a l).blocks.take (lastB a l)).drop (a / 32))
def wrB (f : F) (n : I) (a l : Nat) : List Int := (wrI n a l).blocks.take (a / 32) ++ (wrR f n a l).1 ++ (wrI n a l).blocks.drop (lastB a l)
/-! Lists. -/
theorem Z_len (n : Nat) : (Z n).length = n := by simp [Z]
theorem ext_getD {l m : List ByteArray} (hl : l.length = m.length) (h : ∀ j, j < l.length → l.getD j e0 = m.getD j e0) : l = m := by
  refine List.ext_getElem hl fun j h1 h2 => ?_
  have := h j h1
  rw [List.getD_eq_getElem?_getD, List.getD_eq_getElem?_getD, List.getElem?_eq_getElem h1, List.getElem?_eq_getElem h2] at this
  exact this
/-- In range: a hole or a block. -/
def Inr (bs : List Int) : Prop := ∀ b ∈ bs, b = -1 ∨ (0 ≤ b ∧ b ≤ 55)
theorem getD_at {bs : List Int} {i : Nat} (h : i < bs.length) : bs.getD i 0 = bs[i] := by rw [List.getD_eq_getElem?_getD, List.getElem?_eq_getElem h]; rfl
/-! Bytes. -/
theorem one_len {d : List ByteArray} {b : Int} (hs : ∀ s ∈ d, s.size = 32) (hd : d.length = 56) (hb : b = -1 ∨ (0 ≤ b ∧ b ≤ 55)) : (one d b).length = 32 := by
  unfold one
  split
  · simp [Z]
  · have := hs (dat d b) (mem_getD (by omega))
    simpa using this
theorem cont_at (d : List ByteArray) (bs : List Int) (hs : ∀ s ∈ d, s.size = 32) (hd : d.length = 56) : Inr bs → (cont d bs).length = 32 * bs.length ∧ ∀ t (h : t < bs.length) j, j < 32 → (cont d bs)[32 * t + j]? = (one d bs[t])[j]? := by
  induction bs with
  | nil => intro _; exact ⟨rfl, fun t h => by simp at h⟩
  | cons b r ih =>
    intro hb
    have h1 := one_len hs hd (hb b (by simp))
    obtain ⟨i1, i2⟩ := ih fun x hx => hb x (by simp [hx])
    have e : cont d (b :: r) = one d b ++ cont d r := by simp [cont]
    refine ⟨by rw [e, List.length_append, h1, i1, List.length_cons]; omega, fun t h j hj => ?_⟩
    rw [e]
    cases t with
    | zero => rw [List.getElem?_append_left (by omega), Nat.mul_zero, Nat.zero_add]; rfl
    | succ t =>
      rw [List.getElem?_append_right (by omega), h1, show 32 * (t + 1) + j - 32 = 32 * t + j from by omega]
      exact i2 t (by simpa using h) j hj
theorem content_len {d : List ByteArray} {bs : List Int} (hs : ∀ s ∈ d, s.size = 32) (hd : d.length = 56) (hb : Inr bs) (h8 : bs.length ≤ 8) : (content d bs).length = 256 := by
  rw [content, List.length_append, (cont_at d bs hs hd hb).1, Z_len]; omega
end Go.Proofs.YthppbcnejapbiaaGreatDoor.FsY

-- YthppbcnejapbiaaGreatDoorFoB
/- Facts on a file system in a variable's box whose rows the call owns, and on an inode in such a box: what they read, and what a store into them leaves. Conditions: as each theorem types them. -/
namespace Go.Proofs.YthppbcnejapbiaaGreatDoor.FoB
open Go.ChangeShapes Go.WideShapes Go.ChangeAt Go.RowKit
open Foot Bx
open InoV (I)
open FsV (F e0)
open FsY (ino)
set_option linter.unusedVariables false

theorem chg_set (w : World) (p : Addr) (u : Value) : Chg w (w.setCell p u) [p.block] :=
  ⟨rfl, rfl, rfl, by simp [World.setCell], fun k _ hk => Below.heap_setCell w p u k (fun e => hk (by simp [e]))⟩
theorem Bk.chg {w w' : World} {b : Nat} {cs : Array Value} {t : TypeId} {S : List Nat} (h : Bk w b cs t) (hc : Chg w w' S) (hb : b ∉ S) : Bk w' b cs t := (hc.block b h.lt hb).trans h
theorem chg1 {w w' : World} {b : Nat} (h : Chg w w' [b]) (i : Nat) (u : Value) : Chg w (w'.setCell ⟨b, i, none⟩ u) [b] := h.trans (chg_set w' ⟨b, i, none⟩ u)
theorem Chg.from {w w' : World} {b B : Nat} (h : Chg w w' [b]) (hB : B ≤ w.heap.size) (hb : B ≤ b) : Below B w w' := h.below hB (fun k hk => by rw [List.mem_singleton] at hk; omega)
/-- A file system in box b: its rows are the call's own. -/
structure FO (w : World) (lo b : Nat) (f : F) (q : Value) (gi ci gd cd : Nat) (S : List Nat) : Prop where
  box : Bk w b #[.int .i64 f.tick, q, .slice (some ⟨gi, 0, none⟩) 20 ci, .slice (some ⟨gd, 0, none⟩) 56 cd] 33
  out : b ∉ S
  own : FsF.Own w lo (.agg #[.int .i64 f.tick, q, .slice (some ⟨gi, 0, none⟩) 20 ci, .slice (some ⟨gd, 0, none⟩) 56 cd]) f S
  il : f.inodes.length = 20
  dl : f.data.length = 56
section
variable {w w' : World} {lo b gi ci gd cd : Nat} {f : F} {q : Value} {S T : List Nat}
theorem FO.parts (h : FO w lo b f q gi ci gd cd S) : ∃ S0 S1, S = S0 ++ S1 ++ [gd] ∧ S.Nodup ∧ QF.Own w lo q f.quotas S0 ∧ IF.Own w lo (.slice (some ⟨gi, 0, none⟩) 20 ci) f.inodes S1 ∧ SF.Own w lo (.slice (some ⟨gd, 0, none⟩) 56 cd) f.data [gd] := by
  obtain ⟨r0, r1, r2, S0, S1, S2, hv, rfl, hnd, h0, h1, h2⟩ := h.own
  simp only [Value.agg.injEq, Array.mk.injEq, List.cons.injEq, true_and, and_true] at hv
  obtain ⟨rfl, rfl, rfl⟩ := hv
  have : S2 = [gd] := h2.2
  subst this
  exact ⟨S0, S1, rfl, hnd, h0, h1, h2⟩
theorem FO.holds (h : FO w lo b f q gi ci gd cd S) : FsF.Holds w (.agg #[.int .i64 f.tick, q, .slice (some ⟨gi, 0, none⟩) 20 ci, .slice (some ⟨gd, 0, none⟩) 56 cd]) f := FsF.own_holds h.own
theorem FO.chg (h : FO w lo b f q gi ci gd cd S) (hc : Chg w w' T) (hb : b ∉ T) (ha : Apart S T) : FO w' lo b f q gi ci gd cd S := ⟨Bk.chg h.box hc hb, h.out, FsF.own_chg h.own hc ha, h.il, h.dl⟩
theorem FO.below (h : FO w lo b f q gi ci gd cd S) (hb : Below w.heap.size w w') : FO w' lo b f q gi ci gd cd S := ⟨h.box.all hb, h.out, FsF.own_below h.own hb, h.il, h.dl⟩
theorem FO.cells (h : FO w lo b f q gi ci gd cd S) : w.cell? ⟨b, 0, none⟩ = some (.int .i64 f.tick) ∧ w.cell? ⟨b, 1, none⟩ = some q ∧ w.cell? ⟨b, 2, none⟩ = some (.slice (some ⟨gi, 0, none⟩) 20 ci) ∧ w.cell? ⟨b, 3, none⟩ = some (.slice (some ⟨gd, 0, none⟩) 56 cd) := Bk.c4 h.box
end
end Go.Proofs.YthppbcnejapbiaaGreatDoor.FoB

-- YthppbcnejapbiaaGreatDoorCoN
/- Contracts: the program's hasObject, blockIn, isHole, isBlock; facts on a row of bytes that the call owns: a block of it, what a copy of a string and a clearing leave. Conditions: as each theorem types them. -/
namespace Go.Proofs.YthppbcnejapbiaaGreatDoor.CoN
open Go.ChangeShapes Go.WideShapes Go.ChangeAt Go.RowKit
open Foot Bx
open InoV (I)
open FsV (F okF e0)
open FsY
open Dk (ret_bool)
open RowG (cellsB cellsB_length)
set_option linter.unusedVariables false

theorem cellsB_splice (c : List UInt8) (a : Nat) (s : ByteArray) : (((cellsB c).toArray).toList.take a ++ Lib.byteCells s.data.toList ++ ((cellsB c).toArray).toList.drop (a + s.size)).toArray = (cellsB (splice c a s.data.toList)).toArray := by
  have h : s.data.toList.length = s.size := by simp
  rw [splice, RowG.cellsB_append, RowG.cellsB_append, h]
  simp [cellsB, List.map_take, List.map_drop, Lib.byteCells]
/-- The run of 'copy(content[a:..], s)'. -/
theorem copy_run (w : World) (g a n cap : Nat) (s : ByteArray) (c : List UInt8) (ty : TypeId) (hg : Bk w g (cellsB c).toArray 5) (hle : s.size ≤ n) (hfit : a + s.size ≤ c.length) :
    (Builtin.copy_ #[118, 9] ty #[.slice (some ⟨g, a, none⟩) n cap, .string s]).run Tryz.prog w = .ok (goInt s.size) (w.setRow g (cellsB (splice c a s.data.toList)).toArray) := by
  obtain ⟨i0, hi, hz0, hz1, hz2⟩ := info_parts RowG.byteInfo
  rw [Lib.run_copy_row_string w 118 9 ty 5 g a n cap s (cellsB c).toArray 5 Tryz.underlying118 (by rw [hi]; simp [hz1]) hg hle (by simpa [cellsB_length] using hfit), cellsB_splice]
theorem row_set {w : World} {g : Nat} {cs cs' : Array Value} {t : TypeId} (h : Bk w g cs t) : Bk (w.setRow g cs') g cs' t := setRow_heap w g cs cs' t (0, 0) h
theorem row_chg (w : World) (g : Nat) (cs : Array Value) : Chg w (w.setRow g cs) [g] := ⟨rfl, rfl, rfl, by simp [World.setRow], fun k _ hk => setRow_other w g k cs (fun e => hk (by simp [e]))⟩
theorem byte_at {w : World} {g : Nat} {c : List UInt8} (h : Bk w g (cellsB c).toArray 5) (j : Nat) (hj : j < c.length) : w.cell? ⟨g, j, none⟩ = some (.int .u8 (c[j].toNat : Int)) := by
  rw [h.cell]; simp [cellsB, List.getElem?_eq_getElem hj]
/-- 'string(content[a:a+n])'. -/
theorem back_run {w : World} {g a n cap : Nat} {c : List UInt8} (h : Bk w g (cellsB c).toArray 5) (hn : a + n ≤ c.length) :
    Sem.run Tryz.prog (convert 118 9 (.slice (some ⟨g, a, none⟩) n cap)) w = .ok (.string ⟨((c.drop a).take n).toArray⟩) w := by
  have hl : ((c.drop a).take n).length = n := by rw [List.length_take, List.length_drop]; omega
  have := run_convert_bytes_back w 118 9 5 ⟨g, a, none⟩ cap ((c.drop a).take n) Tryz.underlying118 Tryz.underlying5 Tryz.underlying9 (fun j hj => by
    rw [hl] at hj
    rw [Addr.add_lit, byte_at h (a + j) (by omega)]
    simp [List.getElem_take, List.getElem_drop])
  rwa [hl] at this
theorem zero_row : (cellsB (Z 256)).toArray = madeCells #[.int .u8 0] 256 := by kernel_rfl
theorem make_run (W : World) : (Instr.makeSlice 118 (.int .i64 256) (.int .i64 256)).run Tryz.prog W = .ok (.slice (some ⟨W.heap.size, 0, none⟩) 256 256) (W.alloc (.cells (cellsB (Z 256)).toArray 5)) := by
  obtain ⟨i0, hi, hz0, hz1, hz2⟩ := info_parts RowG.byteInfo
  have := run_make (P := Tryz.prog) W 118 5 i0 _ Tryz.underlying118 hi hz0 .i64 .i64 256 256 (by decide) (by decide) (by rw [hz2]; decide) (by decide)
  rw [hz1] at this
  rw [zero_row]
  exact this

set_option maxRecDepth 100000 in
set_option maxHeartbeats 1600000 in
theorem block_impl (b : Int) (w : World) : Calls Tryz.prog 144 #[.int .i64 b] w fun e w' => e = .returned (.bool (isBlock b)) ∧ w = w' := by
  go_enter Tryz.func144, Tryz.ntmps144
  go_wp2
  go_ret
  exact ⟨ret_bool (by unfold isBlock; rfl), rfl⟩
set_option maxRecDepth 100000 in
set_option maxHeartbeats 1600000 in
theorem blockIn_impl (g k : Nat) (hk : k < 8) (w : World) : Calls Tryz.prog 145 #[.slice (some ⟨g, 0, none⟩) 256 256, .int .i64 k] w fun e w' => e = .returned (.slice (some ⟨g, k * 32, none⟩) 32 32) ∧ w = w' := by
  have hk0 : (0 : Int) ≤ k := by omega
  have hk1 : (k : Int) < 8 := by omega
  go_enter Tryz.func145, Tryz.ntmps145
  go_wp2
  go_ret
  refine ⟨?_, rfl⟩
  show Ending.returned (Value.slice (some ⟨g, k * 32, none⟩) ((k + 1) * 32 - k * 32) ((k + 1) * 32 - k * 32)) = _
  rw [show (k + 1) * 32 - k * 32 = 32 from by omega]

set_option maxRecDepth 100000 in
set_option maxHeartbeats 1600000 in
theorem has_impl (w : World) (v : Value) (f : F) (i : Int) (hc : FsF.cost f ≤ 1073741824) (hl : FsF.Lim f) (hv : InOk.Vars w) (h : FsF.Holds w v f) :
    Calls Tryz.prog 80 #[v, .int .i64 i] w fun e w' => e = .returned (.bool (hasObjB f i)) ∧ Below w.heap.size w w' := by
  have HFS := Lib.hid h
  have HCC := Lib.hid hc
  have HLM := Lib.hid hl
  have HV := Lib.hid hv
  obtain ⟨r0, r1, r2, rfl, g0, g1, g2⟩ := h
  have HI1 := Lib.hid g1
  obtain ⟨qa, qc, rfl⟩ := QF.form g0
  obtain ⟨ia, ic, rfl⟩ := IF.form g1
  obtain ⟨da, dc, rfl⟩ := SF.form g2
  clear g0 g1 g2 hc hl hv
  obtain ⟨T, hT⟩ : ∃ T, T = f.tick := ⟨_, rfl⟩
  obtain ⟨Q, hQ⟩ : ∃ Q, Q = f.quotas.length := ⟨_, rfl⟩
  obtain ⟨M, hM⟩ : ∃ M, M = f.inodes.length := ⟨_, rfl⟩
  obtain ⟨D, hD⟩ : ∃ D, D = f.data.length := ⟨_, rfl⟩
  rw [← hT, ← hQ, ← hM, ← hD] at HFS ⊢
  rw [← hM] at HI1
  have HM := Lib.hid hM
  clear hT hQ hM hD
  have HB0 := Lib.hid ((Below.refl w.heap.size w).alloc (Nat.le_refl _) (.cells #[.int .i64 T, .slice qa Q qc, .slice ia M ic, .slice da D dc] 33))
  have HX0 := Lib.hid (new w #[.int .i64 T, .slice qa Q qc, .slice ia M ic, .slice da D dc] 33)
  by_cases hA : 0 ≤ i
  · by_cases hB : i ≤ 19
    · obtain ⟨k, rfl⟩ : ∃ k : Nat, i = k := ⟨i.toNat, by omega⟩
      have hk : k < 20 := by omega
      have q0 : decide ((0 : Int) ≤ k) = true := decide_eq_true hA
      have q1 : decide ((k : Int) < 20) = true := decide_eq_true (by omega)
      have HVV := Lib.hid (show hasObjB f k = (okF f && !decide ((ino f k).kind = 0)) from by unfold hasObjB; rw [decide_eq_true hA, decide_eq_true hB]; rfl)
      clear hA hB
      obtain ⟨C, hC⟩ : ∃ C, C = okF f := ⟨_, rfl⟩
      have HIS := Lib.hid (fun W v (hw : InOk.Vars W) (hF : FsF.Holds W v f) => show Calls Tryz.prog 75 #[v] W fun e w' => e = .returned (.bool C) ∧ Below W.heap.size W w' from by rw [hC]; exact FsE.is_impl W v f HCC.out HLM.out hw hF)
      have HCE := Lib.hid hC
      cases C
      · have HF := Lib.hid (show hasObjB f k = false from by rw [HVV.out, ← hC]; rfl)
        clear hC
        go_enter Tryz.func80, Tryz.ntmps80
        go_wp2_with fail
        refine (HIS.out _ _ (HV.out.all HB0.out) (FsF.holds_below HFS.out HB0.out)).mono ?_
        rintro e w1 ⟨rfl, hb⟩
        have HB1 := Lib.hid (HB0.out.trans (hb.mono HB0.out.size))
        clear hb
        go_wp2
        go_ret
        exact ⟨ret_bool HF.out.symm, HB1.out⟩
      · have hM20 : M = 20 := by rw [HM.out]; exact (FsV.parts_of (FsV.ok_parts hC.symm).2.1).2.1
        clear hC
        subst hM20
        obtain ⟨a9, c9, e9, l9, hat⟩ := HI1.out
        rw [Value.slice.injEq] at e9
        obtain ⟨rfl, e8, rfl⟩ := e9
        clear e8 l9
        obtain ⟨b, o, rfl, hb, r0, r1, r2, hCl, hP⟩ := hat k (by rw [← HM.out]; exact hk)
        have hc0 := hCl.1
        rw [show f.inodes.getD k IF.z0 = ino f k from rfl] at hc0
        have HHB := Lib.hid hb
        clear hat hCl hP hb
        obtain ⟨K, hK⟩ : ∃ K, K = (ino f k).kind := ⟨_, rfl⟩
        rw [← hK] at hc0 HVV
        clear hK
        have HC0 := Lib.hid hc0
        clear hc0
        go_enter Tryz.func80, Tryz.ntmps80
        go_wp2_with fail
        refine (HIS.out _ _ (HV.out.all HB0.out) (FsF.holds_below HFS.out HB0.out)).mono ?_
        rintro e w1 ⟨rfl, hb⟩
        have HB1 := Lib.hid (HB0.out.trans (hb.mono HB0.out.size))
        have HX1 := Lib.hid (HX0.out.all hb)
        clear hb
        obtain ⟨x0, x1, x2, x3⟩ := Bk.c4 HX1.out
        have c0 := HB1.out.cell (p := ⟨b, o + k * 10, none⟩) HHB.out
        rw [HC0.out] at c0
        by_cases hz : K = 0
        · have HF := Lib.hid (show hasObjB f k = false from by rw [HVV.out, ← HCE.out, decide_eq_true hz]; rfl)
          subst hz
          go_wp2
          go_ret
          exact ⟨ret_bool HF.out.symm, HB1.out⟩
        · have HF := Lib.hid (show hasObjB f k = true from by rw [HVV.out, ← HCE.out, decide_eq_false hz]; rfl)
          have z1 : (K != 0) = true := by simpa using hz
          have z2 : (K == 0) = false := by simpa using hz
          clear hz
          go_wp2
          go_ret
          exact ⟨ret_bool HF.out.symm, HB1.out⟩
    · have HF := Lib.hid (show hasObjB f i = false from by unfold hasObjB; rw [decide_eq_false hB, Bool.and_false]; rfl)
      have q0 : decide ((0 : Int) ≤ i) = true := decide_eq_true hA
      have q1 : decide (i < 20) = false := decide_eq_false (by omega)
      clear hA hB
      go_enter Tryz.func80, Tryz.ntmps80
      go_wp2
      go_ret
      exact ⟨ret_bool HF.out.symm, HB0.out⟩
  · have HF := Lib.hid (show hasObjB f i = false from by unfold hasObjB; rw [decide_eq_false hA]; rfl)
    have q0 : decide ((0 : Int) ≤ i) = false := decide_eq_false hA
    clear hA
    go_enter Tryz.func80, Tryz.ntmps80
    go_wp2
    go_ret
    exact ⟨ret_bool HF.out.symm, HB0.out⟩
end Go.Proofs.YthppbcnejapbiaaGreatDoor.CoN

-- YthppbcnejapbiaaGreatDoorFsZ
/- Plain facts on allocating and on the model's way of writing, resizing, freeing and moving contents: the same as the functions of the text before. Conditions: as each theorem types them. -/
namespace Go.Proofs.YthppbcnejapbiaaGreatDoor.FsZ
open InoV (I okI usedV hasB needV)
open FsV FsX FsY
set_option linter.unusedVariables false

/-- The numbers in use besides x. -/
def more (s : Int → Bool) (x : Int) : Int → Bool := fun z => decide (z = x) || s z
/-! The model's writing. -/
def putB (blk : ByteArray) (o : Nat) (s : List UInt8) : ByteArray := ⟨(splice blk.data.toList o s).toArray⟩
/-- A valid file system's inode. -/
structure GoodF (f : F) (i : Nat) : Prop where
  ok : okF f = true
  lt : i < 20
theorem GoodF.mem {f : F} {i : Nat} (h : GoodF f i) : ino f i ∈ f.inodes := mem_getD (by have := (parts_of (ok_parts h.ok).2.1).2.1; have := h.lt; omega)
theorem GoodF.inode {f : F} {i : Nat} (h : GoodF f i) : okI (ino f i) = true := (parts_of (ok_parts h.ok).2.1).2.2.2.2.1 _ h.mem
theorem GoodF.dlen {f : F} {i : Nat} (h : GoodF f i) : f.data.length = 56 := (parts_of (ok_parts h.ok).2.1).2.2.1
theorem GoodF.dsz {f : F} {i : Nat} (h : GoodF f i) : ∀ s ∈ f.data, s.size = 32 := (parts_of (ok_parts h.ok).2.1).2.2.2.2.2
theorem GoodF.used {f : F} {i : Nat} (h : GoodF f i) {b : Int} (hb : b ∈ usedV (ino f i).blocks) : b ∈ allB f.inodes := mem_all.2 ⟨_, h.mem, hb⟩
theorem GoodF.inr {f : F} {i : Nat} (h : GoodF f i) : Inr (ino f i).blocks := fun b hb => by
  by_cases e : b = -1
  · exact .inl e
  · exact .inr ((own_facts h.ok).2 b (h.used (List.mem_filter.2 ⟨hb, by simpa using e⟩)))
theorem GoodF.own {f : F} {i : Nat} (h : GoodF f i) {b : Int} (hb : b ∈ usedV (ino f i).blocks) : ownerV b = (ino f i).uid := ((own_iff _).1 (ok_parts h.ok).2.2.2.1).1 _ h.mem b hb
theorem z32_of {s : ByteArray} (h : s.size = 32) (hz : zB s = true) : s = z32 := by
  apply ByteArray.ext
  apply Array.toList_inj.1
  show s.data.toList = List.replicate 32 0
  unfold zB at hz
  rw [List.all_eq_true] at hz
  refine List.eq_replicate_iff.2 ⟨by simpa using h, fun b hb => by simpa using hz b hb⟩
/-- What nobody has is zeros. -/
theorem GoodF.free {f : F} {i : Nat} (h : GoodF f i) {j : Nat} (hj : j < 56) (hb : (j : Int) ∉ allB f.inodes) : f.data.getD j e0 = z32 := by
  have := ((else_iff f).1 (ok_parts h.ok).2.2.2.2).1 j hj
  rcases this with h1 | h1
  · exact absurd h1 hb
  · exact z32_of (h.dsz _ (mem_getD (by rw [h.dlen]; exact hj))) h1
theorem GoodF.uid {f : F} {i : Nat} (h : GoodF f i) : 0 ≤ (ino f i).uid ∧ (ino f i).uid ≤ 3 := uid_in (ok_parts h.ok).2.1 h.mem
theorem GoodF.size {f : F} {i : Nat} (h : GoodF f i) : 0 ≤ (ino f i).size ∧ (ino f i).size ≤ 256 ∧ ((ino f i).blocks.length : Int) = needV (ino f i).size ∧ (ino f i).blocks.length ≤ 8 := by
  have h1 := InoV.ok_nums h.inode
  have h2 := (InoV.ok_blocks h.inode).2
  omega
theorem getD_m {bs : List Int} {t : Nat} : bs.getD t (-1) = if h : t < bs.length then bs[t] else -1 := by
  rw [List.getD_eq_getElem?_getD]
  split
  · rw [List.getElem?_eq_getElem (by assumption)]; rfl
  · rw [List.getElem?_eq_none (by omega)]; rfl
end Go.Proofs.YthppbcnejapbiaaGreatDoor.FsZ

-- YthppbcnejapbiaaGreatDoorFsZw
/- Plain facts: the model's way of writing gives the same data as the program's. Conditions: as each theorem types them. -/
namespace Go.Proofs.YthppbcnejapbiaaGreatDoor.FsZw
open InoV (I okI usedV hasB needV)
open FsV FsX FsY FsZ
set_option linter.unusedVariables false

/-- The blocks of what is written, one by one. -/
structure WrOk (f : F) (n : I) (a l : Nat) : Prop where
  len : (wrB f n a l).length = (wrI n a l).blocks.length
  need : ((wrI n a l).blocks.length : Int) = needV (max (((a + l : Nat) : Int)) n.size)
  at_ : ∀ t (h : t < (wrB f n a l).length), ((wrB f n a l)[t] = n.blocks.getD t (-1) ∧ (n.blocks.getD t (-1) ≠ -1 ∨ ¬ (a / 32 ≤ t ∧ t < lastB a l))) ∨ (n.blocks.getD t (-1) = -1 ∧ a / 32 ≤ t ∧ t < lastB a l ∧ ∃ k, k < 14 ∧ (wrB f n a l)[t] = ((14 * n.uid.toNat + k : Nat) : Int) ∧ hasB (allB f.inodes) ((14 * n.uid.toNat + k : Nat) : Int) = false)
  new : ∀ t t' (h : t < (wrB f n a l).length) (h' : t' < (wrB f n a l).length), t < t' → n.blocks.getD t (-1) = -1 → n.blocks.getD t' (-1) = -1 → (wrB f n a l)[t] ≠ -1 → (wrB f n a l)[t] ≠ (wrB f n a l)[t']
theorem getD_hit {bs : List Int} {t : Nat} (h : bs.getD t (-1) ≠ -1) : ∃ h' : t < bs.length, bs[t] = bs.getD t (-1) := by
  rw [getD_m] at h ⊢
  split at h
  · exact ⟨(by assumption), by rw [dif_pos (by assumption)]⟩
  · exact absurd rfl h
theorem used_at {bs : List Int} {t : Nat} (h : bs.getD t (-1) ≠ -1) : bs.getD t (-1) ∈ usedV bs := by
  obtain ⟨h', e⟩ := getD_hit h
  rw [usedV, List.mem_filter, ← e]
  exact ⟨List.getElem_mem h', by rw [e]; simpa using h⟩
theorem WrOk.inr {f : F} {i a l : Nat} (w : WrOk f (ino f i) a l) (g : GoodF f i) : Inr (wrB f (ino f i) a l) := fun b hb => by
  obtain ⟨t, ht, rfl⟩ := List.mem_iff_getElem.1 hb
  have hu := g.uid
  rcases w.at_ t ht with ⟨e, _⟩ | ⟨_, _, _, k, hk, e, _⟩
  · rw [e]
    by_cases h : (ino f i).blocks.getD t (-1) = -1
    · exact .inl h
    · exact .inr ((own_facts g.ok).2 _ (g.used (used_at h)))
  · rw [e]; omega
/-- The bytes that a block of what is written had before. -/
theorem WrOk.old {f : F} {i a l : Nat} (w : WrOk f (ino f i) a l) (g : GoodF f i) {t j : Nat} (ht : t < (wrB f (ino f i) a l).length) (e : (wrB f (ino f i) a l)[t] = (j : Int)) : j < 56 ∧ (f.data.getD j e0).data.toList = one f.data ((ino f i).blocks.getD t (-1)) ∧ (f.data.getD j e0).size = 32 := by
  have hj : j < 56 := by
    have := w.inr g _ (List.getElem_mem ht)
    rw [e] at this; omega
  refine ⟨hj, ?_, g.dsz _ (mem_getD (by rw [g.dlen]; exact hj))⟩
  rcases w.at_ t ht with ⟨e1, _⟩ | ⟨c, _, _, k, hk, e1, hf⟩
  · rw [← e1, e, one, if_neg (by omega)]; rfl
  · rw [c, one, if_pos rfl]
    have : (j : Int) ∉ allB f.inodes := fun hh => by
      rw [← e, e1, ← has_mem, hf] at hh; cases hh
    rw [g.free hj this]; rfl
end Go.Proofs.YthppbcnejapbiaaGreatDoor.FsZw

-- YthppbcnejapbiaaGreatDoorPadTo
/- Contracts: for every string of at most 2^20 bytes and every int, the program's PadTo and the model's return the string with the zero bytes that it wants behind it. Conditions: the string's length; the int is a 64-bit one. -/
namespace Go.Proofs.YthppbcnejapbiaaGreatDoor.PadTo
open Go.ChangeShapes Go.WideShapes Go.ChangeAt Go.RowKit
open RowG
set_option linter.unusedVariables false

theorem ret_str {a b : ByteArray} (h : a = b) : Ending.returned (.string a) = .returned (.string b) := by rw [h]
/-- s with k zero bytes behind it. -/
def zend (s : ByteArray) (k : Nat) : List UInt8 := s.data.toList ++ List.replicate k 0
theorem zend_zero (s : ByteArray) : zend s 0 = s.data.toList := by simp [zend]
theorem zend_succ (s : ByteArray) (k : Nat) : zend s (k + 1) = zend s k ++ [0] := by simp [zend, List.replicate_succ']
def padB (s : ByteArray) (n : Int) : ByteArray := if 100000 < n then ⟨#[]⟩ else ⟨(zend s (n.toNat - s.size)).toArray⟩
theorem padB_big (s : ByteArray) (n : Int) (h : 100000 < n) : padB s n = ⟨#[]⟩ := by rw [padB, if_pos h]
theorem padB_at (s : ByteArray) (n : Int) (k : Nat) (h : ¬ 100000 < n) (hk : k = n.toNat - s.size) : padB s n = ⟨(zend s k).toArray⟩ := by rw [padB, if_neg h, hk]
theorem padB_id (s : ByteArray) (n : Int) (h : ¬ 100000 < n) (hk : n ≤ s.size) : padB s n = s := by
  rw [padB_at s n 0 h (by omega), zend_zero]
theorem own_step {w' : World} {base : Nat} {E : TypeId} {v : Value} {s : ByteArray} {k : Nat} (h : OwnG w' base E v (s.size + k + 1) (cellsB (zend s k) ++ [.int .u8 0])) : OwnG w' base E v (s.size + (k + 1)) (cellsB (zend s (k + 1))) := by
  rw [zend_succ, cellsB_append]
  exact h

set_option maxRecDepth 100000 in
set_option maxHeartbeats 400000 in
theorem spec_any (s : ByteArray) (n : Int) (w : World) (hs : s.size ≤ 1048576) :
    Calls Tryz.prog 149 #[.string s, .int .i64 n] w fun e w' => e = .returned (.string (padB s n)) ∧ Below w.heap.size w w' := by
  by_cases hn : 100000 < n
  · rw [padB_big s n hn]
    go_enter Tryz.func149, Tryz.ntmps149
    go_wp2
    go_ret
    exact ⟨rfl, Below.refl _ _⟩
  · obtain ⟨i0, hi, hz0, hz1, hz2⟩ := info_parts byteInfo
    have hkc := Lib.run_convert_string_bytes (P := Tryz.prog) w 9 118 5 s Tryz.underlying9 Tryz.underlying118 Tryz.underlying5
    have hby := bytes_own w 5 s (by unfold maxLen; omega)
    go_enter Tryz.func149, Tryz.ntmps149
    go_wp2_with fail
    generalize Lib.bytesWorld w 5 s = w1 at hby ⊢
    obtain ⟨hown, hb⟩ := hby
    have HOWN := Lib.hid hown
    have HB := Lib.hid hb
    clear hown hb hkc
    go_loopw [5] (fun v wr => ∃ k : Nat, k ≤ n.toNat - s.size ∧ OwnG wr w.heap.size 5 v (s.size + k) (cellsB (zend s k)) ∧ Below w.heap.size w wr) (fun v _ => n.toNat - (match v with | .slice _ l _ => l | _ => 0))
    case atStart => exact ⟨0, by omega, by rw [zend_zero]; exact HOWN.out, HB.out⟩
    case round =>
      clear HOWN HB
      obtain ⟨k, hk, hown, hb⟩ := hrel
      obtain ⟨g, cap, rfl, hg, hlt⟩ := hown.slice
      have HOWN := Lib.hid hown
      have HB := Lib.hid hb
      have hsz := hb.size
      clear hown hb
      by_cases hlt : k < n.toNat - s.size
      · have h1 : ((s.size + k : Nat) : Int) < n := by omega
        go_wp2_with (first | (at_builtin; refine wpList_append_one _ rfl _ _ 118 rfl w.heap.size 5 i0 (.int .u8 0) 1 Tryz.underlying118 hi hz0 hz1 hz2 rfl _ _ _ rfl (HOWN.out.alloc _) ⟨wr.heap.size, 0, none⟩ 1 (.int .u8 0) rfl ?c1 ?c2 ?c3 ?c4 ?c5 ?_))
        case c1 => exact cell_one_new _ _ _
        case c2 => simp [Value.oneCell']
        case c3 => unfold maxLen; omega
        case c4 => omega
        case c5 => simp; omega
        intro v' w1 hown1 hg1
        have HOWN1 := Lib.hid (own_step hown1)
        have HB1 := Lib.hid ((HB.out.alloc hsz _).grown hg1 (by simp; omega) (fun k hk => (HOWN.out.lt k hk).1))
        obtain ⟨g', cap', rfl, _, _⟩ := hown1.slice
        clear hown1 hg1
        go_wp2_with fail
        go_roundw
        case rel => exact ⟨k + 1, by omega, HOWN1.out, HB1.out⟩
        case measure => simp only []; omega
      · obtain rfl : k = n.toNat - s.size := by omega
        have hbk := back HOWN.out
        have h1 : n ≤ ((s.size + (n.toNat - s.size) : Nat) : Int) := by omega
        go_wp2_with fail
        go_ret
        exact ⟨ret_str (padB_at s n _ (by omega) rfl).symm, HB.out⟩
end Go.Proofs.YthppbcnejapbiaaGreatDoor.PadTo

-- YthppbcnejapbiaaGreatDoorFsZr
/- Plain facts: the model's ways of resizing, freeing and moving give the same data as the program's. Conditions: as each theorem types them. -/
namespace Go.Proofs.YthppbcnejapbiaaGreatDoor.FsZr
open InoV (I okI usedV hasB needV)
open FsV FsX FsY FsZ FsZw
set_option linter.unusedVariables false

/-! Moving. -/
end Go.Proofs.YthppbcnejapbiaaGreatDoor.FsZr

-- YthppbcnejapbiaaGreatDoorCoC
/- Contracts and plain facts that a law of this seat leans on. Conditions: as each theorem types them. -/
namespace Go.Proofs.YthppbcnejapbiaaGreatDoor.CoC
open Go.ChangeShapes Go.WideShapes Go.ChangeAt Go.RowKit
open Foot Bx
open InoV (I)
open FsV (F okF e0)
open FsY FsZ
open FoB CoN
open Dk (ret_bool)
open RowG (cellsB cellsB_length)
set_option linter.unusedVariables false

theorem step_copy_own {P : Program} {ops : Array Oper} {o : Oper} {a : Act} {w : World} {K : Act → World → Prop} {Q : Exit → Act → World → Prop} {E : Prop}
    (hg : o.guard = none) (d x : Operand) (dT sT : TypeId) (hop : o.op = Op.call { callee := Callee.builtin Builtin.copy, args := #[d, x], argTypes := #[dT, sT] })
    (v u : Value) (hd : a.eval d = v) (hx : a.eval x = u) {v' : Value} {w' : World} (hr : (Builtin.copy_ #[dT, sT] o.type #[v, u]).run P w = .ok v' w') (hK : K (a.put o.dst v') w') :
    if Region.wanted o (yielded ops a.tmps) = true then Oper.wp P o a w K Q else E := by
  have hw : Region.wanted o (yielded ops a.tmps) = true := by simp [Region.wanted, hg]
  rw [if_pos hw]
  unfold Oper.wp
  simp [execOp, hop, resolve, invoke, builtin, hd, hx, hr, Result.andThen]
  exact hK
/-- The content, told up to block j. -/
def upTo (d : List ByteArray) (bs : List Int) (j : Nat) : List UInt8 := cont d (bs.take j) ++ Z (256 - 32 * j)
theorem upTo_zero (d : List ByteArray) (bs : List Int) : upTo d bs 0 = Z 256 := by simp [upTo, cont]
theorem upTo_end {d : List ByteArray} {bs : List Int} {j : Nat} (h : j = bs.length) : upTo d bs j = content d bs := by rw [upTo, h, List.take_length, content]
theorem Z_split {a b c : Nat} (h : a = b + c) : Z a = Z b ++ Z c := by rw [Z, Z, Z, h, List.replicate_append_replicate]
theorem cont_take {d : List ByteArray} {bs : List Int} {j : Nat} (h : j < bs.length) : cont d (bs.take (j + 1)) = cont d (bs.take j) ++ one d (bs.getD j 0) := by
  rw [List.take_succ_eq_append_getElem h, cont, List.flatMap_append, getD_at h]; simp [cont]
structure Ok8 (d : List ByteArray) (bs : List Int) : Prop where
  sz : ∀ s ∈ d, s.size = 32
  len : d.length = 56
  inr : Inr bs
  eight : bs.length ≤ 8
theorem Ok8.tk {d : List ByteArray} {bs : List Int} (h : Ok8 d bs) (j : Nat) (hj : j ≤ bs.length) : (cont d (bs.take j)).length = 32 * j := by
  rw [(cont_at d (bs.take j) h.sz h.len (fun b hb => h.inr b (List.mem_of_mem_take hb))).1, List.length_take]; omega
theorem Ok8.up {d : List ByteArray} {bs : List Int} (h : Ok8 d bs) (j : Nat) (hj : j ≤ bs.length) : (upTo d bs j).length = 256 := by
  have := h.eight
  rw [upTo, List.length_append, h.tk j hj, Z_len]; omega
theorem upTo_hole {d : List ByteArray} {bs : List Int} (h : Ok8 d bs) {j : Nat} (hj : j < bs.length) (hb : bs.getD j 0 = -1) : upTo d bs (j + 1) = upTo d bs j := by
  have := h.eight
  rw [upTo, upTo, cont_take hj, one, if_pos hb, List.append_assoc, ← Z_split (show 256 - 32 * j = 32 + (256 - 32 * (j + 1)) by omega)]
theorem upTo_block {d : List ByteArray} {bs : List Int} (h : Ok8 d bs) {j : Nat} (hj : j < bs.length) (hb : bs.getD j 0 ≠ -1) : splice (upTo d bs j) (j * 32) (dat d (bs.getD j 0)).data.toList = upTo d bs (j + 1) := by
  have h8 := h.eight
  have ht := h.tk j (Nat.le_of_lt hj)
  have hi := h.inr _ (FsV.mem_getD (z := 0) hj)
  have hs : (dat d (bs.getD j 0)).data.toList.length = 32 := by
    have := h.sz (dat d (bs.getD j 0)) (FsV.mem_getD (by rw [h.len]; omega))
    simpa using this
  rw [splice, hs, upTo, List.take_append_of_le_length (by omega), List.take_of_length_le (by omega), List.drop_append, List.drop_eq_nil_of_le (by omega), List.nil_append, upTo, cont_take hj, one, if_neg hb]
  congr 1
  rw [Z, List.drop_replicate, Z]
  congr 1
  omega
theorem ok8_of {f : F} {i : Nat} (g : GoodF f i) : Ok8 f.data (ino f i).blocks := ⟨g.dsz, g.dlen, g.inr, g.size.2.2.2⟩

set_option maxRecDepth 100000 in
set_option maxHeartbeats 6400000 in
theorem content_impl (w : World) (v : Value) (f : F) (i : Nat) (hi : i < 20) (hok : okF f = true) (h : FsF.Holds w v f) :
    Calls Tryz.prog 96 #[v, .int .i64 i] w fun e w' => e = .returned (.slice (some ⟨w.heap.size + 1, 0, none⟩) 256 256) ∧ Bk w' (w.heap.size + 1) (cellsB (content f.data (ino f i).blocks)).toArray 5 ∧ Below w.heap.size w w' := by
  have HG := Lib.hid (show GoodF f i from ⟨hok, hi⟩)
  have H8 := Lib.hid (ok8_of HG.out)
  obtain ⟨r0, r1, r2, rfl, g0, g1, g2⟩ := h
  have hM20 : f.inodes.length = 20 := (FsV.parts_of (FsV.ok_parts hok).2.1).2.1
  have hD56 : f.data.length = 56 := (FsV.parts_of (FsV.ok_parts hok).2.1).2.2.1
  obtain ⟨qa, qc, rfl⟩ := QF.form g0
  obtain ⟨ia, ic, rfl, l9, hat⟩ := g1
  obtain ⟨da, dc, rfl, hD⟩ := g2
  obtain ⟨bi, oi, rfl, hbi, r0, r1, r2, hCl, hP⟩ := hat i (by omega)
  have hc7 := hCl.2.2.2.2.2.2.2.1
  rw [show f.inodes.getD i IF.z0 = ino f i from rfl] at hP
  obtain ⟨a0, d0, rfl, _, hBL⟩ := hP.1
  obtain ⟨bd, od, rfl, hbd, hDat⟩ := hD (by intro e; rw [e] at hD56; simp at hD56)
  have HDat := Lib.hid hDat
  have HBL := Lib.hid hBL
  obtain ⟨T, hT⟩ : ∃ T, T = f.tick := ⟨_, rfl⟩
  obtain ⟨Q, hQ⟩ : ∃ Q, Q = f.quotas.length := ⟨_, rfl⟩
  rw [hM20, hD56, ← hT, ← hQ]
  clear g0 hat hD hCl hP hDat hBL l9 hM20 hD56 hok hT hQ
  obtain ⟨bs, hbs⟩ : ∃ bs, bs = (ino f i).blocks := ⟨_, rfl⟩
  rw [← hbs] at H8 HBL hc7 ⊢
  have HBS := Lib.hid hbs
  clear hbs
  obtain ⟨L, hL⟩ : ∃ L, L = bs.length := ⟨_, rfl⟩
  rw [← hL] at hc7 HBL
  have hL8 : L ≤ 8 := by rw [hL]; exact H8.out.eight
  have HL := Lib.hid hL
  have HC7 := Lib.hid hc7
  have HHI := Lib.hid hbi
  have HHD := Lib.hid hbd
  clear hL hc7 hbi hbd
  have HMK : ∀ W : World, (Instr.makeSlice 118 (.int .i64 256) (.int .i64 256)).run Tryz.prog W = .ok (.slice (some ⟨W.heap.size, 0, none⟩) 256 256) (W.alloc (.cells (cellsB (Z 256)).toArray 5)) := make_run
  obtain ⟨C0, hC0⟩ : ∃ C, C = (cellsB (Z 256)).toArray := ⟨_, rfl⟩
  rw [← hC0] at HMK
  have HC0 := Lib.hid hC0
  clear hC0
  have HB0 := Lib.hid (((Below.refl w.heap.size w).alloc (Nat.le_refl _) (.cells #[.int .i64 T, .slice qa Q qc, .slice (some ⟨bi, oi, none⟩) 20 ic, .slice (some ⟨bd, od, none⟩) 56 dc] 33)).alloc (by simp) (.cells C0 5))
  have HX0 := Lib.hid ((new w #[.int .i64 T, .slice qa Q qc, .slice (some ⟨bi, oi, none⟩) 20 ic, .slice (some ⟨bd, od, none⟩) 56 dc] 33).alloc (.cells C0 5))
  have HY0 := Lib.hid (new_at (w.alloc (.cells #[.int .i64 T, .slice qa Q qc, .slice (some ⟨bi, oi, none⟩) 20 ic, .slice (some ⟨bd, od, none⟩) 56 dc] 33)) C0 5 (w.heap.size + 1) (by simp))
  have hi0 : (0 : Int) ≤ i := by omega
  have hi1 : (i : Int) < 20 := by omega
  have c7 := HB0.out.cell (p := ⟨bi, oi + i * 10 + 7, none⟩) HHI.out
  rw [HC7.out] at c7
  go_enter Tryz.func96, Tryz.ntmps96
  go_wp2
  clear c7 HMK
  generalize (w.alloc (.cells #[.int .i64 T, .slice qa Q qc, .slice (some ⟨bi, oi, none⟩) 20 ic, .slice (some ⟨bd, od, none⟩) 56 dc] 33)).alloc (.cells C0 5) = w0 at *
  go_loopw [16] (fun jv wr => ∃ j : Nat, j ≤ L ∧ jv = .int .i64 j ∧ Bk wr (w.heap.size + 1) (cellsB (upTo f.data bs j)).toArray 5 ∧ Bk wr w.heap.size #[.int .i64 T, .slice qa Q qc, .slice (some ⟨bi, oi, none⟩) 20 ic, .slice (some ⟨bd, od, none⟩) 56 dc] 33 ∧ Below w.heap.size w wr) (fun jv _ => L - (intOf jv).toNat)
  case atStart => exact ⟨0, Nat.zero_le _, rfl, by rw [upTo_zero, ← HC0.out]; exact HY0.out, HX0.out, HB0.out⟩
  case round =>
    obtain ⟨j, hj, rfl, hy, hx, hb⟩ := hrel
    have HY := Lib.hid hy
    have HX := Lib.hid hx
    have HB := Lib.hid hb
    have hsz := hb.size
    clear hy hx hb HB0 HX0 HY0
    by_cases hlt : j < L
    · have hjl : j < bs.length := by rw [← HL.out]; exact hlt
      obtain ⟨bb, ob, rfl, hbb, hcb⟩ := HBL.out j hlt
      have cb := HB.out.cell (p := ⟨bb, ob + j, none⟩) hbb
      rw [hcb] at cb
      have hir := H8.out.inr _ (FsV.mem_getD (z := 0) hjl)
      have HHO := Lib.hid (fun h => upTo_hole H8.out hjl h)
      have HBO := Lib.hid (fun h => upTo_block H8.out hjl h)
      have HUL := Lib.hid (H8.out.up j (Nat.le_of_lt hjl))
      have hj8 : j < 8 := by omega
      clear hcb hbb
      generalize bs.getD j 0 = b at cb hir HHO HBO
      by_cases hm : b = -1
      · subst hm
        have HN := Lib.hid (HHO.out rfl)
        go_wp2_with fail
        refine (block_impl (-1) _).mono ?_
        rintro e w1 ⟨rfl, rfl⟩
        rw [show isBlock (-1) = false from rfl]
        go_wp2
        go_roundw
        case rel => exact ⟨j + 1, by omega, by go_num, by rw [HN.out]; exact HY.out, HX.out, HB.out⟩
        case measure => simp [intOf]; omega
      · obtain ⟨k, rfl⟩ : ∃ k : Nat, b = k := ⟨b.toNat, by omega⟩
        have hk : k < 56 := by omega
        have HN := Lib.hid (HBO.out hm)
        have hcd := HDat.out k (by rw [HG.out.dlen]; exact hk)
        have hsz32 : (f.data.getD k e0).size = 32 := HG.out.dsz _ (FsV.mem_getD (by rw [HG.out.dlen]; exact hk))
        have cd := HB.out.cell (p := ⟨bd, od + k, none⟩) HHD.out
        rw [hcd] at cd
        rw [show (⟨#[]⟩ : ByteArray) = e0 from rfl] at cd
        rw [show dat f.data ((k : Nat) : Int) = f.data.getD k e0 from rfl] at HN
        have HSZ := Lib.hid hsz32
        have hib : isBlock ((k : Nat) : Int) = true := by unfold isBlock; simp
        have HIB := Lib.hid hib
        clear hcd hsz32 hm hir HHO HBO hib
        generalize f.data.getD k e0 = s at cd HN HSZ
        obtain ⟨x0, x1, x2, x3⟩ := Bk.c4 HX.out
        have hk0 : (0 : Int) ≤ k := by omega
        have hk1 : (k : Int) < 56 := by omega
        go_wp2_with fail
        refine (block_impl ((k : Nat) : Int) _).mono ?_
        rintro e w1 ⟨rfl, rfl⟩
        rw [HIB.out]
        go_wp2
        go_region_law (first
          | (go_simp; go_at_call 145; ((with_reducible refine (blockIn_impl (w.heap.size + 1) j hj8 _).mono ?_)); rintro e w5 ⟨rfl, rfl⟩)
          | (refine step_copy_own rfl (.tmp 25) (.tmp 30) 118 9 rfl _ _ rfl rfl (copy_run _ (w.heap.size + 1) (j * 32) 32 32 s (upTo f.data bs j) _ (Bk.drew HY.out) (by rw [HSZ.out]; exact Nat.le_refl _) (by rw [HSZ.out, HUL.out]; omega)) ?_))
        all_goals
          rw [HN.out]
          have hY9 := row_set (Bk.drew HY.out) (cs' := (cellsB (upTo f.data bs (j + 1))).toArray)
          have hC9 := row_chg wr.drew (w.heap.size + 1) (cellsB (upTo f.data bs (j + 1))).toArray
          have hX9 := FoB.Bk.chg (Bk.drew HX.out) hC9 (by simp)
          have hB9 := HB.out.drew.trans (FoB.Chg.from hC9 hsz (Nat.le_succ _))
          generalize wr.drew.setRow (w.heap.size + 1) (cellsB (upTo f.data bs (j + 1))).toArray = w9 at hY9 hX9 hB9 ⊢
          have HZ := Lib.hid (And.intro hY9 (And.intro hX9 hB9))
          clear hY9 hX9 hB9 hC9 cd cb x0 x1 x2 x3
          go_wp2
          go_roundw
          case rel => exact ⟨j + 1, by omega, by go_num, HZ.out⟩
          case measure => simp [intOf]; omega
    · obtain rfl : j = L := by omega
      go_wp2
      go_ret
      exact ⟨rfl, by rw [← upTo_end HL.out]; exact HY.out, HB.out⟩

end Go.Proofs.YthppbcnejapbiaaGreatDoor.CoC

-- YthppbcnejapbiaaGreatDoorFsK
/- Contract: the model's l08Used: which blocks are in use, and whether they are used properly. Conditions: as the theorem types them. -/
namespace Go.Proofs.YthppbcnejapbiaaGreatDoor.FsK
open Go.ChangeShapes Go.WideShapes Go.ChangeAt Go.RowKit
open Foot Bx
open InoV (I usedV hasB)
open FsV (F allB pre goB ownB oneB ownerV)
open Dk (ret_bool)
set_option linter.unusedVariables false

/-- Which of the 56 blocks are on a list. -/
def bl (l : List Int) : List Value := (List.range 56).map fun (b : Nat) => .bool (hasB l b)
theorem bl_length (l : List Int) : (bl l).length = 56 := by simp [bl]
theorem bl_at (l : List Int) (k : Nat) (h : k < 56) : (bl l)[k]? = some (.bool (hasB l k)) := by
  simp [bl, List.getElem?_map, List.getElem?_range h]
theorem bl_set (l : List Int) (k : Nat) (h : k < 56) : (bl l).set k (.bool true) = bl (l ++ [(k : Int)]) := by
  refine List.ext_getElem? fun j => ?_
  by_cases hj : j < 56
  · rw [List.getElem?_set, bl_at (l ++ [(k : Int)]) j hj, bl_length, FsV.has_snoc]
    by_cases hkj : k = j
    · subst hkj; simp [h]
    · have : ¬ (k : Int) = (j : Int) := by omega
      rw [if_neg hkj, bl_at l j hj]; simp [this]
  · rw [List.getElem?_eq_none (by rw [List.length_set, bl_length]; omega), List.getElem?_eq_none (by rw [bl_length]; omega)]
theorem bl_nil : bl [] = List.replicate 56 (.bool false) := by
  refine List.ext_getElem? fun j => ?_
  by_cases hj : j < 56
  · rw [bl_at [] j hj, List.getElem?_replicate, if_pos hj]; rfl
  · rw [List.getElem?_eq_none (by rw [bl_length]; omega), List.getElem?_eq_none (by simp; omega)]
/-- How many of the first j elements are no holes. -/
def jj (l : List Int) (j : Nat) : Nat := (usedV (l.take j)).length
theorem used_split (l : List Int) (j : Nat) : usedV l = usedV (l.take j) ++ usedV (l.drop j) := by
  rw [usedV, usedV, usedV, ← List.filter_append, List.take_append_drop]
theorem jj_zero (l : List Int) : jj l 0 = 0 := by simp [jj, usedV]
theorem jj_end (l : List Int) (j : Nat) (h : j = l.length) : jj l j = (usedV l).length := by rw [jj, h, List.take_length]
theorem jj_hole {l : List Int} {j : Nat} (h : j < l.length) (hb : l.getD j 0 = -1) : jj l (j + 1) = jj l j := by
  rw [jj, jj, FsV.take_snoc l 0 j h, hb]; simp [usedV]
theorem jj_block {l : List Int} {j : Nat} (h : j < l.length) (hb : l.getD j 0 ≠ -1) : jj l (j + 1) = jj l j + 1 ∧ jj l j < (usedV l).length ∧ (usedV l).getD (jj l j) 0 = l.getD j 0 := by
  have e : usedV (l.take (j + 1)) = usedV (l.take j) ++ [l.getD j 0] := by
    rw [FsV.take_snoc l 0 j h, usedV, List.filter_append, ← usedV]
    have : [l.getD j 0].filter (fun b => decide (b ≠ -1)) = [l.getD j 0] := by rw [List.filter_cons_of_pos (by simpa using hb)]; rfl
    rw [this]
  have h1 : jj l (j + 1) = jj l j + 1 := by rw [jj, e, List.length_append, ← jj]; rfl
  have h2 : usedV l = usedV (l.take j) ++ (l.getD j 0 :: usedV (l.drop (j + 1))) := by
    rw [used_split l (j + 1), e, List.append_assoc]; rfl
  refine ⟨h1, ?_, ?_⟩
  · rw [h2, List.length_append, ← jj, List.length_cons]; omega
  · rw [h2, List.getD_eq_getElem?_getD, List.getElem?_append_right (by rw [← jj]; exact Nat.le_refl _), ← jj, Nat.sub_self]; rfl
theorem boolInfo : (Tryz.prog.info? 4).map (fun i => (i.zero, i.size, i.bytes)) = some (some (.bool false), 1, 1) := by kernel_rfl
theorem ret_two {a b c d : Value} (h1 : a = c) (h2 : b = d) : Ending.returned (.tuple #[a, b]) = .returned (.tuple #[c, d]) := by rw [h1, h2]

set_option maxRecDepth 100000 in
set_option maxHeartbeats 6400000 in
theorem used_any (w : World) (v : Value) (f : F) (hc : FsF.cost f ≤ 1073741824) (hu : ∀ n ∈ f.inodes, 0 ≤ n.uid) (h : FsF.Holds w v f) :
    Calls Tryz.prog 131 #[v] w fun e w' => ∃ y, e = .returned (.tuple #[y, .bool (ownB f.inodes)]) ∧ (ownB f.inodes = true → ∃ g, y = .slice (some ⟨g, 0, none⟩) 56 56 ∧ w'.ownsRow w.heap.size 4 1 y 56 (bl (allB f.inodes))) ∧ Below w.heap.size w w' := by
  obtain ⟨i0, hi0, hz0, hz1, hz2⟩ := info_parts boolInfo
  have hci : IF.cost f.inodes ≤ 1073741824 := Nat.le_trans (FsF.le_inodes f) hc
  obtain ⟨r0, r1, r2, rfl, g0, g1, g2⟩ := h
  obtain ⟨qa, qc, rfl⟩ := QF.form g0
  obtain ⟨da, dc, rfl⟩ := SF.form g2
  obtain ⟨ia, ic, rfl, hle, hat⟩ := IF.atL g1
  have HC := Lib.hid hat
  obtain ⟨l, hll⟩ : ∃ l, l = f.inodes := ⟨_, rfl⟩
  rw [← hll] at hu hci hle HC ⊢
  have hlen : l.length ≤ 1073741824 := Nat.le_trans (Nat.le_add_right _ _) hci
  have hcs : IF.csum l ≤ 1073741824 := Nat.le_trans (Nat.le_add_left _ _) hci
  have HCA := Lib.hid (fun i (hi : i < l.length) => Nat.le_trans (IF.cost_at hi) hcs)
  have HU := Lib.hid hu
  have HNO := Lib.hid (fun i j hi hj => FsV.own_no l i j hi hj)
  have HST := Lib.hid (fun i j hj => FsV.own_step l i j hj)
  have HEN := Lib.hid (fun i hi => FsV.own_end l i hi)
  obtain ⟨M, hM⟩ : ∃ M, M = l.length := ⟨_, rfl⟩
  rw [← hM] at hlen hle ⊢
  have HM := Lib.hid hM
  generalize f.quotas.length = DQ at *
  generalize f.data.length = DD at *
  generalize f.tick = T at *
  clear hM hat hc hci hcs g0 g1 g2 hu hll
  have HRO := Lib.hid (show i0.bytes * 56 ≤ 281474976710656 by rw [hz2]; omega)
  have HB0 := Lib.hid ((Below.refl w.heap.size w).alloc (Nat.le_refl _) (.cells #[.int .i64 T, .slice qa DQ qc, .slice ia M ic, .slice da DD dc] 33))
  have HX0 := Lib.hid (new w #[.int .i64 T, .slice qa DQ qc, .slice ia M ic, .slice da DD dc] 33)
  clear hz2
  go_enter Tryz.func131, Tryz.ntmps131
  go_wp2_with (at_make; refine wpList_make_full _ rfl _ _ 149 rfl (w.heap.size + 1) 4 i0 (.bool false) 1 Tryz.underlying149 hi0 hz0 hz1 .i64 .i64 _ _ 56 rfl rfl rfl rfl ?c1 ?c2 ?c3 ?_)
  case c1 => exact HRO.out
  case c2 => unfold maxLen; omega
  case c3 => simp
  intro w1 hown1 hg1
  have HO1 := Lib.hid (show w1.ownsRow (w.heap.size + 1) 4 1 (.slice (some ⟨w.heap.size + 1, 0, none⟩) 56 56) 56 (bl (FsV.seen l 0 0)) from by
    have e : FsV.seen l 0 0 = [] := rfl
    rw [e, bl_nil]
    have key : ∀ xs, w1.ownsRow (w.heap.size + 1) 4 1 (.slice (some ⟨w.heap.size + 1, 0, none⟩) 56 56) 56 xs → xs = List.replicate 56 (.bool false) → w1.ownsRow (w.heap.size + 1) 4 1 (.slice (some ⟨w.heap.size + 1, 0, none⟩) 56 56) 56 (List.replicate 56 (.bool false)) := fun xs h e => e ▸ h
    exact key _ (by simpa only [World.size_alloc] using hown1) (by kernel_rfl))
  have HX1 := Lib.hid (HX0.out.grown hg1 (by simp))
  have HB1 := Lib.hid (HB0.out.grown hg1 HB0.out.size (fun k hk => by cases hk))
  have hsz1 := hg1.size
  simp only [World.size_alloc] at hsz1
  have hx2 := HX1.out.cell 2
  dsimp at hx2
  clear hown1 hg1 HX0 HB0
  go_wp2
  clear hx2
  go_loopw [13] (fun iv wr => ∃ i : Nat, i ≤ M ∧ iv = .int .i64 i ∧ wr.ownsRow (w.heap.size + 1) 4 1 (.slice (some ⟨w.heap.size + 1, 0, none⟩) 56 56) 56 (bl (FsV.seen l i 0)) ∧ goB [] (pre l i 0) = true ∧ Below w.heap.size w wr) (fun iv _ => M - (intOf iv).toNat)
  case atStart => exact ⟨0, Nat.zero_le _, rfl, HO1.out, rfl, HB1.out⟩
  case round =>
    obtain ⟨i, hi, rfl, hown, hgo, hbel⟩ := hrel
    have HB := Lib.hid hbel
    have HO := Lib.hid hown
    have HG := Lib.hid hgo
    have hsz := hbel.size
    clear hown hbel hgo HO1 HB1 HX1 hsz1
    by_cases hlt : i < M
    · have hlx : i < l.length := by rw [← HM.out]; exact hlt
      obtain ⟨b, o, rfl, hb, r0, r1, r2, hC, hP⟩ := HC.out i hlx
      obtain ⟨p0, p1, p2⟩ := hP
      obtain ⟨a0, d0, rfl, hble, hbat⟩ := p0
      obtain ⟨a1, d1, rfl⟩ := AeF.form p1
      obtain ⟨a2, d2, rfl⟩ := AeF.form p2
      obtain ⟨c0, c1, c2, c3, c4, c5, c6, c7, c8, c9⟩ := hC.below hb HB.out
      clear hC p1 p2
      have hcx := HCA.out i hlx
      have HUI := Lib.hid (HU.out _ (IF.mem_getD hlx))
      have HBA := Lib.hid hbat
      have HE1 := Lib.hid (FsV.seen_end l i hlx)
      have HE2 := Lib.hid (FsV.pre_end l i hlx)
      have HSN := Lib.hid (FsV.seen_snoc l i)
      have HNI := Lib.hid (fun j hj => HNO.out i j hlx hj)
      have HSI := Lib.hid (fun j hj => HST.out i j hj)
      rw [show InoV.zero = IF.z0 from rfl] at HE1 HE2 HSN HNI HSI
      clear hbat
      generalize l.getD i IF.z0 = n at c0 c1 c2 c3 c4 c5 c6 c7 c8 c9 hcx HUI HBA HE1 HE2 HSN HNI HSI hble
      have hbl : n.blocks.length ≤ 1073741824 := Nat.le_trans (In.le_blocks n) hcx
      obtain ⟨m, hm⟩ : ∃ m, m = n.blocks.length := ⟨_, rfl⟩
      have HJE := Lib.hid (jj_end n.blocks m hm)
      rw [← hm] at c7 hbl hble HBA
      have HML := Lib.hid hm
      clear hm
      have HN := Lib.hid (HB.out.alloc hsz (.cells #[.int .i64 n.kind, .int .i64 n.mode, .int .i64 n.uid, .int .i64 n.gid, .int .i64 n.links, .int .i64 n.size, .int .i64 n.tick, .slice a0 m d0, .slice a1 n.acl.length d1, .slice a2 n.dflt.length d2] 89))
      have HXN := Lib.hid (new wr #[.int .i64 n.kind, .int .i64 n.mode, .int .i64 n.uid, .int .i64 n.gid, .int .i64 n.links, .int .i64 n.size, .int .i64 n.tick, .slice a0 m d0, .slice a1 n.acl.length d1, .slice a2 n.dflt.length d2] 89)
      have HON := Lib.hid (Strs.own_below HO.out ((Below.refl wr.heap.size wr).alloc (Nat.le_refl _) (.cells #[.int .i64 n.kind, .int .i64 n.mode, .int .i64 n.uid, .int .i64 n.gid, .int .i64 n.links, .int .i64 n.size, .int .i64 n.tick, .slice a0 m d0, .slice a1 n.acl.length d1, .slice a2 n.dflt.length d2] 89)))
      have hrl : w.heap.size + 1 < wr.heap.size := by
        rcases HO.out.2 with ⟨hh, _⟩ | ⟨g, c', cur, hh, _, hg, _⟩
        · cases hh
        · simp only [Value.slice.injEq, Option.some.injEq, Addr.mk.injEq, and_true, true_and] at hh
          obtain ⟨rfl, _⟩ := hh
          exact (Array.getElem?_eq_some_iff.1 hg).1
      obtain ⟨W1, hW1⟩ : ∃ W1, W1 = wr.heap.size := ⟨_, rfl⟩
      have HXW := Lib.hid HXN.out
      have HBW := Lib.hid (Below.refl wr.heap.size wr)
      have HB2 := Lib.hid ((Below.refl wr.heap.size wr).alloc (Nat.le_refl _) (.cells #[.int .i64 n.kind, .int .i64 n.mode, .int .i64 n.uid, .int .i64 n.gid, .int .i64 n.links, .int .i64 n.size, .int .i64 n.tick, .slice a0 m d0, .slice a1 n.acl.length d1, .slice a2 n.dflt.length d2] 89))
      rw [← hW1] at HXW hrl
      have hwl : W1 < wr.heap.size + 1 := by omega
      have HIX := Lib.hid (show jj n.blocks 0 = 0 from jj_zero _)
      go_wp2
      rw [← hW1]
      clear c0 c1 c2 c3 c4 c5 c6 c7 c8 c9
      go_loopw [20] (fun jv wq => ∃ j : Nat, j ≤ m ∧ jv = .int .i64 j ∧ wq.ownsRow (w.heap.size + 1) 4 1 (.slice (some ⟨w.heap.size + 1, 0, none⟩) 56 56) 56 (bl (FsV.seen l i (jj n.blocks j))) ∧ goB [] (pre l i (jj n.blocks j)) = true ∧ Bk wq W1 #[.int .i64 n.kind, .int .i64 n.mode, .int .i64 n.uid, .int .i64 n.gid, .int .i64 n.links, .int .i64 n.size, .int .i64 n.tick, .slice a0 m d0, .slice a1 n.acl.length d1, .slice a2 n.dflt.length d2] 89 ∧ W1 < wq.heap.size ∧ Below w.heap.size w wq) (fun jv _ => m - (intOf jv).toNat)
      case atStart => exact ⟨0, Nat.zero_le _, rfl, by rw [HIX.out]; exact HON.out, by rw [HIX.out]; exact HG.out, HXW.out, by simpa using hwl, HN.out⟩
      case round =>
        obtain ⟨j, hj, rfl, hown, hgo, hxn, hszq, hbel⟩ := hrel
        replace HN := Lib.hid hbel
        replace HON := Lib.hid hown
        replace HG := Lib.hid hgo
        replace HXN := Lib.hid hxn
        clear hown hbel hgo hxn HXW HBW HB2 hW1 hwl
        by_cases hltj : j < m
        · obtain ⟨b2, o2, rfl, hlt2, g0⟩ := HBA.out j hltj
          rw [← HN.out.cell (p := ⟨b2, o2 + j, none⟩) hlt2] at g0
          have hjl : j < n.blocks.length := by rw [← HML.out]; exact hltj
          have HJH := Lib.hid (fun h => jj_hole (l := n.blocks) hjl h)
          have HJB := Lib.hid (fun h => jj_block (l := n.blocks) hjl h)
          generalize n.blocks.getD j 0 = x at g0 HJH HJB
          by_cases hm1 : x = -1
          · subst hm1
            have HON2 := Lib.hid (show wr.ownsRow (w.heap.size + 1) 4 1 (.slice (some ⟨w.heap.size + 1, 0, none⟩) 56 56) 56 (bl (FsV.seen l i (jj n.blocks (j + 1)))) from by rw [HJH.out rfl]; exact HON.out)
            have HG2 := Lib.hid (show goB [] (pre l i (jj n.blocks (j + 1))) = true from by rw [HJH.out rfl]; exact HG.out)
            go_wp2
            go_roundw
            case rel => exact ⟨j + 1, by omega, by go_num, HON2.out, HG2.out, HXN.out, hszq, HN.out⟩
            case measure => simp [intOf]; omega
          · obtain ⟨hj1, hj2, hj3⟩ := HJB.out hm1
            have hx1 : (x == -1) = false := by simpa using hm1
            have hx2 : (x != -1) = true := by simpa using hm1
            have HNJ := Lib.hid (HNI.out _ hj2)
            have HSK := Lib.hid (HSI.out _ hj2 HG.out)
            have HSJ := Lib.hid (HSN.out _ hj2)
            have HJ1 := Lib.hid hj1
            rw [hj3] at HNJ HSK HSJ
            clear hj1 hj2 hj3 hm1 HJH HJB
            have hu2 := Fam.cell (W := wr) (p := ⟨W1, 2, none⟩) hszq (show _ = some (.int .i64 n.uid) from HXN.out.cell 2)
            have HOW := Lib.hid (fun W => FsO.owner_spec x W)
            by_cases hown : ownerV x = n.uid
            · obtain ⟨hx0, hx55, _⟩ := FsV.owner_in hown (by have := HUI.out; omega)
              have HOB := Lib.hid (decide_eq_true hown)
              have hB1 : (ownerV x == n.uid) = true := by simpa using hown
              have hB2 : (ownerV x != n.uid) = false := by simpa using hown
              clear hown
              obtain ⟨k, rfl⟩ : ∃ k : Nat, x = k := ⟨x.toNat, by omega⟩
              have hk : k < 56 := by omega
              have hrow := HON.out.cellAt k (by omega)
              rw [bl_at _ k hk] at hrow
              obtain ⟨C, hC⟩ : ∃ C, hasB (FsV.seen l i (jj n.blocks j)) (k : Int) = C := ⟨_, rfl⟩
              rw [hC] at hrow
              have HCC := Lib.hid hC
              have HONE := Lib.hid (show oneB (FsV.seen l i (jj n.blocks j)) (n.uid, (k : Int)) = !C from by rw [oneB, HOB.out, hC]; rfl)
              have hzr := Fam.cell (W := wr) (p := ⟨w.heap.size + 1, k, none⟩) (by show w.heap.size + 1 < _; omega) hrow
              clear hC hx0 hx55 hrow
              go_wp2
              clear g0 hx1 hx2
              refine Fam.region (by kernel_rfl) (by kernel_rfl) ?_
              cases C
              · repeat (go_big_quiet_step (first | (go_at_call 170; with_reducible refine Fam.calls_same (HOW.out _))))
                refine wpQuiet_nil ?_
                intro _ hw'
                obtain ⟨nq, hw''⟩ := hw'
                subst hw''
                have hbq := Fam.wld_below _ nq
                generalize Fam.wld _ nq = w9 at hbq ⊢
                have HS := Lib.hid (HSK.out (by rw [HONE.out]; rfl))
                have HB9 := Lib.hid (HN.out.trans (hbq.mono HN.out.size))
                have HO9 := Lib.hid (Strs.own_below HON.out hbq)
                have HX9 := Lib.hid (HXN.out.all hbq)
                have hs9 := hbq.size
                have hck := HO9.out.cellAt k (by omega)
                rw [bl_at _ k hk] at hck
                have hfk := HO9.out.frozenAt k
                have hst := HO9.out.stored k (.bool true)
                rw [bl_set _ k hk, ← HSJ.out, ← HJ1.out] at hst
                have HST2 := Lib.hid hst.1
                have HX2 := Lib.hid (HX9.out.grown hst.2 (by simp; omega))
                have HB2 := Lib.hid (HB9.out.setCell (p := ⟨w.heap.size + 1, k, none⟩) (by simp) (.bool true))
                clear hbq hu2 hzr hB1 hB2 hst
                go_wp2
                go_roundw
                case rel => exact ⟨j + 1, by omega, by go_num, HST2.out, by rw [HJ1.out]; exact HS.out, HX2.out, by simp; omega, HB2.out⟩
                case measure => simp [intOf]; omega
              · repeat (go_big_quiet_step (first | (go_at_call 170; with_reducible refine Fam.calls_same (HOW.out _))))
                refine wpQuiet_nil ?_
                intro _ hw'
                obtain ⟨nq, hw''⟩ := hw'
                subst hw''
                have hbq := Fam.wld_below _ nq
                generalize Fam.wld _ nq = w9 at hbq ⊢
                have HF := Lib.hid (HNJ.out (by rw [HONE.out]; rfl))
                have HB9 := Lib.hid (HN.out.trans (hbq.mono HN.out.size))
                clear hbq hu2 hzr hB1 hB2
                go_wp2
                go_ret2
                exact ⟨_, by rw [HF.out]; rfl, (fun h => by rw [HF.out] at h; cases h), HB9.out⟩
            · have HONE := Lib.hid (show oneB (FsV.seen l i (jj n.blocks j)) (n.uid, x) = false from by rw [oneB, decide_eq_false hown]; rfl)
              have hB1 : (ownerV x == n.uid) = false := by simpa using hown
              have hB2 : (ownerV x != n.uid) = true := by simpa using hown
              clear hown
              go_wp2
              clear g0 hx1 hx2
              refine Fam.region (by kernel_rfl) (by kernel_rfl) ?_
              repeat (go_big_quiet_step (first | (go_at_call 170; with_reducible refine Fam.calls_same (HOW.out _))))
              refine wpQuiet_nil ?_
              intro _ hw'
              obtain ⟨nq, hw''⟩ := hw'
              subst hw''
              have hbq := Fam.wld_below _ nq
              generalize Fam.wld _ nq = w9 at hbq ⊢
              have HF := Lib.hid (HNJ.out HONE.out)
              have HB9 := Lib.hid (HN.out.trans (hbq.mono HN.out.size))
              clear hbq hu2 hB1 hB2
              go_wp2
              go_ret2
              exact ⟨_, by rw [HF.out]; rfl, (fun h => by rw [HF.out] at h; cases h), HB9.out⟩
        · obtain rfl : j = m := by omega
          have HO3 := Lib.hid (show wr.ownsRow (w.heap.size + 1) 4 1 (.slice (some ⟨w.heap.size + 1, 0, none⟩) 56 56) 56 (bl (FsV.seen l (i + 1) 0)) from by rw [← HE1.out, ← HJE.out]; exact HON.out)
          have HG3 := Lib.hid (show goB [] (pre l (i + 1) 0) = true from by rw [← HE2.out, ← HJE.out]; exact HG.out)
          go_wp2
          go_roundw
          case rel => exact ⟨i + 1, by omega, by go_num, HO3.out, HG3.out, HN.out⟩
          case measure => simp [intOf]; omega
    · obtain rfl : i = M := by omega
      have HF := Lib.hid (HEN.out i HM.out HG.out)
      have HO3 := Lib.hid (show wr.ownsRow w.heap.size 4 1 (.slice (some ⟨w.heap.size + 1, 0, none⟩) 56 56) 56 (bl (allB l)) from by
        have := HO.out
        rw [FsV.seen_zero, List.take_of_length_le (by rw [← HM.out]; exact Nat.le_refl _)] at this
        exact row_mono this (by omega))
      go_wp2
      go_ret2
      exact ⟨_, by rw [HF.out]; rfl, (fun _ => ⟨_, rfl, HO3.out⟩), HB.out⟩
end Go.Proofs.YthppbcnejapbiaaGreatDoor.FsK

-- YthppbcnejapbiaaGreatDoorFsS
/- Contract: the model's IsFS. Conditions: as the theorem types them. -/
namespace Go.Proofs.YthppbcnejapbiaaGreatDoor.FsS
open Go.ChangeShapes Go.WideShapes Go.ChangeAt Go.RowKit
open Foot Bx
open InoV (I usedV hasB needV)
open FsV (F allB ownB beyond zB freeB elseB okF partsB quB tickB rootB allTo rangeTo)
open Dk (ret_bool)
open FsB (Fit)
set_option linter.unusedVariables false

theorem zeroes_spec (s : ByteArray) (w : World) (h : s.size ≤ maxLen) : Calls Tryz.prog 132 #[.string s] w fun e w' => e = .returned (.bool (zB s)) ∧ w = w' := IsZeroes.spec_any s w h
theorem ok_no_parts {f : F} (h : partsB f = false) : okF f = false := by rw [okF, h]; simp
theorem ok_no_tick {f : F} (h : tickB f = false) : okF f = false := by rw [okF, h]; rfl
theorem ok_no_root {f : F} (h : rootB f = false) : okF f = false := by rw [okF, h]; simp
theorem ok_no_own {f : F} (h : ownB f.inodes = false) : okF f = false := by rw [okF, h]; simp
theorem ok_no_else {f : F} (h : elseB f = false) : okF f = false := by rw [okF, h]; simp
theorem ok_yes {f : F} (h1 : tickB f = true) (h2 : partsB f = true) (h3 : rootB f = true) (h4 : ownB f.inodes = true) (h5 : elseB f = true) : okF f = true := by rw [okF, h1, h2, h3, h4, h5]; rfl
theorem in_any (x lo hi : Int) {A : Bool} (h : (decide (lo ≤ x) && decide (x ≤ hi)) = A) (w : World) : Calls Tryz.prog 103 #[.int .i64 x, .int .i64 lo, .int .i64 hi] w fun e w' => e = .returned (.bool A) ∧ w = w' := by
  have := AclS.in_any x lo hi w; rw [h] at this; exact this

/-- The last test: what lies beyond the size, as the model asks. -/
theorem last_zero {f : F} {n : I} (h : n.blocks.length = 0) : zB (beyond f n) = true := by rw [FsB.beyond_none h]; rfl
theorem last_hole {f : F} {n : I} {L : Nat} (hL : n.blocks.length = L + 1) (h : n.blocks.getD L 0 = -1) : zB (beyond f n) = true := by rw [FsB.beyond_hole hL h]; rfl

set_option maxRecDepth 100000 in
set_option maxHeartbeats 12800000 in
theorem is_spec (w : World) (v : Value) (f : F) (hc : FsF.cost f ≤ 1073741824) (hl : FsF.Lim f) (h : FsF.Holds w v f) :
    Calls Tryz.prog 73 #[v] w fun e w' => e = .returned (.bool (okF f)) ∧ Below w.heap.size w w' := by
  have HFS := Lib.hid h
  have HCA := Lib.hid (fun i (hi : i < f.inodes.length) => FsP.cost_at hc hi)
  have HSA := Lib.hid (fun i (hi : i < f.data.length) => FsP.size_at hl hi)
  have HCC := Lib.hid hc
  obtain ⟨r0, r1, r2, rfl, g0, g1, g2⟩ := h
  obtain ⟨qa, qc, rfl, hQ⟩ := Qt.atL g0
  obtain ⟨ia, ic, rfl, _, hI⟩ := IF.atL g1
  obtain ⟨da, dc, rfl, hD⟩ := g2
  have HQ := Lib.hid hQ
  have HI := Lib.hid hI
  have HD := Lib.hid (show ∀ i, i < f.data.length → ∃ b o, da = some ⟨b, o, none⟩ ∧ b < w.heap.size ∧ w.cell? ⟨b, o + i, none⟩ = some (.string (f.data.getD i ⟨#[]⟩)) from fun i hi => by
    obtain ⟨b, o, e, hlt, hcell⟩ := hD (by intro e; rw [e] at hi; simp at hi)
    exact ⟨b, o, e, hlt, hcell i hi⟩)
  have hlq : f.quotas.length ≤ 1073741824 := Nat.le_trans (FsF.le_quotas f) hc
  have hli : f.inodes.length ≤ 1073741824 := Nat.le_trans (Nat.le_trans (Nat.le_add_right _ _) (FsF.le_inodes f)) hc
  have hld : f.data.length ≤ 1073741824 := Nat.le_trans (Nat.le_trans (Nat.le_add_right _ _) (FsF.le_data f)) hc
  clear g0 g1 hQ hI hD hc hl
  have HN1 := Lib.hid (fun h => ok_no_parts (FsP.parts_quo (f := f) h))
  have HN2 := Lib.hid (fun h => ok_no_parts (FsP.parts_ino (f := f) h))
  have HN3 := Lib.hid (fun h => ok_no_parts (FsP.parts_dat (f := f) h))
  obtain ⟨A, hA⟩ : ∃ A, tickB f = A := ⟨_, rfl⟩
  have hin := in_any f.tick 0 1000000000 hA
  have HTK := Lib.hid hA
  have HIN := Lib.hid hin
  obtain ⟨T, hT⟩ : ∃ T, T = f.tick := ⟨_, rfl⟩
  rw [← hT] at HIN HFS ⊢
  clear hT hA hin
  by_cases h1 : f.quotas.length = 4
  · by_cases h2 : f.inodes.length = 20
    · by_cases h3 : f.data.length = 56
      · have HL1 := Lib.hid h1
        have HL2 := Lib.hid h2
        have HL3 := Lib.hid h3
        rw [h1, h2, h3] at HFS ⊢
        clear h1 h2 h3 hlq hli hld
        have HB0 := Lib.hid ((Below.refl w.heap.size w).alloc (Nat.le_refl _) (.cells #[.int .i64 T, .slice qa 4 qc, .slice ia 20 ic, .slice da 56 dc] 33))
        have HX0 := Lib.hid (new w #[.int .i64 T, .slice qa 4 qc, .slice ia 20 ic, .slice da 56 dc] 33)
        cases A
        · have HF := Lib.hid (ok_no_tick HTK.out)
          go_enter Tryz.func73, Tryz.ntmps73
          go_wp2_with fail
          refine (HIN.out _).mono ?_
          rintro e w1 ⟨rfl, rfl⟩
          go_wp2
          go_ret
          exact ⟨ret_bool HF.out.symm, HB0.out⟩
        go_enter Tryz.func73, Tryz.ntmps73
        go_wp2_with fail
        refine (HIN.out _).mono ?_
        rintro e w1 ⟨rfl, rfl⟩
        go_wp2
        go_loopw [39] (fun iv wr => ∃ k : Nat, k ≤ 4 ∧ iv = .int .i64 k ∧ Bk wr w.heap.size #[.int .i64 T, .slice qa 4 qc, .slice ia 20 ic, .slice da 56 dc] 33 ∧ Below w.heap.size w wr ∧ allTo quB f.quotas k = true) (fun iv _ => 4 - (intOf iv).toNat)
        case atStart => exact ⟨0, Nat.zero_le _, rfl, HX0.out, HB0.out, FsV.allTo_zero _ _⟩
        case round =>
          obtain ⟨k, hk, rfl, hx, hbel, hr⟩ := hrel
          have HB := Lib.hid hbel
          have HX := Lib.hid hx
          have HR := Lib.hid hr
          have hsz := hbel.size
          clear hx hbel hr HB0 HX0 HIN
          by_cases hlt : k < 4
          · have hkl : k < f.quotas.length := by rw [HL1.out]; exact hlt
            obtain ⟨b, o, rfl, hb, hC⟩ := HQ.out k hkl
            obtain ⟨c0, c1⟩ := hC.below hb HB.out
            have hq := FsV.allTo_succ quB f.quotas Qt.a0 k hkl
            have HNO := Lib.hid (fun h => HN1.out (FsV.all_no (z := Qt.a0) hkl h))
            have HRQ := Lib.hid hq
            clear hC hq hkl
            generalize f.quotas.getD k Qt.a0 = q at c0 c1 HNO HRQ
            have HN := Lib.hid (HB.out.alloc hsz (.cells #[.int .i64 q.1, .int .i64 q.2] 113))
            have HXN := Lib.hid (HX.out.alloc (.cells #[.int .i64 q.1, .int .i64 q.2] 113))
            obtain ⟨B, hB⟩ : ∃ B, (decide (0 ≤ q.1) && decide (q.1 ≤ 5)) = B := ⟨_, rfl⟩
            obtain ⟨C, hC⟩ : ∃ C, (decide (0 ≤ q.2) && decide (q.2 ≤ 14)) = C := ⟨_, rfl⟩
            have HI1 := Lib.hid (in_any q.1 0 5 hB)
            have HI2 := Lib.hid (in_any q.2 0 14 hC)
            have HQB := Lib.hid (show quB q = (B && C) from by rw [quB, hB, hC])
            clear hB hC
            cases B
            · have HF := Lib.hid (HNO.out (by rw [HQB.out]; rfl))
              go_wp2_with fail
              refine (HI1.out _).mono ?_
              rintro e w1 ⟨rfl, rfl⟩
              go_wp2
              go_ret
              exact ⟨ret_bool HF.out.symm, HN.out⟩
            · cases C
              · have HF := Lib.hid (HNO.out (by rw [HQB.out]; rfl))
                go_wp2_with fail
                refine (HI1.out _).mono ?_
                rintro e w1 ⟨rfl, rfl⟩
                go_wp2_with fail
                refine (HI2.out _).mono ?_
                rintro e w1 ⟨rfl, rfl⟩
                go_wp2
                go_ret
                exact ⟨ret_bool HF.out.symm, HN.out⟩
              · have HS := Lib.hid (show allTo quB f.quotas (k + 1) = true by rw [HRQ.out, HR.out, HQB.out]; rfl)
                go_wp2_with fail
                refine (HI1.out _).mono ?_
                rintro e w1 ⟨rfl, rfl⟩
                go_wp2_with fail
                refine (HI2.out _).mono ?_
                rintro e w1 ⟨rfl, rfl⟩
                go_wp2
                go_roundw
                case rel => exact ⟨k + 1, by omega, by go_num, HXN.out, HN.out, HS.out⟩
                case measure => simp [intOf]; omega
          · obtain rfl : k = 4 := by omega
            rw [show ((4 : Nat) : Int) = 4 from rfl]
            have HQA := Lib.hid (show f.quotas.all quB = true by rw [← FsV.allTo_end quB f.quotas 4 HL1.out.symm]; exact HR.out)
            have x2 := HX.out.cell 2
            dsimp at x2
            go_wp2
            clear x2
            go_loopw [57] (fun iv wr => ∃ k : Nat, k ≤ 20 ∧ iv = .int .i64 k ∧ Bk wr w.heap.size #[.int .i64 T, .slice qa 4 qc, .slice ia 20 ic, .slice da 56 dc] 33 ∧ Below w.heap.size w wr ∧ allTo InoV.okI f.inodes k = true) (fun iv _ => 20 - (intOf iv).toNat)
            case atStart => exact ⟨0, Nat.zero_le _, rfl, HX.out, HB.out, FsV.allTo_zero _ _⟩
            case round =>
              obtain ⟨k, hk, rfl, hx, hbel, hr⟩ := hrel
              replace HB := Lib.hid hbel
              replace HX := Lib.hid hx
              replace HR := Lib.hid hr
              have hsz := hbel.size
              clear hx hbel hr
              by_cases hlt : k < 20
              · have hkl : k < f.inodes.length := by rw [HL2.out]; exact hlt
                obtain ⟨b, o, rfl, hb, r0, r1, r2, hC, hP⟩ := HI.out k hkl
                have HP := Lib.hid (IF.parts_holds (IF.parts_below hP HB.out))
                obtain ⟨p0, p1, p2⟩ := hP
                obtain ⟨a0, d0, rfl⟩ := NiF.form p0
                obtain ⟨a1, d1, rfl⟩ := AeF.form p1
                obtain ⟨a2, d2, rfl⟩ := AeF.form p2
                obtain ⟨c0, c1, c2, c3, c4, c5, c6, c7, c8, c9⟩ := hC.below hb HB.out
                have hq := FsV.allTo_succ InoV.okI f.inodes IF.z0 k hkl
                have HNO := Lib.hid (fun h => HN2.out (FsV.all_no (z := IF.z0) hkl h))
                have HRQ := Lib.hid hq
                have hcx := HCA.out k hkl
                clear hC p0 p1 p2 hq hkl
                rw [show InoV.zero = IF.z0 from rfl] at hcx
                generalize f.inodes.getD k IF.z0 = n at c0 c1 c2 c3 c4 c5 c6 c7 c8 c9 HNO HRQ hcx HP
                have HW := Lib.hid ((Below.refl wr.heap.size wr).alloc (Nat.le_refl _) (.cells #[.int .i64 n.kind, .int .i64 n.mode, .int .i64 n.uid, .int .i64 n.gid, .int .i64 n.links, .int .i64 n.size, .int .i64 n.tick, .slice a0 n.blocks.length d0, .slice a1 n.acl.length d1, .slice a2 n.dflt.length d2] 89))
                have HN := Lib.hid (HB.out.trans (HW.out.mono hsz))
                have HXN := Lib.hid (HX.out.alloc (.cells #[.int .i64 n.kind, .int .i64 n.mode, .int .i64 n.uid, .int .i64 n.gid, .int .i64 n.links, .int .i64 n.size, .int .i64 n.tick, .slice a0 n.blocks.length d0, .slice a1 n.acl.length d1, .slice a2 n.dflt.length d2] 89))
                have HPN := Lib.hid (In.holds_below HP.out HW.out)
                go_wp2_with fail
                refine (InOs.is_any _ _ n hcx HPN.out).mono ?_
                rintro e w1 ⟨rfl, hb1⟩
                replace HN := Lib.hid (HN.out.trans (hb1.mono HN.out.size))
                replace HXN := Lib.hid (HXN.out.all hb1)
                clear hb1 c0 c1 c2 c3 c4 c5 c6 c7 c8 c9
                cases hq : InoV.okI n
                · have HF := Lib.hid (HNO.out hq)
                  clear hq
                  go_wp2
                  go_ret
                  exact ⟨ret_bool HF.out.symm, HN.out⟩
                · have HS := Lib.hid (show allTo InoV.okI f.inodes (k + 1) = true by rw [HRQ.out, HR.out, hq]; rfl)
                  clear hq
                  go_wp2
                  go_roundw
                  case rel => exact ⟨k + 1, by omega, by go_num, HXN.out, HN.out, HS.out⟩
                  case measure => simp [intOf]; omega
              · obtain rfl : k = 20 := by omega
                rw [show ((20 : Nat) : Int) = 20 from rfl]
                have HIA := Lib.hid (show f.inodes.all InoV.okI = true by rw [← FsV.allTo_end InoV.okI f.inodes 20 HL2.out.symm]; exact HR.out)
                have HUID := Lib.hid (show ∀ n ∈ f.inodes, 0 ≤ n.uid from fun n hn => (InoV.ok_nums (List.all_eq_true.1 HIA.out n hn)).2.2.2.2.1)
                obtain ⟨b, o, rfl, hb, r0, r1, r2, hC, hPt⟩ := HI.out 0 (by rw [HL2.out]; omega)
                have c0 := (hC.below hb HB.out).1
                have HRB := Lib.hid (show rootB f = decide ((f.inodes.getD 0 IF.z0).kind = 2) from rfl)
                rw [Nat.zero_mul, Nat.add_zero] at c0
                clear hC hPt
                generalize (f.inodes.getD 0 IF.z0).kind = K at c0 HRB
                obtain ⟨x0, x1, x2, x3⟩ := Bk.c4 HX.out
                by_cases hk2 : K = 2
                · have k1 : (K == 2) = true := by simpa using hk2
                  have k2 : (K != 2) = false := by simpa using hk2
                  have HRT := Lib.hid (show rootB f = true by rw [HRB.out]; exact decide_eq_true hk2)
                  clear hk2
                  go_wp2_with fail
                  refine (FsK.used_any _ _ f HCC.out HUID.out (FsF.holds_below HFS.out HB.out)).mono ?_
                  rintro e w2 ⟨y, rfl, hrow, hb2⟩
                  have HB2 := Lib.hid (HB.out.trans (hb2.mono HB.out.size))
                  have HX2 := Lib.hid (HX.out.all hb2)
                  have HROW := Lib.hid hrow
                  clear hb2 x0 x1 x2 x3 c0 k1 k2 hrow
                  cases ho : ownB f.inodes
                  · have HF := Lib.hid (ok_no_own ho)
                    clear ho
                    go_wp2
                    go_ret
                    exact ⟨ret_bool HF.out.symm, HB2.out⟩
                  · have HO := Lib.hid ho
                    obtain ⟨g, rfl, hrow⟩ := HROW.out ho
                    have HRW := Lib.hid hrow
                    clear ho hrow HROW
                    have x3 := HX2.out.cell 3
                    dsimp at x3
                    go_wp2
                    clear x3
                    obtain ⟨W0, hW0⟩ : ∃ W0, W0 = wr.heap.size := ⟨_, rfl⟩
                    have HRW2 := Lib.hid (show w2.ownsRow W0 4 1 (.slice (some ⟨g, 0, none⟩) 56 56) 56 (FsK.bl (allB f.inodes)) from by rw [hW0]; exact HRW.out)
                    clear hW0 HRW
                    go_loopw [81] (fun iv wr => ∃ k : Nat, k ≤ 56 ∧ iv = .int .i64 k ∧ Bk wr w.heap.size #[.int .i64 T, .slice qa 4 qc, .slice (some ⟨b, o, none⟩) 20 ic, .slice da 56 dc] 33 ∧ wr.ownsRow W0 4 1 (.slice (some ⟨g, 0, none⟩) 56 56) 56 (FsK.bl (allB f.inodes)) ∧ Below w.heap.size w wr ∧ allTo (fun s => decide (s.size = 32)) f.data k = true ∧ rangeTo (freeB f) k = true) (fun iv _ => 56 - (intOf iv).toNat)
                    case atStart => exact ⟨0, Nat.zero_le _, rfl, HX2.out, HRW2.out, HB2.out, FsV.allTo_zero _ _, rfl⟩
                    case round =>
                      obtain ⟨k, hk, rfl, hx, hrow, hbel, hr, hr2⟩ := hrel
                      replace HB := Lib.hid hbel
                      replace HX := Lib.hid hx
                      replace HR := Lib.hid hr
                      have HR2 := Lib.hid hr2
                      have HRW := Lib.hid hrow
                      have hsz := hbel.size
                      clear hx hbel hr hr2 hrow HRW2 HX2 HB2
                      by_cases hlt : k < 56
                      · have hkl : k < f.data.length := by rw [HL3.out]; exact hlt
                        obtain ⟨b2, o2, rfl, hb2, c0⟩ := HD.out k hkl
                        rw [← HB.out.cell (p := ⟨b2, _, none⟩) hb2] at c0
                        have hcx := HSA.out k hkl
                        have HSU1 := Lib.hid (FsV.allTo_succ (fun s => decide (s.size = 32)) f.data ⟨#[]⟩ k hkl)
                        have HSU2 := Lib.hid (FsV.rangeTo_succ (freeB f) k)
                        have HNO1 := Lib.hid (fun h => HN3.out (FsV.all_no (z := ⟨#[]⟩) hkl h))
                        have HNO2 := Lib.hid (fun h => ok_no_else (FsE.else_no1 (f := f) hlt h))
                        have hfree : freeB f k = (hasB (allB f.inodes) k || zB (f.data.getD k ⟨#[]⟩)) := rfl
                        have hrw := HRW.out.cellAt k (by omega)
                        rw [FsK.bl_at _ k hlt] at hrw
                        generalize f.data.getD k ⟨#[]⟩ = s at c0 hcx hfree HSU1 HNO1
                        generalize hasB (allB f.inodes) (k : Int) = A at hrw hfree
                        have HFR := Lib.hid hfree
                        have HCX := Lib.hid hcx
                        clear hfree hkl
                        unfold maxLen at hcx
                        by_cases hs : s.size = 32
                        · have HS1 := Lib.hid (show allTo (fun s => decide (s.size = 32)) f.data (k + 1) = true by rw [HSU1.out, HR.out, decide_eq_true hs]; rfl)
                          have q1 : ((s.size : Int) != 32) = false := by simp [hs]
                          have q2 : ((s.size : Int) == 32) = true := by simp [hs]
                          clear hs
                          cases A
                          · go_wp2_with fail
                            refine (zeroes_spec s _ HCX.out).mono ?_
                            rintro e w3 ⟨rfl, rfl⟩
                            cases hz : zB s
                            · have HF := Lib.hid (HNO2.out (by rw [HFR.out, hz]; rfl))
                              clear hz
                              go_wp2
                              go_ret
                              exact ⟨ret_bool HF.out.symm, HB.out⟩
                            · have HS2 := Lib.hid (show rangeTo (freeB f) (k + 1) = true by rw [HSU2.out, HR2.out, HFR.out, hz]; rfl)
                              clear hz
                              go_wp2
                              go_roundw
                              case rel => exact ⟨k + 1, by omega, by go_num, HX.out, HRW.out, HB.out, HS1.out, HS2.out⟩
                              case measure => simp [intOf]; omega
                          · have HS2 := Lib.hid (show rangeTo (freeB f) (k + 1) = true by rw [HSU2.out, HR2.out, HFR.out]; rfl)
                            go_wp2
                            go_roundw
                            case rel => exact ⟨k + 1, by omega, by go_num, HX.out, HRW.out, HB.out, HS1.out, HS2.out⟩
                            case measure => simp [intOf]; omega
                        · have HF := Lib.hid (HNO1.out (decide_eq_false hs))
                          have q1 : ((s.size : Int) != 32) = true := by simp; omega
                          have q2 : ((s.size : Int) == 32) = false := by simp; omega
                          clear hs
                          go_wp2
                          go_ret
                          exact ⟨ret_bool HF.out.symm, HB.out⟩
                      · obtain rfl : k = 56 := by omega
                        rw [show ((56 : Nat) : Int) = 56 from rfl]
                        have HRA := Lib.hid (show (List.range 56).all (freeB f) = true from HR2.out)
                        have HPT := Lib.hid (FsV.parts_mk HL1.out HL2.out HL3.out HQA.out HIA.out (by rw [← FsV.allTo_end (fun s => decide (s.size = 32)) f.data 56 HL3.out.symm]; exact HR.out))
                        have HFIT := Lib.hid (fun i hi => FsE.fit_of (i := i) HPT.out HO.out hi)
                        have HNL := Lib.hid (fun i hi h => ok_no_else (FsE.else_no2 (f := f) (i := i) hi h))
                        have x2 := HX.out.cell 2
                        dsimp at x2
                        go_wp2
                        clear x2
                        go_loopw [105] (fun iv wr => ∃ k : Nat, k ≤ 20 ∧ iv = .int .i64 k ∧ Bk wr w.heap.size #[.int .i64 T, .slice qa 4 qc, .slice (some ⟨b, o, none⟩) 20 ic, .slice da 56 dc] 33 ∧ Below w.heap.size w wr ∧ allTo (fun n => zB (beyond f n)) f.inodes k = true) (fun iv _ => 20 - (intOf iv).toNat)
                        case atStart => exact ⟨0, Nat.zero_le _, rfl, HX.out, HB.out, FsV.allTo_zero _ _⟩
                        case round =>
                          obtain ⟨k, hk, rfl, hx, hbel, hr⟩ := hrel
                          replace HB := Lib.hid hbel
                          replace HX := Lib.hid hx
                          replace HR := Lib.hid hr
                          have hsz := hbel.size
                          clear hx hbel hr HRW HR2
                          by_cases hlt : k < 20
                          · have hkl : k < f.inodes.length := by rw [HL2.out]; exact hlt
                            obtain ⟨b', o', e1, hb1, r0, r1, r2, hC, hP⟩ := HI.out k hkl
                            simp only [Option.some.injEq, Addr.mk.injEq, and_true] at e1
                            obtain ⟨rfl, rfl⟩ := e1
                            obtain ⟨p0, p1, p2⟩ := hP
                            obtain ⟨a0, d0, rfl, _, hbat⟩ := p0
                            obtain ⟨a1, d1, rfl⟩ := AeF.form p1
                            obtain ⟨a2, d2, rfl⟩ := AeF.form p2
                            obtain ⟨c0, c1, c2, c3, c4, c5, c6, c7, c8, c9⟩ := hC.below hb1 HB.out
                            have HBL := Lib.hid hbat
                            have HSU := Lib.hid (FsV.allTo_succ (fun n => zB (beyond f n)) f.inodes IF.z0 k hkl)
                            have HNO := Lib.hid (HNL.out k hkl)
                            have HFI := Lib.hid (HFIT.out k hkl)
                            rw [show InoV.zero = IF.z0 from rfl] at HNO HFI
                            clear hC p1 p2 hkl hbat
                            generalize f.inodes.getD k IF.z0 = n at c0 c1 c2 c3 c4 c5 c6 c7 c8 c9 HNO HSU HFI HBL
                            rcases Nat.eq_zero_or_pos n.blocks.length with h0 | hpos
                            · have HS := Lib.hid (show allTo (fun n => zB (beyond f n)) f.inodes (k + 1) = true by rw [HSU.out, HR.out, last_zero h0]; rfl)
                              rw [h0] at c7
                              clear h0
                              have HN := Lib.hid (HB.out.alloc hsz (.cells #[.int .i64 n.kind, .int .i64 n.mode, .int .i64 n.uid, .int .i64 n.gid, .int .i64 n.links, .int .i64 n.size, .int .i64 n.tick, .slice a0 0 d0, .slice a1 n.acl.length d1, .slice a2 n.dflt.length d2] 89))
                              have HXN := Lib.hid (HX.out.alloc (.cells #[.int .i64 n.kind, .int .i64 n.mode, .int .i64 n.uid, .int .i64 n.gid, .int .i64 n.links, .int .i64 n.size, .int .i64 n.tick, .slice a0 0 d0, .slice a1 n.acl.length d1, .slice a2 n.dflt.length d2] 89))
                              have HXI := Lib.hid (new wr #[.int .i64 n.kind, .int .i64 n.mode, .int .i64 n.uid, .int .i64 n.gid, .int .i64 n.links, .int .i64 n.size, .int .i64 n.tick, .slice a0 0 d0, .slice a1 n.acl.length d1, .slice a2 n.dflt.length d2] 89)
                              go_wp2
                              clear c0 c1 c2 c3 c4 c5 c6 c7 c8 c9
                              refine Fam.region (by kernel_rfl) (by kernel_rfl) ?_
                              repeat (go_big_quiet_step (fail))
                              refine wpQuiet_nil ?_
                              intro _ hw'
                              obtain ⟨nq, hw''⟩ := hw'
                              subst hw''
                              have hbq := Fam.wld_below _ nq
                              generalize Fam.wld _ nq = w9 at hbq ⊢
                              have HB9 := Lib.hid (HN.out.trans (hbq.mono HN.out.size))
                              have HX9 := Lib.hid (HXN.out.all hbq)
                              clear hbq
                              go_wp2
                              go_roundw
                              case rel => exact ⟨k + 1, by omega, by go_num, HX9.out, HB9.out, HS.out⟩
                              case measure => simp [intOf]; omega
                            · obtain ⟨L, hL⟩ : ∃ L, n.blocks.length = L + 1 := ⟨n.blocks.length - 1, by omega⟩
                              obtain ⟨X, hX, hX32, hL7⟩ := HFI.out.x hL
                              obtain ⟨b1, o1, rfl, hlt1, gB⟩ := HBL.out L (by omega)
                              have HHO := Lib.hid (fun h => last_hole (f := f) hL h)
                              have HAT := Lib.hid (fun k h => FsB.beyond_at (f := f) (k := k) hL h hX)
                              have hbk := HFI.out.blk _ (show n.blocks.getD L 0 ∈ n.blocks from FsV.mem_getD (by omega))
                              have HSZ := Lib.hid HFI.out.size
                              rw [hL] at c7
                              rw [hX] at c5
                              clear hL hX hpos HFI HBL
                              rw [← HB.out.cell (p := ⟨b1, o1 + L, none⟩) hlt1] at gB
                              have hl1 : b1 < wr.heap.size := by omega
                              generalize n.blocks.getD L 0 = bl at gB hbk HHO HAT
                              have HN := Lib.hid (HB.out.alloc hsz (.cells #[.int .i64 n.kind, .int .i64 n.mode, .int .i64 n.uid, .int .i64 n.gid, .int .i64 n.links, .int .i64 (↑X + ↑L * 32), .int .i64 n.tick, .slice (some ⟨b1, o1, none⟩) (L + 1) d0, .slice a1 n.acl.length d1, .slice a2 n.dflt.length d2] 89))
                              have HXN := Lib.hid (HX.out.alloc (.cells #[.int .i64 n.kind, .int .i64 n.mode, .int .i64 n.uid, .int .i64 n.gid, .int .i64 n.links, .int .i64 (↑X + ↑L * 32), .int .i64 n.tick, .slice (some ⟨b1, o1, none⟩) (L + 1) d0, .slice a1 n.acl.length d1, .slice a2 n.dflt.length d2] 89))
                              have HXI := Lib.hid (new wr #[.int .i64 n.kind, .int .i64 n.mode, .int .i64 n.uid, .int .i64 n.gid, .int .i64 n.links, .int .i64 (↑X + ↑L * 32), .int .i64 n.tick, .slice (some ⟨b1, o1, none⟩) (L + 1) d0, .slice a1 n.acl.length d1, .slice a2 n.dflt.length d2] 89)
                              have HWA := Lib.hid ((Below.refl wr.heap.size wr).alloc (Nat.le_refl _) (.cells #[.int .i64 n.kind, .int .i64 n.mode, .int .i64 n.uid, .int .i64 n.gid, .int .i64 n.links, .int .i64 (↑X + ↑L * 32), .int .i64 n.tick, .slice (some ⟨b1, o1, none⟩) (L + 1) d0, .slice a1 n.acl.length d1, .slice a2 n.dflt.length d2] 89))
                              by_cases hm : bl = -1
                              · subst hm
                                have HS := Lib.hid (show allTo (fun n => zB (beyond f n)) f.inodes (k + 1) = true by rw [HSU.out, HR.out, HHO.out rfl]; rfl)
                                clear hbk HSZ HAT HHO
                                go_wp2
                                clear c0 c1 c2 c3 c4 c5 c6 c7 c8 c9
                                have gB2 := HWA.out.cell (p := ⟨b1, o1 + L, none⟩) hl1
                                rw [gB] at gB2
                                have y7 := HXI.out.cell 7
                                dsimp at y7
                                clear gB
                                generalize wr.alloc (.cells #[.int .i64 n.kind, .int .i64 n.mode, .int .i64 n.uid, .int .i64 n.gid, .int .i64 n.links, .int .i64 (↑X + ↑L * 32), .int .i64 n.tick, .slice (some ⟨b1, o1, none⟩) (L + 1) d0, .slice a1 n.acl.length d1, .slice a2 n.dflt.length d2] 89) = w0 at *
                                have hsz0 := HWA.out.size
                                have z7 := Fam.cell (W := w0) (p := ⟨wr.heap.size, 7, none⟩) HXI.out.lt y7
                                have zb := Fam.cell (W := w0) (p := ⟨b1, o1 + L, none⟩) (by show b1 < _; omega) gB2
                                clear y7 gB2
                                refine Fam.region (by kernel_rfl) (by kernel_rfl) ?_
                                repeat (go_big_quiet_step (fail))
                                refine wpQuiet_nil ?_
                                intro _ hw'
                                obtain ⟨nq, hw''⟩ := hw'
                                subst hw''
                                have hbq := Fam.wld_below _ nq
                                generalize Fam.wld _ nq = w9 at hbq ⊢
                                have HB9 := Lib.hid (HN.out.trans (hbq.mono HN.out.size))
                                have HX9 := Lib.hid (HXN.out.all hbq)
                                clear hbq z7 zb
                                go_wp2
                                go_roundw
                                case rel => exact ⟨k + 1, by omega, by go_num, HX9.out, HB9.out, HS.out⟩
                                case measure => simp [intOf]; omega
                              · obtain ⟨j, rfl⟩ : ∃ j : Nat, bl = j := ⟨bl.toNat, by omega⟩
                                have hj : j < 56 := by omega
                                obtain ⟨b2, o2, rfl, hlt2, gD⟩ := HD.out j (by rw [HL3.out]; exact hj)
                                rw [← HB.out.cell (p := ⟨b2, o2 + j, none⟩) hlt2] at gD
                                have hl2 : b2 < wr.heap.size := by omega
                                have HV := Lib.hid (HAT.out j rfl)
                                have hsz2 : (f.data.getD j ⟨#[]⟩).size = 32 := HSZ.out _ (FsV.mem_getD (by rw [HL3.out]; exact hj))
                                have hm1 : ((j : Int) == -1) = false := by simp
                                have hm2 : ((j : Int) != -1) = true := by simp
                                clear hbk hm HHO HAT HSZ
                                generalize f.data.getD j ⟨#[]⟩ = s at gD hsz2 HV
                                have hs1 : (s.size : Int) = 32 := by omega
                                have HZL := Lib.hid (show (s.extract X 32).size ≤ maxLen from by unfold maxLen; rw [ByteArray.size_extract]; omega)
                                have HZC := Lib.hid (fun W => zeroes_spec (s.extract X 32) W HZL.out)
                                obtain ⟨Z, hZ⟩ : ∃ Z, zB (s.extract X 32) = Z := ⟨_, rfl⟩
                                have HZ := Lib.hid hZ
                                rw [hZ] at HZC
                                clear hZ
                                go_wp2
                                clear c0 c1 c2 c3 c4 c5 c6 c7 c8 c9
                                have gB2 := HWA.out.cell (p := ⟨b1, o1 + L, none⟩) hl1
                                rw [gB] at gB2
                                have gD2 := HWA.out.cell (p := ⟨b2, o2 + j, none⟩) hl2
                                rw [gD] at gD2
                                have y7 := HXI.out.cell 7
                                have y5 := HXI.out.cell 5
                                have y3 := HXN.out.cell 3
                                dsimp at y7 y5 y3
                                clear gB gD
                                generalize wr.alloc (.cells #[.int .i64 n.kind, .int .i64 n.mode, .int .i64 n.uid, .int .i64 n.gid, .int .i64 n.links, .int .i64 (↑X + ↑L * 32), .int .i64 n.tick, .slice (some ⟨b1, o1, none⟩) (L + 1) d0, .slice a1 n.acl.length d1, .slice a2 n.dflt.length d2] 89) = w0 at *
                                have hsz0 := HWA.out.size
                                have z7 := Fam.cell (W := w0) (p := ⟨wr.heap.size, 7, none⟩) HXI.out.lt y7
                                have z5 := Fam.cell (W := w0) (p := ⟨wr.heap.size, 5, none⟩) HXI.out.lt y5
                                have z3 := Fam.cell (W := w0) (p := ⟨w.heap.size, 3, none⟩) HXN.out.lt y3
                                have zb := Fam.cell (W := w0) (p := ⟨b1, o1 + L, none⟩) (by show b1 < _; omega) gB2
                                have zd := Fam.cell (W := w0) (p := ⟨b2, o2 + j, none⟩) (by show b2 < _; omega) gD2
                                clear y7 y5 y3 gB2 gD2
                                refine Fam.region (by kernel_rfl) (by kernel_rfl) ?_
                                cases Z
                                · repeat (go_big_quiet_step (first | (go_at_call 132; with_reducible refine Fam.calls_same (HZC.out _))))
                                  refine wpQuiet_nil ?_
                                  intro _ hw'
                                  obtain ⟨nq, hw''⟩ := hw'
                                  subst hw''
                                  have hbq := Fam.wld_below _ nq
                                  generalize Fam.wld _ nq = w9 at hbq ⊢
                                  have HB9 := Lib.hid (HN.out.trans (hbq.mono HN.out.size))
                                  have HF := Lib.hid (HNO.out (by rw [HV.out]; exact HZ.out))
                                  clear hbq z7 z5 z3 zb zd
                                  go_wp2
                                  go_ret
                                  exact ⟨ret_bool HF.out.symm, HB9.out⟩
                                · repeat (go_big_quiet_step (first | (go_at_call 132; with_reducible refine Fam.calls_same (HZC.out _))))
                                  refine wpQuiet_nil ?_
                                  intro _ hw'
                                  obtain ⟨nq, hw''⟩ := hw'
                                  subst hw''
                                  have hbq := Fam.wld_below _ nq
                                  generalize Fam.wld _ nq = w9 at hbq ⊢
                                  have HB9 := Lib.hid (HN.out.trans (hbq.mono HN.out.size))
                                  have HX9 := Lib.hid (HXN.out.all hbq)
                                  have HS := Lib.hid (show allTo (fun n => zB (beyond f n)) f.inodes (k + 1) = true by rw [HSU.out, HR.out, HV.out, HZ.out]; rfl)
                                  clear hbq z7 z5 z3 zb zd
                                  go_wp2
                                  go_roundw
                                  case rel => exact ⟨k + 1, by omega, by go_num, HX9.out, HB9.out, HS.out⟩
                                  case measure => simp [intOf]; omega
                          · obtain rfl : k = 20 := by omega
                            have HEL := Lib.hid (show elseB f = true by rw [elseB, HRA.out, ← FsV.allTo_end (fun n => zB (beyond f n)) f.inodes 20 HL2.out.symm, HR.out]; rfl)
                            have HF := Lib.hid (ok_yes HTK.out HPT.out HRT.out HO.out HEL.out)
                            go_wp2
                            go_ret
                            exact ⟨ret_bool HF.out.symm, HB.out⟩
                · have k1 : (K == 2) = false := by simpa using hk2
                  have k2 : (K != 2) = true := by simpa using hk2
                  have HF := Lib.hid (ok_no_root (f := f) (by rw [HRB.out, decide_eq_false hk2]))
                  clear hk2
                  go_wp2
                  go_ret
                  exact ⟨ret_bool HF.out.symm, HB.out⟩
      · have HF := Lib.hid (ok_no_parts (f := f) (by simp [partsB, h3]))
        rw [h1, h2]
        have q1 : ((f.data.length : Int) != 56) = true := by simp; omega
        have q2 : ((f.data.length : Int) == 56) = false := by simp; omega
        clear h1 h2 h3 HFS
        generalize f.data.length = M at *
        cases A
        all_goals
          go_enter Tryz.func73, Tryz.ntmps73
          go_wp2_with fail
          refine (HIN.out _).mono ?_
          rintro e w1 ⟨rfl, rfl⟩
          go_wp2
          go_ret
          exact ⟨ret_bool HF.out.symm, (Below.refl w.heap.size w).alloc (Nat.le_refl _) _⟩
    · have HF := Lib.hid (ok_no_parts (f := f) (by simp [partsB, h2]))
      rw [h1]
      have q1 : ((f.inodes.length : Int) != 20) = true := by simp; omega
      have q2 : ((f.inodes.length : Int) == 20) = false := by simp; omega
      clear h1 h2 HFS
      generalize f.inodes.length = M at *
      generalize f.data.length = M2 at *
      cases A
      all_goals
        go_enter Tryz.func73, Tryz.ntmps73
        go_wp2_with fail
        refine (HIN.out _).mono ?_
        rintro e w1 ⟨rfl, rfl⟩
        go_wp2
        go_ret
        exact ⟨ret_bool HF.out.symm, (Below.refl w.heap.size w).alloc (Nat.le_refl _) _⟩
  · have HF := Lib.hid (ok_no_parts (f := f) (by simp [partsB, h1]))
    have q1 : ((f.quotas.length : Int) != 4) = true := by simp; omega
    have q2 : ((f.quotas.length : Int) == 4) = false := by simp; omega
    clear h1 HFS
    generalize f.quotas.length = M0 at *
    generalize f.inodes.length = M at *
    generalize f.data.length = M2 at *
    cases A
    all_goals
      go_enter Tryz.func73, Tryz.ntmps73
      go_wp2_with fail
      refine (HIN.out _).mono ?_
      rintro e w1 ⟨rfl, rfl⟩
      go_wp2
      go_ret
      exact ⟨ret_bool HF.out.symm, (Below.refl w.heap.size w).alloc (Nat.le_refl _) _⟩
end Go.Proofs.YthppbcnejapbiaaGreatDoor.FsS

-- YthppbcnejapbiaaGreatDoorLaidN
/- What the rows' listed variable gives the walks: the table of an inode's fields reads as it is laid; and the heap that the door's run leaves meets the list. No condition of its own. -/
namespace Go.Proofs.YthppbcnejapbiaaGreatDoor.LaidN
open Go.ChangeShapes Go.WideShapes Go.ChangeAt Go.RowKit
open InOk (Vars NF)
set_option linter.unusedVariables false

theorem gN : Tryz.prog.globalNamed "loop.example/g00817/impl.numberFields" = some 0 := by kernel_rfl
theorem gNType : (Tryz.prog.globals[0]?).map (·.type) = some 239 := by kernel_rfl
def list1 : List (String × DataW Unit) := [("loop.example/g00817/impl.numberFields", Rows.laid_loop_example_g00817_impl_numberFields)]
theorem elem_of {H : Type} {enc : TypeId × Value → H} {w : World} {base : Nat} {sp : Nat → Bool} {held : Bool} {m : Nat} {a b : Int} {u v : Value} {z : DataW H × List MemPlace}
    (h : DataW.trod enc Tryz.prog w base sp held m 238 [u, v] = some z) (hz : z.1 = .agg [.lit (.int .i64 a), .lit (.int .i64 b)]) : u = .int .i64 a ∧ v = .int .i64 b := by
  obtain ⟨y0, y1, n, rfl, hl, h0, h1⟩ := trod_struct2 Tryz.underlying238 h
  have hci : Tryz.prog.cellsOf 3 = 1 := by kernel_rfl
  obtain ⟨i0, e0, rfl, _⟩ := DataW.trod_int Tryz.underlying3 h0
  obtain ⟨i1, e1, rfl, _⟩ := DataW.trod_int Tryz.underlying3 h1
  simp only [DataW.agg.injEq, List.cons.injEq, DataW.lit.injEq, Lit.int.injEq, true_and, and_true] at hz
  obtain ⟨rfl, rfl⟩ := hz
  exact ⟨by simpa [hci] using e0, by simpa [hci] using e1⟩
set_option maxRecDepth 100000 in
theorem cells_of {H : Type} {enc : TypeId × Value → H} {w : World} {base : Nat} {sp : Nat → Bool} {held : Bool} {fuel : Nat} {cs : List Value} {p : List MemPlace}
    (h : DataW.trod enc Tryz.prog w base sp held fuel 239 cs = some (Rows.laid_loop_example_g00817_impl_numberFields, p)) : cs = NF.map (Value.int .i64) := by
  obtain ⟨xs, m, rfl, hx, hl, hxl, hf⟩ := DataW.trod_array Tryz.underlying239 h
  rw [show Tryz.prog.cellsOf 239 = 14 from by kernel_rfl] at hl
  rw [show Tryz.prog.cellsOf 238 = 2 from by kernel_rfl] at hf
  obtain ⟨z0, z1, z2, z3, z4, z5, z6, rfl⟩ : ∃ z0 z1 z2 z3 z4 z5 z6, xs = [z0, z1, z2, z3, z4, z5, z6] := by
    match xs, hxl with
    | [z0, z1, z2, z3, z4, z5, z6], _ => exact ⟨_, _, _, _, _, _, _, rfl⟩
  obtain ⟨c0, c1, c2, c3, c4, c5, c6, c7, c8, c9, ca, cb, cc, cd, rfl⟩ : ∃ c0 c1 c2 c3 c4 c5 c6 c7 c8 c9 ca cb cc cd, cs = [c0, c1, c2, c3, c4, c5, c6, c7, c8, c9, ca, cb, cc, cd] := by
    match cs, hl with
    | [c0, c1, c2, c3, c4, c5, c6, c7, c8, c9, ca, cb, cc, cd], _ => exact ⟨_, _, _, _, _, _, _, _, _, _, _, _, _, _, rfl⟩
  have hx1 := congrArg Prod.fst hx
  simp only [Rows.laid_loop_example_g00817_impl_numberFields, List.map_cons, List.map_nil, DataW.agg.injEq, List.cons.injEq, and_true] at hx1
  obtain ⟨q0, q1, q2, q3, q4, q5, q6⟩ := hx1
  obtain ⟨rfl, rfl⟩ := elem_of (hf 0 (by omega)) q0.symm
  obtain ⟨rfl, rfl⟩ := elem_of (hf 1 (by omega)) q1.symm
  obtain ⟨rfl, rfl⟩ := elem_of (hf 2 (by omega)) q2.symm
  obtain ⟨rfl, rfl⟩ := elem_of (hf 3 (by omega)) q3.symm
  obtain ⟨rfl, rfl⟩ := elem_of (hf 4 (by omega)) q4.symm
  obtain ⟨rfl, rfl⟩ := elem_of (hf 5 (by omega)) q5.symm
  obtain ⟨rfl, rfl⟩ := elem_of (hf 6 (by omega)) q6.symm
  rfl
theorem vars_of {W : World} (h : laidMetH Tryz.prog list1 W) : Vars W := by
  rw [MakeChecks.laidMetH_plain _ _ _ (by kernel_rfl)] at h
  obtain ⟨ps, ⟨g', t', cs, fuel, p, q, hg', ht', hvar, hd, _, _⟩, _⟩ := h
  obtain rfl := Option.some.inj (gN.symm.trans hg')
  obtain rfl := Option.some.inj (gNType.symm.trans ht')
  have hcs := cells_of hd
  have hc : ∀ j, j < 14 → W.cell? ⟨0, j, none⟩ = some (.int .i64 (NF.getD j 0)) := by
    intro j hj
    have := World.var?_cell gN hvar j
    rw [this, ← Array.getElem?_toList, hcs, List.getElem?_map]
    have hl : j < NF.length := by simpa [NF] using hj
    rw [List.getElem?_eq_getElem hl, List.getD_eq_getElem?_getD, List.getElem?_eq_getElem hl]; rfl
  refine ⟨?_, hc⟩
  have := hc 0 (by omega)
  simp only [World.cell?] at this
  split at this
  · rename_i heq; exact (Array.getElem?_eq_some_iff.1 heq).1
  · cases this
end Go.Proofs.YthppbcnejapbiaaGreatDoor.LaidN

-- YthppbcnejapbiaaGreatDoorLaidM
/- What the rows' listed variables give the walks, where the table of an inode's fields stands among the library's tables: it reads as it is laid. No condition of its own. -/
namespace Go.Proofs.YthppbcnejapbiaaGreatDoor.LaidM
open Go.ChangeShapes Go.WideShapes Go.ChangeAt Go.RowKit
open InOk (Vars NF)
open LaidN (gN gNType cells_of)
set_option linter.unusedVariables false

def list3 : List (String × DataW Unit) := [("unicode/utf8.acceptRanges", Rows.laid_unicode_utf8_acceptRanges), ("loop.example/g00817/impl.numberFields", Rows.laid_loop_example_g00817_impl_numberFields), ("unicode/utf8.first", Rows.laid_unicode_utf8_first)]
theorem vars_at {W : World} {rest : List (String × DataW Unit)} (h : laidMet Tryz.prog (("loop.example/g00817/impl.numberFields", Rows.laid_loop_example_g00817_impl_numberFields) :: rest) W) : Vars W := by
  obtain ⟨ps, ⟨g', t', cs, fuel, p, q, hg', ht', hvar, hd, _, _⟩, _⟩ := h
  obtain rfl := Option.some.inj (gN.symm.trans hg')
  obtain rfl := Option.some.inj (gNType.symm.trans ht')
  have hcs := cells_of hd
  have hc : ∀ j, j < 14 → W.cell? ⟨0, j, none⟩ = some (.int .i64 (NF.getD j 0)) := by
    intro j hj
    have := World.var?_cell gN hvar j
    rw [this, ← Array.getElem?_toList, hcs, List.getElem?_map]
    have hl : j < NF.length := by simpa [NF] using hj
    rw [List.getElem?_eq_getElem hl, List.getD_eq_getElem?_getD, List.getElem?_eq_getElem hl]; rfl
  refine ⟨?_, hc⟩
  have := hc 0 (by omega)
  simp only [World.cell?] at this
  split at this
  · rename_i heq; exact (Array.getElem?_eq_some_iff.1 heq).1
  · cases this
theorem vars_of {W : World} (h : laidMetH Tryz.prog list3 W) : Vars W := by
  rw [MakeChecks.laidMetH_plain _ _ _ (by kernel_rfl)] at h
  exact vars_at (laidMet.tail h)
end Go.Proofs.YthppbcnejapbiaaGreatDoor.LaidM

-- YthppbcnejapbiaaGreatDoorKitV
/- A law's call returned true and left every block below the old heap's size as it was; then the row's post holds, named variables and all. No condition. -/
namespace Go.Proofs.YthppbcnejapbiaaGreatDoor.KitV
open Go.ChangeShapes Go.WideShapes Go.ChangeAt Go.RowKit
set_option linter.unusedVariables false

theorem vars_length {H : Type} {enc : TypeId × Value → H} {P : Program} {W : World} {sp : Nat → Bool} : ∀ {ns : List String} {gs : List (DataW H)} {ps : List MemPlace}, DataW.TrodVars enc P W sp ns gs ps → gs.length = ns.length
  | [], [], _, _ => rfl
  | [], _ :: _, _, h => h.elim
  | _ :: _, [], _, h => h.elim
  | n :: ns, d :: ds, ps, h => by
    obtain ⟨g, t, cs, fuel, p, q, h1, h2, h3, h4, hs, e⟩ := h
    simp [vars_length hs]
theorem all_length {H : Type} {enc : TypeId × Value → H} {P : Program} {W : World} {b : Nat} {sp : Nat → Bool} {hh : Bool} : ∀ (ts : List TypeId) (vs : List Value) (ds : List (DataW H)) (ps : List MemPlace), DataW.TrodAll enc P W b sp hh ts vs ds ps → ds.length = ts.length := by
  intro ts
  induction ts with
  | nil => intro vs ds ps h; cases vs <;> cases ds <;> first | rfl | exact h.elim
  | cons t ts ih =>
    intro vs ds ps h
    cases vs with
    | nil => cases ds <;> exact h.elim
    | cons v vs =>
      cases ds with
      | nil => exact h.elim
      | cons d ds => obtain ⟨p, q, _, h1, _⟩ := h; simp [ih _ _ _ h1]
/-- THE LAW's POST, where the row names variables. -/
theorem law_post {H : Type} {enc : TypeId × Value → H} {P : Program} {f : Func} {s : ChangeSpec} {T : TypeId} {W W' : World} {args : Array Value} {ds gs : List (DataW H)} {before : List MemPlace}
    (hl : laidOutB P = true) (hr0 : (f.params.toList.all fun t => P.readableRec t && decide (t < P.types.size)) = true) (hv : varsRowed P s.vars = true) (hT : P.underlying T = some .bool)
    (hres : f.resultTypes = #[T])
    (hs : ∀ (H : Type) (ds gs : List (DataW H)), ds.length = f.params.toList.length → gs.length = s.vars.length → s.fn H (ds ++ gs) = { results := [.lit (.bool true)], args := ds, vars := gs })
    (hW : DataW.Whole enc P f.params.toList s.vars false W args.toList ds gs before)
    (hb : Below W.heap.size W W') :
    s.post enc P f false true false false W args (.bool true) W' := by
  have hW0 := hW
  have hr : ∀ t ∈ f.params.toList, P.readableRec t = true ∧ t < P.types.size := by
    intro t ht
    have := List.all_eq_true.1 hr0 t ht
    simpa using this
  obtain ⟨p, q, hA, hV, hpq, hfz, hnd⟩ := hW
  have hfn := hs H ds gs (all_length _ _ _ _ hA) (vars_length hV)
  refine ⟨ds, gs, before, [], p, q, hW0, ?_, ?_, ?_, hb.frame _, fun h => by cases h⟩
  · rw [hfn, hres]
    exact trodAll_mk1 (shut_bool hT _)
  · rw [hfn]
    exact Kit.trodAll_below hl hb _ _ _ _ hr hA
  · rw [hfn]
    exact Below.trodVars hl hb hv hV
end Go.Proofs.YthppbcnejapbiaaGreatDoor.KitV

-- YthppbcnejapbiaaGreatDoorSpR
/- Contracts and plain facts that a law of this seat leans on. Conditions: as each theorem types them. -/
namespace Go.Proofs.YthppbcnejapbiaaGreatDoor.SpR
open Go.ChangeShapes Go.WideShapes Go.ChangeAt Go.RowKit
open Foot Bx
open InoV (I)
open FsV (F okF e0 z32)
open FsY FsZ CoC
open Dk (ret_bool)
set_option linter.unusedVariables false

theorem ret_str {a b : ByteArray} (h : a = b) : Ending.returned (.string a) = .returned (.string b) := by rw [h]
set_option maxRecDepth 100000 in
set_option maxHeartbeats 1600000 in
theorem use_spec (w : World) (v : Value) (f : F) (i : Int) (hc : FsF.cost f ≤ 1073741824) (hl : FsF.Lim f) (h : FsF.Holds w v f) :
    Calls Tryz.prog 77 #[v, .int .i64 i] w fun e w' => e = .returned (.bool (hasObjB f i)) ∧ Below w.heap.size w w' := by
  have HFS := Lib.hid h
  have HCC := Lib.hid hc
  have HLM := Lib.hid hl
  obtain ⟨r0, r1, r2, rfl, g0, g1, g2⟩ := h
  have HI1 := Lib.hid g1
  obtain ⟨qa, qc, rfl⟩ := QF.form g0
  obtain ⟨ia, ic, rfl⟩ := IF.form g1
  obtain ⟨da, dc, rfl⟩ := SF.form g2
  clear g0 g1 g2 hc hl
  obtain ⟨T, hT⟩ : ∃ T, T = f.tick := ⟨_, rfl⟩
  obtain ⟨Q, hQ⟩ : ∃ Q, Q = f.quotas.length := ⟨_, rfl⟩
  obtain ⟨M, hM⟩ : ∃ M, M = f.inodes.length := ⟨_, rfl⟩
  obtain ⟨D, hD⟩ : ∃ D, D = f.data.length := ⟨_, rfl⟩
  rw [← hT, ← hQ, ← hM, ← hD] at HFS ⊢
  rw [← hM] at HI1
  have HM := Lib.hid hM
  clear hT hQ hM hD
  have HB0 := Lib.hid ((Below.refl w.heap.size w).alloc (Nat.le_refl _) (.cells #[.int .i64 T, .slice qa Q qc, .slice ia M ic, .slice da D dc] 33))
  have HX0 := Lib.hid (new w #[.int .i64 T, .slice qa Q qc, .slice ia M ic, .slice da D dc] 33)
  obtain ⟨C, hC⟩ : ∃ C, C = okF f := ⟨_, rfl⟩
  have HIS := Lib.hid (fun W v (hF : FsF.Holds W v f) => show Calls Tryz.prog 73 #[v] W fun e w' => e = .returned (.bool C) ∧ Below W.heap.size W w' from by rw [hC]; exact FsS.is_spec W v f HCC.out HLM.out hF)
  have HCE := Lib.hid hC
  obtain ⟨A, hA⟩ : ∃ A, (decide ((0 : Int) ≤ i) && decide (i ≤ 19)) = A := ⟨_, rfl⟩
  have HIN := Lib.hid (fun W => FsS.in_any i 0 19 hA W)
  cases C
  · have HF := Lib.hid (show hasObjB f i = false from by unfold hasObjB; rw [← hC, Bool.and_false]; rfl)
    clear hC hA
    go_enter Tryz.func77, Tryz.ntmps77
    go_wp2_with fail
    refine (HIS.out _ _ (FsF.holds_below HFS.out HB0.out)).mono ?_
    rintro e w1 ⟨rfl, hb⟩
    have HB1 := Lib.hid (HB0.out.trans (hb.mono HB0.out.size))
    clear hb
    go_wp2
    go_ret
    exact ⟨ret_bool HF.out.symm, HB1.out⟩
  · cases A
    · have HF := Lib.hid (show hasObjB f i = false from by unfold hasObjB; rw [hA]; rfl)
      clear hC hA
      go_enter Tryz.func77, Tryz.ntmps77
      go_wp2_with fail
      refine (HIS.out _ _ (FsF.holds_below HFS.out HB0.out)).mono ?_
      rintro e w1 ⟨rfl, hb⟩
      have HB1 := Lib.hid (HB0.out.trans (hb.mono HB0.out.size))
      clear hb
      go_wp2_with fail
      refine (HIN.out _).mono ?_
      rintro e w2 ⟨rfl, rfl⟩
      go_wp2
      go_ret
      exact ⟨ret_bool HF.out.symm, HB1.out⟩
    · have hb2 := hA
      rw [Bool.and_eq_true, decide_eq_true_eq, decide_eq_true_eq] at hb2
      obtain ⟨k, rfl⟩ : ∃ k : Nat, i = k := ⟨i.toNat, by omega⟩
      have hk : k < 20 := by omega
      have HVV := Lib.hid (show hasObjB f k = !decide ((ino f k).kind = 0) from by unfold hasObjB; rw [hA, ← hC]; rfl)
      have hM20 : M = 20 := by rw [HM.out]; exact (FsV.parts_of (FsV.ok_parts hC.symm).2.1).2.1
      clear hC hA hb2
      subst hM20
      obtain ⟨a9, c9, e9, l9, hat⟩ := HI1.out
      rw [Value.slice.injEq] at e9
      obtain ⟨rfl, e8, rfl⟩ := e9
      clear e8 l9
      obtain ⟨b, o, rfl, hb, r0, r1, r2, hCl, hP⟩ := hat k (by rw [← HM.out]; exact hk)
      have hc0 := hCl.1
      rw [show f.inodes.getD k IF.z0 = ino f k from rfl] at hc0
      have HHB := Lib.hid hb
      clear hat hCl hP hb
      obtain ⟨K, hK⟩ : ∃ K, K = (ino f k).kind := ⟨_, rfl⟩
      rw [← hK] at hc0 HVV
      clear hK
      have HC0 := Lib.hid hc0
      have hk0 : (0 : Int) ≤ k := by omega
      have hk1 : (k : Int) < 20 := by omega
      clear hc0
      go_enter Tryz.func77, Tryz.ntmps77
      go_wp2_with fail
      refine (HIS.out _ _ (FsF.holds_below HFS.out HB0.out)).mono ?_
      rintro e w1 ⟨rfl, hb⟩
      have HB1 := Lib.hid (HB0.out.trans (hb.mono HB0.out.size))
      have HX1 := Lib.hid (HX0.out.all hb)
      clear hb
      go_wp2_with fail
      refine (HIN.out _).mono ?_
      rintro e w2 ⟨rfl, rfl⟩
      obtain ⟨x0, x1, x2, x3⟩ := Bk.c4 HX1.out
      have c0 := HB1.out.cell (p := ⟨b, o + k * 10, none⟩) HHB.out
      rw [HC0.out] at c0
      by_cases hz : K = 0
      · have HF := Lib.hid (show hasObjB f k = false from by rw [HVV.out, decide_eq_true hz]; rfl)
        subst hz
        go_wp2
        go_ret
        exact ⟨ret_bool HF.out.symm, HB1.out⟩
      · have HF := Lib.hid (show hasObjB f k = true from by rw [HVV.out, decide_eq_false hz]; rfl)
        have z1 : (K != 0) = true := by simpa using hz
        have z2 : (K == 0) = false := by simpa using hz
        clear hz
        go_wp2
        go_ret
        exact ⟨ret_bool HF.out.symm, HB1.out⟩

/-- A cut of a string. -/
def cutV (s : ByteArray) (a n : Int) : ByteArray := if 0 ≤ a ∧ 0 ≤ n ∧ a < s.size then ⟨((s.data.toList.drop a.toNat).take n.toNat).toArray⟩ else e0
theorem ext_list (s : ByteArray) (a b : Nat) : s.extract a b = ⟨((s.data.toList.drop a).take (b - a)).toArray⟩ := by
  apply ByteArray.ext
  apply Array.toList_inj.1
  rw [ByteArray.data_extract, Array.toList_extract, List.extract_eq_take_drop]
theorem cut_all {s : ByteArray} {k : Nat} {n : Int} (hk : k < s.size) (hn : 0 ≤ n) (h : ((s.size - k : Nat) : Int) ≤ n) : cutV s k n = s.extract k s.size := by
  have hl : s.data.toList.length = s.size := by simp
  rw [cutV, if_pos ⟨by omega, hn, by omega⟩, ext_list, show ((k : Nat) : Int).toNat = k from rfl, List.take_of_length_le (by rw [List.length_drop]; omega), List.take_of_length_le (by rw [List.length_drop]; omega)]
/-- An inode's bytes. -/
def textV (d : List ByteArray) (n : I) : ByteArray := ⟨((cont d n.blocks).take n.size.toNat).toArray⟩
theorem str_app (l : List UInt8) (s : ByteArray) : (⟨l.toArray⟩ : ByteArray) ++ s = ⟨(l ++ s.data.toList).toArray⟩ := by
  apply ByteArray.ext
  apply Array.toList_inj.1
  rw [ByteArray.data_append, Array.toList_append]
theorem z32_list : z32.data.toList = Z 32 := rfl
theorem arr_size (l : List UInt8) : (⟨l.toArray⟩ : ByteArray).size = l.length := by show l.toArray.size = _; simp
set_option maxRecDepth 100000 in
set_option maxHeartbeats 6400000 in
theorem text_spec (w : World) (vf vn : Value) (f : F) (n : I) (h8 : Ok8 f.data n.blocks) (h0 : 0 ≤ n.size) (hF : FsF.Holds w vf f) (hN : In.Holds w vn n) :
    Calls Tryz.prog 101 #[vf, vn] w fun e w' => e = .returned (.string (textV f.data n)) ∧ Below w.heap.size w w' := by
  have H8 := Lib.hid h8
  obtain ⟨r0, r1, r2, rfl, g0, g1, g2⟩ := hF
  obtain ⟨qa, qc, rfl⟩ := QF.form g0
  obtain ⟨ia, ic, rfl⟩ := IF.form g1
  obtain ⟨da, dc, rfl, hD⟩ := g2
  have hD56 := h8.len
  obtain ⟨bd, od, rfl, hbd, hDat⟩ := hD (by intro e; rw [e] at hD56; simp at hD56)
  obtain ⟨s0, s1, s2, rfl, k0, k1, k2⟩ := hN
  obtain ⟨a, c, rfl, _, hB⟩ := k0
  obtain ⟨a1, d1, rfl⟩ := AeF.form k1
  obtain ⟨a2, d2, rfl⟩ := AeF.form k2
  have HBL := Lib.hid hB
  have HDat := Lib.hid hDat
  have HHD := Lib.hid hbd
  rw [hD56]
  obtain ⟨T, hT⟩ : ∃ T, T = f.tick := ⟨_, rfl⟩
  obtain ⟨Q, hQ⟩ : ∃ Q, Q = f.quotas.length := ⟨_, rfl⟩
  obtain ⟨M, hM⟩ : ∃ M, M = f.inodes.length := ⟨_, rfl⟩
  rw [← hT, ← hQ, ← hM]
  clear g0 g1 hD k1 k2 hB hDat hbd hD56 h8 hT hQ hM
  obtain ⟨z, hz⟩ : ∃ z : Nat, n.size = z := ⟨n.size.toNat, by omega⟩
  have HTX := Lib.hid (show textV f.data n = ⟨((cont f.data n.blocks).take z).toArray⟩ by rw [textV, hz]; rfl)
  rw [HTX.out]
  rw [hz]
  clear hz h0
  obtain ⟨bs, hbs⟩ : ∃ bs, bs = n.blocks := ⟨_, rfl⟩
  rw [← hbs] at H8 HBL ⊢
  clear hbs HTX
  obtain ⟨L, hL⟩ : ∃ L, L = bs.length := ⟨_, rfl⟩
  rw [← hL] at HBL ⊢
  have hL8 : L ≤ 8 := by rw [hL]; exact H8.out.eight
  have HL := Lib.hid hL
  clear hL
  obtain ⟨K0, K1, K2, K3, K4, K6, A1, A2, hK⟩ : ∃ K0 K1 K2 K3 K4 K6 A1 A2, K0 = n.kind ∧ K1 = n.mode ∧ K2 = n.uid ∧ K3 = n.gid ∧ K4 = n.links ∧ K6 = n.tick ∧ A1 = n.acl.length ∧ A2 = n.dflt.length := ⟨_, _, _, _, _, _, _, _, rfl, rfl, rfl, rfl, rfl, rfl, rfl, rfl⟩
  obtain ⟨k0, k1, k2, k3, k4, k6, k7, k8⟩ := hK
  rw [← k0, ← k1, ← k2, ← k3, ← k4, ← k6, ← k7, ← k8]
  clear k0 k1 k2 k3 k4 k6 k7 k8
  have HB0 := Lib.hid (((Below.refl w.heap.size w).alloc (Nat.le_refl _) (.cells #[.int .i64 T, .slice qa Q qc, .slice ia M ic, .slice (some ⟨bd, od, none⟩) 56 dc] 33)).alloc (by simp) (.cells #[.int .i64 K0, .int .i64 K1, .int .i64 K2, .int .i64 K3, .int .i64 K4, .int .i64 z, .int .i64 K6, .slice a L c, .slice a1 A1 d1, .slice a2 A2 d2] 89))
  have HX0 := Lib.hid ((new w #[.int .i64 T, .slice qa Q qc, .slice ia M ic, .slice (some ⟨bd, od, none⟩) 56 dc] 33).alloc (.cells #[.int .i64 K0, .int .i64 K1, .int .i64 K2, .int .i64 K3, .int .i64 K4, .int .i64 z, .int .i64 K6, .slice a L c, .slice a1 A1 d1, .slice a2 A2 d2] 89))
  have HY0 := Lib.hid (new_at (w.alloc (.cells #[.int .i64 T, .slice qa Q qc, .slice ia M ic, .slice (some ⟨bd, od, none⟩) 56 dc] 33)) #[.int .i64 K0, .int .i64 K1, .int .i64 K2, .int .i64 K3, .int .i64 K4, .int .i64 z, .int .i64 K6, .slice a L c, .slice a1 A1 d1, .slice a2 A2 d2] 89 (w.heap.size + 1) (by simp))
  go_enter Tryz.func101, Tryz.ntmps101
  go_wp2
  generalize (w.alloc (.cells #[.int .i64 T, .slice qa Q qc, .slice ia M ic, .slice (some ⟨bd, od, none⟩) 56 dc] 33)).alloc (.cells #[.int .i64 K0, .int .i64 K1, .int .i64 K2, .int .i64 K3, .int .i64 K4, .int .i64 z, .int .i64 K6, .slice a L c, .slice a1 A1 d1, .slice a2 A2 d2] 89) = w0 at *
  go_loopw [5, 11] (fun sv jv wr => ∃ (j : Nat) (s : ByteArray), j ≤ L ∧ jv = .int .i64 j ∧ sv = .string s ∧ s = ⟨(cont f.data (bs.take j)).toArray⟩ ∧ Bk wr w.heap.size #[.int .i64 T, .slice qa Q qc, .slice ia M ic, .slice (some ⟨bd, od, none⟩) 56 dc] 33 ∧ Bk wr (w.heap.size + 1) #[.int .i64 K0, .int .i64 K1, .int .i64 K2, .int .i64 K3, .int .i64 K4, .int .i64 z, .int .i64 K6, .slice a L c, .slice a1 A1 d1, .slice a2 A2 d2] 89 ∧ Below w.heap.size w wr) (fun _ jv _ => L - (intOf jv).toNat)
  case atStart => exact ⟨0, _, Nat.zero_le _, rfl, rfl, by simp [cont], HX0.out, HY0.out, HB0.out⟩
  case round =>
    obtain ⟨j, s, hj, rfl, rfl, hs, hx, hy, hb⟩ := hrel
    have HS := Lib.hid hs
    have HX := Lib.hid hx
    have HY := Lib.hid hy
    have HB := Lib.hid hb
    clear hx hy hb HB0 HX0 HY0
    have hssz : s.size = 32 * j := by rw [hs, arr_size, H8.out.tk j (by rw [← HL.out]; exact hj)]
    have hssz2 : s.size ≤ 256 := by omega
    have HSS := Lib.hid hssz
    clear hs hssz
    by_cases hlt : j < L
    · have hjl : j < bs.length := by rw [← HL.out]; exact hlt
      obtain ⟨bb, ob, rfl, hbb, hcb⟩ := HBL.out j hlt
      have cb := HB.out.cell (p := ⟨bb, ob + j, none⟩) hbb
      rw [hcb] at cb
      have hir := H8.out.inr _ (FsV.mem_getD (z := 0) hjl)
      have HCT := Lib.hid (cont_take (d := f.data) hjl)
      clear hcb hbb
      generalize bs.getD j 0 = b at cb hir HCT
      by_cases hm : b = -1
      · subst hm
        have HN := Lib.hid (show s ++ z32 = ⟨(cont f.data (bs.take (j + 1))).toArray⟩ from by rw [HS.out, str_app, z32_list, HCT.out, one, if_pos rfl])
        have hz0 : (9223372036854775807 < s.size + z32.size) = False := by
          have : z32.size = 32 := rfl
          rw [this]; exact eq_false (by omega)
        go_wp2_with fail
        refine (PadTo.spec_any ⟨#[]⟩ 32 _ (by decide)).mono ?_
        rintro e w1 ⟨rfl, hb⟩
        rw [show PadTo.padB ⟨#[]⟩ 32 = z32 from rfl]
        have HX1 := Lib.hid (HX.out.all hb)
        have HY1 := Lib.hid (HY.out.all hb)
        have HB1 := Lib.hid (HB.out.trans (hb.mono HB.out.size))
        clear hb cb
        go_wp2
        go_roundw
        case rel => exact ⟨j + 1, _, by omega, by go_num, rfl, HN.out, HX1.out, HY1.out, HB1.out⟩
        case measure => simp [intOf]; omega
      · obtain ⟨k, rfl⟩ : ∃ k : Nat, b = k := ⟨b.toNat, by omega⟩
        have hk : k < 56 := by omega
        have hcd := HDat.out k (by rw [H8.out.len]; exact hk)
        have hsz32 : (f.data.getD k e0).size = 32 := H8.out.sz _ (FsV.mem_getD (by rw [H8.out.len]; exact hk))
        have HN := Lib.hid (show s ++ f.data.getD k e0 = ⟨(cont f.data (bs.take (j + 1))).toArray⟩ from by rw [HS.out, str_app, HCT.out, one, if_neg hm]; rfl)
        have cd := HB.out.cell (p := ⟨bd, od + k, none⟩) HHD.out
        rw [hcd] at cd
        rw [show (⟨#[]⟩ : ByteArray) = e0 from rfl] at cd
        have hz0 : (9223372036854775807 < s.size + (f.data.getD k e0).size) = False := by rw [hsz32]; exact eq_false (by omega)
        have q1 : ((k : Int) == -1) = false := by simp
        have q2 : ((k : Int) != -1) = true := by simp
        clear hcd hsz32 hm hir HCT
        generalize f.data.getD k e0 = t at cd HN hz0
        obtain ⟨x0, x1, x2, x3⟩ := Bk.c4 HX.out
        have hk0 : (0 : Int) ≤ k := by omega
        have hk1 : (k : Int) < 56 := by omega
        go_wp2
        go_roundw
        case rel => exact ⟨j + 1, _, by omega, by go_num, rfl, HN.out, HX.out, HY.out, HB.out⟩
        case measure => simp [intOf]; omega
    · obtain rfl : j = L := by omega
      have HE := Lib.hid (show s = ⟨(cont f.data bs).toArray⟩ from by rw [HS.out, HL.out, List.take_length])
      obtain ⟨y0, y1, y2, y3, y4, y5, y6, y7, y8, y9⟩ := Bk.c10 HY.out
      by_cases hzs : z < s.size
      · have HR := Lib.hid (show s.extract 0 z = ⟨((cont f.data bs).take z).toArray⟩ from by rw [ext_list, HE.out]; simp)
        go_wp2
        go_ret
        exact ⟨ret_str HR.out, HB.out⟩
      · have HR := Lib.hid (show s = ⟨((cont f.data bs).take z).toArray⟩ from by rw [HE.out, List.take_of_length_le (by have := HE.out; rw [this, arr_size] at hzs; omega)])
        go_wp2
        go_ret
        exact ⟨ret_str HR.out, HB.out⟩
end Go.Proofs.YthppbcnejapbiaaGreatDoor.SpR
