/- Contracts: the program's isQuota and hasValidParts. Conditions: as each theorem types them. -/
import Derived.Test.YtafmpllkehbmeaaGreatDoorFsF
import Derived.Test.YtafmpllkehbmeaaGreatDoorFsO
import Derived.Test.YtafmpllkehbmeaaGreatDoorInOk
import Derived.Test.YtafmpllkehbmeaaGreatDoorInOs
namespace Go.Proofs.YtafmpllkehbmeaaGreatDoor.FsP
open Go.ChangeShapes Go.WideShapes Go.ChangeAt Go.RowKit
open Foot Bx
open FsV (F quB ownerV partsB allTo)
open Dk (ret_bool)
open Strs (ret_int)
set_option linter.unusedVariables false

set_option maxRecDepth 100000 in
set_option maxHeartbeats 1600000 in
theorem quota_impl (q : Int × Int) (w : World) :
    Calls Tryz.prog 140 #[.agg #[.int .i64 q.1, .int .i64 q.2]] w fun e w' => e = .returned (.bool (quB q)) ∧ Below w.heap.size w w' := by
  obtain ⟨a, b⟩ := q
  have HB := Lib.hid ((Below.refl w.heap.size w).alloc (Nat.le_refl _) (.cells #[.int .i64 a, .int .i64 b] 93))
  unfold quB
  dsimp only
  cases h1 : decide (0 ≤ a) <;> cases h2 : decide (a ≤ 5) <;> cases h3 : decide (0 ≤ b) <;> cases h4 : decide (b ≤ 14)
  all_goals
    go_enter Tryz.func140, Tryz.ntmps140
    go_wp2
    go_ret
    exact ⟨rfl, HB.out⟩

theorem parts_quo {f : F} (h : f.quotas.all quB = false) : partsB f = false := by simp [partsB, h]
theorem parts_ino {f : F} (h : f.inodes.all InoV.okI = false) : partsB f = false := by simp [partsB, h]
theorem parts_dat {f : F} (h : f.data.all (fun s => decide (s.size = 32)) = false) : partsB f = false := by simp [partsB, h]
/-- An inode's integers and lists are in range, its cost is within the whole's. -/
theorem lim_at {f : F} (hl : FsF.Lim f) {i : Nat} (hi : i < f.inodes.length) : In.Lim (f.inodes.getD i InoV.zero) := hl.inodes.2 _ (FsV.mem_getD hi)
theorem cost_at {f : F} (hc : FsF.cost f ≤ 1073741824) {i : Nat} (hi : i < f.inodes.length) : In.cost (f.inodes.getD i InoV.zero) ≤ 1073741824 :=
  Nat.le_trans (IF.cost_at hi) (Nat.le_trans (Nat.le_trans (Nat.le_add_left _ _) (FsF.le_inodes f)) hc)
theorem size_at {f : F} (hl : FsF.Lim f) {i : Nat} (hi : i < f.data.length) : (f.data.getD i ⟨#[]⟩).size ≤ maxLen := hl.data.2 _ (FsV.mem_getD hi)

set_option maxRecDepth 100000 in
set_option maxHeartbeats 3200000 in
theorem parts_impl (w : World) (v : Value) (f : F) (hc : FsF.cost f ≤ 1073741824) (hl : FsF.Lim f) (hv : InOk.Vars w) (h : FsF.Holds w v f) :
    Calls Tryz.prog 73 #[v] w fun e w' => e = .returned (.bool (partsB f)) ∧ Below w.heap.size w w' := by
  have HCA := Lib.hid (fun i (hi : i < f.inodes.length) => cost_at hc hi)
  have HLA := Lib.hid (fun i (hi : i < f.inodes.length) => lim_at hl hi)
  have HSA := Lib.hid (fun i (hi : i < f.data.length) => size_at hl hi)
  have HV := Lib.hid hv
  obtain ⟨r0, r1, r2, rfl, g0, g1, g2⟩ := h
  obtain ⟨qa, qc, rfl, hQ⟩ := Qt.atL g0
  obtain ⟨ia, ic, rfl, _, hI⟩ := IF.atL g1
  obtain ⟨da, dc, rfl, hD⟩ := g2
  have HQ := Lib.hid hQ
  have HI := Lib.hid hI
  have HD := Lib.hid (show ∀ i, i < f.data.length → ∃ b o, da = some ⟨b, o, none⟩ ∧ b < w.heap.size ∧ w.cell? ⟨b, o + i, none⟩ = some (.string (f.data.getD i ⟨#[]⟩)) from fun i hi => by
    obtain ⟨b, o, e, hlt, hcell⟩ := hD (by intro e; rw [e] at hi; simp at hi)
    exact ⟨b, o, e, hlt, hcell i hi⟩)
  have HNQ := Lib.hid (fun h => parts_quo (f := f) h)
  have HNI := Lib.hid (fun h => parts_ino (f := f) h)
  have HND := Lib.hid (fun h => parts_dat (f := f) h)
  have hlq : f.quotas.length ≤ 1073741824 := Nat.le_trans (FsF.le_quotas f) hc
  have hli : f.inodes.length ≤ 1073741824 := Nat.le_trans (Nat.le_trans (Nat.le_add_right _ _) (FsF.le_inodes f)) hc
  have hld : f.data.length ≤ 1073741824 := Nat.le_trans (Nat.le_trans (Nat.le_add_right _ _) (FsF.le_data f)) hc
  clear g0 g1 hQ hI hD hc hl hv
  by_cases h1 : f.quotas.length = 4
  · by_cases h2 : f.inodes.length = 20
    · by_cases h3 : f.data.length = 56
      · have HL1 := Lib.hid h1
        have HL2 := Lib.hid h2
        have HL3 := Lib.hid h3
        rw [h1, h2, h3]
        clear h1 h2 h3 hlq hli hld
        obtain ⟨T, hT⟩ : ∃ T, T = f.tick := ⟨_, rfl⟩
        rw [← hT]
        clear hT
        have HB0 := Lib.hid ((Below.refl w.heap.size w).alloc (Nat.le_refl _) (.cells #[.int .i64 T, .slice qa 4 qc, .slice ia 20 ic, .slice da 56 dc] 27))
        have HX0 := Lib.hid (new w #[.int .i64 T, .slice qa 4 qc, .slice ia 20 ic, .slice da 56 dc] 27)
        go_enter Tryz.func73, Tryz.ntmps73
        go_wp2
        go_loopw [28] (fun iv wr => ∃ k : Nat, k ≤ 4 ∧ iv = .int .i64 k ∧ Bk wr w.heap.size #[.int .i64 T, .slice qa 4 qc, .slice ia 20 ic, .slice da 56 dc] 27 ∧ Below w.heap.size w wr ∧ allTo quB f.quotas k = true) (fun iv _ => 4 - (intOf iv).toNat)
        case atStart => exact ⟨0, Nat.zero_le _, rfl, HX0.out, HB0.out, FsV.allTo_zero _ _⟩
        case round =>
          obtain ⟨k, hk, rfl, hx, hbel, hr⟩ := hrel
          have HB := Lib.hid hbel
          have HX := Lib.hid hx
          have HR := Lib.hid hr
          have hsz := hbel.size
          clear hx hbel hr HB0 HX0
          by_cases hlt : k < 4
          · have hkl : k < f.quotas.length := by rw [HL1.out]; exact hlt
            obtain ⟨b, o, rfl, hb, hC⟩ := HQ.out k hkl
            obtain ⟨c0, c1⟩ := hC.below hb HB.out
            have hq := FsV.allTo_succ quB f.quotas Qt.a0 k hkl
            have HNO := Lib.hid (fun h => HNQ.out (FsV.all_no (z := Qt.a0) hkl h))
            have HRQ := Lib.hid hq
            clear hC hq hkl
            generalize f.quotas.getD k Qt.a0 = q at c0 c1 HNO HRQ
            have HN := Lib.hid (HB.out.alloc hsz (.cells #[.int .i64 q.1, .int .i64 q.2] 93))
            have HXN := Lib.hid (HX.out.alloc (.cells #[.int .i64 q.1, .int .i64 q.2] 93))
            go_wp2_with fail
            refine (quota_impl q _).mono ?_
            rintro e w1 ⟨rfl, hb1⟩
            replace HN := Lib.hid (HN.out.trans (hb1.mono HN.out.size))
            replace HXN := Lib.hid (HXN.out.all hb1)
            clear hb1 c0 c1
            cases hq : quB q
            · have HF := Lib.hid (HNO.out hq)
              clear hq
              go_wp2
              go_ret
              exact ⟨ret_bool HF.out.symm, HN.out⟩
            · have HS := Lib.hid (show allTo quB f.quotas (k + 1) = true by rw [HRQ.out, HR.out, hq]; rfl)
              clear hq
              go_wp2
              go_roundw
              case rel => exact ⟨k + 1, by omega, by go_num, HXN.out, HN.out, HS.out⟩
              case measure => simp [intOf]; omega
          · obtain rfl : k = 4 := by omega
            rw [show ((4 : Nat) : Int) = 4 from rfl]
            have HQA := Lib.hid (show f.quotas.all quB = true by rw [← FsV.allTo_end quB f.quotas 4 HL1.out.symm]; exact HR.out)
            obtain ⟨x0, x1, x2, x3⟩ := Bk.c4 HX.out
            go_wp2
            clear x0 x1 x2 x3
            go_loopw [39] (fun iv wr => ∃ k : Nat, k ≤ 20 ∧ iv = .int .i64 k ∧ Bk wr w.heap.size #[.int .i64 T, .slice qa 4 qc, .slice ia 20 ic, .slice da 56 dc] 27 ∧ Below w.heap.size w wr ∧ allTo InoV.okI f.inodes k = true) (fun iv _ => 20 - (intOf iv).toNat)
            case atStart => exact ⟨0, Nat.zero_le _, rfl, HX.out, HB.out, FsV.allTo_zero _ _⟩
            case round =>
              obtain ⟨k, hk, rfl, hx, hbel, hr⟩ := hrel
              replace HB := Lib.hid hbel
              replace HX := Lib.hid hx
              replace HR := Lib.hid hr
              have hsz := hbel.size
              clear hx hbel hr
              by_cases hlt : k < 20
              · have hkl : k < f.inodes.length := by rw [HL2.out]; exact hlt
                obtain ⟨b, o, rfl, hb, r0, r1, r2, hC, hP⟩ := HI.out k hkl
                have HP := Lib.hid (IF.parts_holds (IF.parts_below hP HB.out))
                obtain ⟨p0, p1, p2⟩ := hP
                obtain ⟨a0, d0, rfl⟩ := NiF.form p0
                obtain ⟨a1, d1, rfl⟩ := AeF.form p1
                obtain ⟨a2, d2, rfl⟩ := AeF.form p2
                obtain ⟨c0, c1, c2, c3, c4, c5, c6, c7, c8, c9⟩ := hC.below hb HB.out
                have hq := FsV.allTo_succ InoV.okI f.inodes IF.z0 k hkl
                have HNO := Lib.hid (fun h => HNI.out (FsV.all_no (z := IF.z0) hkl h))
                have HRQ := Lib.hid hq
                have hcx := HCA.out k hkl
                have HLX := Lib.hid (HLA.out k hkl)
                clear hC p0 p1 p2 hq hkl
                rw [show InoV.zero = IF.z0 from rfl] at hcx HLX
                generalize f.inodes.getD k IF.z0 = n at c0 c1 c2 c3 c4 c5 c6 c7 c8 c9 HNO HRQ hcx HLX HP
                have HN := Lib.hid (HB.out.alloc hsz (.cells #[.int .i64 n.kind, .int .i64 n.mode, .int .i64 n.uid, .int .i64 n.gid, .int .i64 n.links, .int .i64 n.size, .int .i64 n.tick, .slice a0 n.blocks.length d0, .slice a1 n.acl.length d1, .slice a2 n.dflt.length d2] 34))
                have HXN := Lib.hid (HX.out.alloc (.cells #[.int .i64 n.kind, .int .i64 n.mode, .int .i64 n.uid, .int .i64 n.gid, .int .i64 n.links, .int .i64 n.size, .int .i64 n.tick, .slice a0 n.blocks.length d0, .slice a1 n.acl.length d1, .slice a2 n.dflt.length d2] 34))
                have HPN := Lib.hid (In.holds_below HP.out ((Below.refl wr.heap.size wr).alloc (Nat.le_refl _) (.cells #[.int .i64 n.kind, .int .i64 n.mode, .int .i64 n.uid, .int .i64 n.gid, .int .i64 n.links, .int .i64 n.size, .int .i64 n.tick, .slice a0 n.blocks.length d0, .slice a1 n.acl.length d1, .slice a2 n.dflt.length d2] 34)))
                go_wp2_with fail
                refine (InOk.is_any _ _ n hcx HLX.out.blocks.2 (HV.out.all HN.out) HPN.out).mono ?_
                rintro e w1 ⟨rfl, hb1⟩
                replace HN := Lib.hid (HN.out.trans (hb1.mono HN.out.size))
                replace HXN := Lib.hid (HXN.out.all hb1)
                clear hb1 c0 c1 c2 c3 c4 c5 c6 c7 c8 c9
                cases hq : InoV.okI n
                · have HF := Lib.hid (HNO.out hq)
                  clear hq
                  go_wp2
                  go_ret
                  exact ⟨ret_bool HF.out.symm, HN.out⟩
                · have HS := Lib.hid (show allTo InoV.okI f.inodes (k + 1) = true by rw [HRQ.out, HR.out, hq]; rfl)
                  clear hq
                  go_wp2
                  go_roundw
                  case rel => exact ⟨k + 1, by omega, by go_num, HXN.out, HN.out, HS.out⟩
                  case measure => simp [intOf]; omega
              · obtain rfl : k = 20 := by omega
                rw [show ((20 : Nat) : Int) = 20 from rfl]
                have HIA := Lib.hid (show f.inodes.all InoV.okI = true by rw [← FsV.allTo_end InoV.okI f.inodes 20 HL2.out.symm]; exact HR.out)
                obtain ⟨x0, x1, x2, x3⟩ := Bk.c4 HX.out
                go_wp2
                clear x0 x1 x2 x3
                go_loopw [50] (fun iv wr => ∃ k : Nat, k ≤ 56 ∧ iv = .int .i64 k ∧ Below w.heap.size w wr ∧ allTo (fun s => decide (s.size = 32)) f.data k = true) (fun iv _ => 56 - (intOf iv).toNat)
                case atStart => exact ⟨0, Nat.zero_le _, rfl, HB.out, FsV.allTo_zero _ _⟩
                case round =>
                  obtain ⟨k, hk, rfl, hbel, hr⟩ := hrel
                  replace HB := Lib.hid hbel
                  replace HR := Lib.hid hr
                  clear hbel hr HX
                  by_cases hlt : k < 56
                  · have hkl : k < f.data.length := by rw [HL3.out]; exact hlt
                    obtain ⟨b, o, rfl, hb, c0⟩ := HD.out k hkl
                    rw [← HB.out.cell (p := ⟨b, _, none⟩) hb] at c0
                    have hq := FsV.allTo_succ (fun s => decide (s.size = 32)) f.data ⟨#[]⟩ k hkl
                    have HNO := Lib.hid (fun h => HND.out (FsV.all_no (z := ⟨#[]⟩) hkl h))
                    have HRQ := Lib.hid hq
                    have hcx := HSA.out k hkl
                    clear hq hkl
                    generalize f.data.getD k ⟨#[]⟩ = s at c0 HNO HRQ hcx
                    unfold maxLen at hcx
                    by_cases hs : s.size = 32
                    · have HS := Lib.hid (show allTo (fun s => decide (s.size = 32)) f.data (k + 1) = true by rw [HRQ.out, HR.out, decide_eq_true hs]; rfl)
                      have q1 : ((s.size : Int) != 32) = false := by simp [hs]
                      have q2 : ((s.size : Int) == 32) = true := by simp [hs]
                      clear hs
                      go_wp2
                      go_roundw
                      case rel => exact ⟨k + 1, by omega, by go_num, HB.out, HS.out⟩
                      case measure => simp [intOf]; omega
                    · have HF := Lib.hid (HNO.out (decide_eq_false hs))
                      have q1 : ((s.size : Int) != 32) = true := by simp; omega
                      have q2 : ((s.size : Int) == 32) = false := by simp; omega
                      clear hs
                      go_wp2
                      go_ret
                      exact ⟨ret_bool HF.out.symm, HB.out⟩
                  · obtain rfl : k = 56 := by omega
                    have HF := Lib.hid (FsV.parts_mk HL1.out HL2.out HL3.out HQA.out HIA.out (by rw [← FsV.allTo_end (fun s => decide (s.size = 32)) f.data 56 HL3.out.symm]; exact HR.out))
                    go_wp2
                    go_ret
                    exact ⟨ret_bool HF.out.symm, HB.out⟩
      · have HF := Lib.hid (show partsB f = false by simp [partsB, h3])
        rw [h1, h2]
        have q1 : ((f.data.length : Int) != 56) = true := by simp; omega
        have q2 : ((f.data.length : Int) == 56) = false := by simp; omega
        clear h1 h2 h3
        generalize f.data.length = M at *
        go_enter Tryz.func73, Tryz.ntmps73
        go_wp2
        go_ret
        exact ⟨ret_bool HF.out.symm, (Below.refl w.heap.size w).alloc (Nat.le_refl _) _⟩
    · have HF := Lib.hid (show partsB f = false by simp [partsB, h2])
      rw [h1]
      have q1 : ((f.inodes.length : Int) != 20) = true := by simp; omega
      have q2 : ((f.inodes.length : Int) == 20) = false := by simp; omega
      clear h1 h2
      generalize f.inodes.length = M at *
      generalize f.data.length = M2 at *
      go_enter Tryz.func73, Tryz.ntmps73
      go_wp2
      go_ret
      exact ⟨ret_bool HF.out.symm, (Below.refl w.heap.size w).alloc (Nat.le_refl _) _⟩
  · have HF := Lib.hid (show partsB f = false by simp [partsB, h1])
    have q1 : ((f.quotas.length : Int) != 4) = true := by simp; omega
    have q2 : ((f.quotas.length : Int) == 4) = false := by simp; omega
    clear h1
    generalize f.quotas.length = M0 at *
    generalize f.inodes.length = M at *
    generalize f.data.length = M2 at *
    go_enter Tryz.func73, Tryz.ntmps73
    go_wp2
    go_ret
    exact ⟨ret_bool HF.out.symm, (Below.refl w.heap.size w).alloc (Nat.le_refl _) _⟩
end Go.Proofs.YtafmpllkehbmeaaGreatDoor.FsP
