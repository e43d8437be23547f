/- Helper texts joined, one behind another (a claim has at most 60 files): what each proves, its own head says: YthppbcnejapbiaaGreatDoorFsP, YthppbcnejapbiaaGreatDoorMpB, YthppbcnejapbiaaGreatDoorFsU, YthppbcnejapbiaaGreatDoorFsW, YthppbcnejapbiaaGreatDoorFsB, YthppbcnejapbiaaGreatDoorIsZeroes, YthppbcnejapbiaaGreatDoorFsE, YthppbcnejapbiaaGreatDoorApp, YthppbcnejapbiaaGreatDoorFsM, YthppbcnejapbiaaGreatDoorFsX, YthppbcnejapbiaaGreatDoorFsY, YthppbcnejapbiaaGreatDoorFoB. -/
import Derived.Test.YthppbcnejapbiaaGreatDoorAdB
import Derived.Test.YthppbcnejapbiaaGreatDoorAdC
import Derived.Test.YthppbcnejapbiaaGreatDoorAdD
import Derived.Test.YthppbcnejapbiaaGreatDoorAdE
import Derived.Test.YthppbcnejapbiaaGreatDoorAdA
import Derived.Maps.OwnSet
import Derived.Test.YthppbcnejapbiaaGreatDoorFam
import Derived.Test.YthppbcnejapbiaaGreatDoorKit
import Derived.Test.YthppbcnejapbiaaGreatDoorShelf
import Derived.Test.YthppbcnejapbiaaGreatDoorDkAt
import Derived.Deep.AppendSrc
import Derived.Lib.SliceRun
import Derived.Deep.RegionHeld3

-- YthppbcnejapbiaaGreatDoorFsP
/- A part. -/
namespace Go.Proofs.YthppbcnejapbiaaGreatDoor.FsP
set_option maxHeartbeats 3200000
set_option maxRecDepth 100000
open Go.ChangeShapes Go.WideShapes Go.ChangeAt Go.RowKit
open Foot Bx
open FsV (F quB ownerV partsB allTo)
open Dk (ret_bool)
open Strs (ret_int)
set_option linter.unusedVariables false
theorem quota_impl (q : Int × Int) (w : World) :
  Calls Tryz.prog 171 #[.agg #[.int .i64 q.1, .int .i64 q.2]] w fun e w' => e = .returned (.bool (quB q)) /\ Below w.heap.size w w' := by
 obtain ⟨a, b⟩ := q
 have HB := Lib.hid ((Below.refl w.heap.size w).alloc (Nat.le_refl _) (.cells #[.int .i64 a, .int .i64 b] 113))
 unfold quB
 dsimp only
 cases h1 : decide (0 <= a) <;> cases h2 : decide (a <= 5) <;> cases h3 : decide (0 <= b) <;> cases h4 : decide (b <= 14)
 all_goals
  go_enter Tryz.func171, Tryz.ntmps171
  go_wp2
  go_ret
  exact ⟨rfl, HB.out⟩
theorem parts_quo {f : F} (h : f.quotas.all quB = false) : partsB f = false := by simp [partsB, h]
theorem parts_ino {f : F} (h : f.inodes.all InoV.okI = false) : partsB f = false := by simp [partsB, h]
theorem parts_dat {f : F} (h : f.data.all (fun s => decide (s.size = 32)) = false) : partsB f = false := by simp [partsB, h]
theorem lim_at {f : F} (hl : FsF.Lim f) {i : Nat} (hi : i < f.inodes.length) : In.Lim (f.inodes.getD i InoV.zero) := hl.inodes.2 _ (FsV.mem_getD hi)
theorem cost_at {f : F} (hc : FsF.cost f <= 1073741824) {i : Nat} (hi : i < f.inodes.length) : In.cost (f.inodes.getD i InoV.zero) <= 1073741824 :=
 Nat.le_trans (IF.cost_at hi) (Nat.le_trans (Nat.le_trans (Nat.le_add_left _ _) (FsF.le_inodes f)) hc)
theorem size_at {f : F} (hl : FsF.Lim f) {i : Nat} (hi : i < f.data.length) : (f.data.getD i ⟨#[]⟩).size <= maxLen := hl.data.2 _ (FsV.mem_getD hi)
theorem parts_impl (w : World) (v : Value) (f : F) (hc : FsF.cost f <= 1073741824) (hl : FsF.Lim f) (hv : InOk.Vars w) (h : FsF.Holds w v f) :
  Calls Tryz.prog 133 #[v] w fun e w' => e = .returned (.bool (partsB f)) /\ Below w.heap.size w w' := by
 have HCA := Lib.hid (fun i (hi : i < f.inodes.length) => cost_at hc hi)
 have HLA := Lib.hid (fun i (hi : i < f.inodes.length) => lim_at hl hi)
 have HSA := Lib.hid (fun i (hi : i < f.data.length) => size_at hl hi)
 have HV := Lib.hid hv
 obtain ⟨r0, r1, r2, rfl, g0, g1, g2⟩ := h
 obtain ⟨qa, qc, rfl, hQ⟩ := Qt.atL g0
 obtain ⟨ia, ic, rfl, _, hI⟩ := IF.atL g1
 obtain ⟨da, dc, rfl, hD⟩ := g2
 have HQ := Lib.hid hQ
 have HI := Lib.hid hI
 have HD := Lib.hid (show ∀ i, i < f.data.length -> ∃ b o, da = some ⟨b, o, none⟩ /\ b < w.heap.size /\ w.cell? ⟨b, o + i, none⟩ = some (.string (f.data.getD i ⟨#[]⟩)) from fun i hi => by
  obtain ⟨b, o, e, hlt, hcell⟩ := hD (by intro e; rw [e] at hi; simp at hi)
  exact ⟨b, o, e, hlt, hcell i hi⟩)
 have HNQ := Lib.hid (fun h => parts_quo (f := f) h)
 have HNI := Lib.hid (fun h => parts_ino (f := f) h)
 have HND := Lib.hid (fun h => parts_dat (f := f) h)
 have hlq : f.quotas.length <= 1073741824 := Nat.le_trans (FsF.le_quotas f) hc
 have hli : f.inodes.length <= 1073741824 := Nat.le_trans (Nat.le_trans (Nat.le_add_right _ _) (FsF.le_inodes f)) hc
 have hld : f.data.length <= 1073741824 := Nat.le_trans (Nat.le_trans (Nat.le_add_right _ _) (FsF.le_data f)) hc
 clear g0 g1 hQ hI hD hc hl hv
 by_cases h1 : f.quotas.length = 4
 ·by_cases h2 : f.inodes.length = 20
  ·by_cases h3 : f.data.length = 56
   ·have HL1 := Lib.hid h1
    have HL2 := Lib.hid h2
    have HL3 := Lib.hid h3
    rw [h1, h2, h3]
    clear h1 h2 h3 hlq hli hld
    obtain ⟨T, hT⟩ : ∃ T, T = f.tick := ⟨_, rfl⟩
    rw [<- hT]
    clear hT
    have HB0 := Lib.hid ((Below.refl w.heap.size w).alloc (Nat.le_refl _) (.cells #[.int .i64 T, .slice qa 4 qc, .slice ia 20 ic, .slice da 56 dc] 33))
    have HX0 := Lib.hid (new w #[.int .i64 T, .slice qa 4 qc, .slice ia 20 ic, .slice da 56 dc] 33)
    go_enter Tryz.func133, Tryz.ntmps133
    go_wp2
    go_loopw [28] (fun iv wr => ∃ k : Nat, k <= 4 /\ iv = .int .i64 k /\ Bk wr w.heap.size #[.int .i64 T, .slice qa 4 qc, .slice ia 20 ic, .slice da 56 dc] 33 /\ Below w.heap.size w wr /\ allTo quB f.quotas k = true) (fun iv _ => 4 - (intOf iv).toNat)
    case atStart => exact ⟨0, Nat.zero_le _, rfl, HX0.out, HB0.out, FsV.allTo_zero _ _⟩
    case round =>
     obtain ⟨k, hk, rfl, hx, hbel, hr⟩ := hrel
     have HB := Lib.hid hbel
     have HX := Lib.hid hx
     have HR := Lib.hid hr
     have hsz := hbel.size
     clear hx hbel hr HB0 HX0
     by_cases hlt : k < 4
     ·have hkl : k < f.quotas.length := by rw [HL1.out]; exact hlt
      obtain ⟨b, o, rfl, hb, hC⟩ := HQ.out k hkl
      obtain ⟨c0, c1⟩ := hC.below hb HB.out
      have hq := FsV.allTo_succ quB f.quotas Qt.a0 k hkl
      have HNO := Lib.hid (fun h => HNQ.out (FsV.all_no (z := Qt.a0) hkl h))
      have HRQ := Lib.hid hq
      clear hC hq hkl
      generalize f.quotas.getD k Qt.a0 = q at c0 c1 HNO HRQ
      have HN := Lib.hid (HB.out.alloc hsz (.cells #[.int .i64 q.1, .int .i64 q.2] 113))
      have HXN := Lib.hid (HX.out.alloc (.cells #[.int .i64 q.1, .int .i64 q.2] 113))
      go_wp2_with fail
      refine (quota_impl q _).mono ?_
      rintro e w1 ⟨rfl, hb1⟩
      replace HN := Lib.hid (HN.out.trans (hb1.mono HN.out.size))
      replace HXN := Lib.hid (HXN.out.all hb1)
      clear hb1 c0 c1
      cases hq : quB q
      ·have HF := Lib.hid (HNO.out hq)
       clear hq
       go_wp2
       go_ret
       exact ⟨ret_bool HF.out.symm, HN.out⟩
      ·have HS := Lib.hid (show allTo quB f.quotas (k + 1) = true by rw [HRQ.out, HR.out, hq]; rfl)
       clear hq
       go_wp2
       go_roundw
       case rel => exact ⟨k + 1, by omega, by go_num, HXN.out, HN.out, HS.out⟩
       case measure => simp [intOf]; omega
     ·obtain rfl : k = 4 := by omega
      rw [show ((4 : Nat) : Int) = 4 from rfl]
      have HQA := Lib.hid (show f.quotas.all quB = true by rw [<- FsV.allTo_end quB f.quotas 4 HL1.out.symm]; exact HR.out)
      obtain ⟨x0, x1, x2, x3⟩ := Bk.c4 HX.out
      go_wp2
      clear x0 x1 x2 x3
      go_loopw [39] (fun iv wr => ∃ k : Nat, k <= 20 /\ iv = .int .i64 k /\ Bk wr w.heap.size #[.int .i64 T, .slice qa 4 qc, .slice ia 20 ic, .slice da 56 dc] 33 /\ Below w.heap.size w wr /\ allTo InoV.okI f.inodes k = true) (fun iv _ => 20 - (intOf iv).toNat)
      case atStart => exact ⟨0, Nat.zero_le _, rfl, HX.out, HB.out, FsV.allTo_zero _ _⟩
      case round =>
       obtain ⟨k, hk, rfl, hx, hbel, hr⟩ := hrel
       replace HB := Lib.hid hbel
       replace HX := Lib.hid hx
       replace HR := Lib.hid hr
       have hsz := hbel.size
       clear hx hbel hr
       by_cases hlt : k < 20
       ·have hkl : k < f.inodes.length := by rw [HL2.out]; exact hlt
        obtain ⟨b, o, rfl, hb, r0, r1, r2, hC, hP⟩ := HI.out k hkl
        have HP := Lib.hid (IF.parts_holds (IF.parts_below hP HB.out))
        obtain ⟨p0, p1, p2⟩ := hP
        obtain ⟨a0, d0, rfl⟩ := NiF.form p0
        obtain ⟨a1, d1, rfl⟩ := AeF.form p1
        obtain ⟨a2, d2, rfl⟩ := AeF.form p2
        obtain ⟨c0, c1, c2, c3, c4, c5, c6, c7, c8, c9⟩ := hC.below hb HB.out
        have hq := FsV.allTo_succ InoV.okI f.inodes IF.z0 k hkl
        have HNO := Lib.hid (fun h => HNI.out (FsV.all_no (z := IF.z0) hkl h))
        have HRQ := Lib.hid hq
        have hcx := HCA.out k hkl
        have HLX := Lib.hid (HLA.out k hkl)
        clear hC p0 p1 p2 hq hkl
        rw [show InoV.zero = IF.z0 from rfl] at hcx HLX
        generalize f.inodes.getD k IF.z0 = n at c0 c1 c2 c3 c4 c5 c6 c7 c8 c9 HNO HRQ hcx HLX HP
        have HN := Lib.hid (HB.out.alloc hsz (.cells #[.int .i64 n.kind, .int .i64 n.mode, .int .i64 n.uid, .int .i64 n.gid, .int .i64 n.links, .int .i64 n.size, .int .i64 n.tick, .slice a0 n.blocks.length d0, .slice a1 n.acl.length d1, .slice a2 n.dflt.length d2] 89))
        have HXN := Lib.hid (HX.out.alloc (.cells #[.int .i64 n.kind, .int .i64 n.mode, .int .i64 n.uid, .int .i64 n.gid, .int .i64 n.links, .int .i64 n.size, .int .i64 n.tick, .slice a0 n.blocks.length d0, .slice a1 n.acl.length d1, .slice a2 n.dflt.length d2] 89))
        have HPN := Lib.hid (In.holds_below HP.out ((Below.refl wr.heap.size wr).alloc (Nat.le_refl _) (.cells #[.int .i64 n.kind, .int .i64 n.mode, .int .i64 n.uid, .int .i64 n.gid, .int .i64 n.links, .int .i64 n.size, .int .i64 n.tick, .slice a0 n.blocks.length d0, .slice a1 n.acl.length d1, .slice a2 n.dflt.length d2] 89)))
        go_wp2_with fail
        refine (InOk.is_any _ _ n hcx HLX.out.blocks.2 (HV.out.all HN.out) HPN.out).mono ?_
        rintro e w1 ⟨rfl, hb1⟩
        replace HN := Lib.hid (HN.out.trans (hb1.mono HN.out.size))
        replace HXN := Lib.hid (HXN.out.all hb1)
        clear hb1 c0 c1 c2 c3 c4 c5 c6 c7 c8 c9
        cases hq : InoV.okI n
        ·have HF := Lib.hid (HNO.out hq)
         clear hq
         go_wp2
         go_ret
         exact ⟨ret_bool HF.out.symm, HN.out⟩
        ·have HS := Lib.hid (show allTo InoV.okI f.inodes (k + 1) = true by rw [HRQ.out, HR.out, hq]; rfl)
         clear hq
         go_wp2
         go_roundw
         case rel => exact ⟨k + 1, by omega, by go_num, HXN.out, HN.out, HS.out⟩
         case measure => simp [intOf]; omega
       ·obtain rfl : k = 20 := by omega
        rw [show ((20 : Nat) : Int) = 20 from rfl]
        have HIA := Lib.hid (show f.inodes.all InoV.okI = true by rw [<- FsV.allTo_end InoV.okI f.inodes 20 HL2.out.symm]; exact HR.out)
        obtain ⟨x0, x1, x2, x3⟩ := Bk.c4 HX.out
        go_wp2
        clear x0 x1 x2 x3
        go_loopw [50] (fun iv wr => ∃ k : Nat, k <= 56 /\ iv = .int .i64 k /\ Below w.heap.size w wr /\ allTo (fun s => decide (s.size = 32)) f.data k = true) (fun iv _ => 56 - (intOf iv).toNat)
        case atStart => exact ⟨0, Nat.zero_le _, rfl, HB.out, FsV.allTo_zero _ _⟩
        case round =>
         obtain ⟨k, hk, rfl, hbel, hr⟩ := hrel
         replace HB := Lib.hid hbel
         replace HR := Lib.hid hr
         clear hbel hr HX
         by_cases hlt : k < 56
         ·have hkl : k < f.data.length := by rw [HL3.out]; exact hlt
          obtain ⟨b, o, rfl, hb, c0⟩ := HD.out k hkl
          rw [<- HB.out.cell (p := ⟨b, _, none⟩) hb] at c0
          have hq := FsV.allTo_succ (fun s => decide (s.size = 32)) f.data ⟨#[]⟩ k hkl
          have HNO := Lib.hid (fun h => HND.out (FsV.all_no (z := ⟨#[]⟩) hkl h))
          have HRQ := Lib.hid hq
          have hcx := HSA.out k hkl
          clear hq hkl
          generalize f.data.getD k ⟨#[]⟩ = s at c0 HNO HRQ hcx
          unfold maxLen at hcx
          by_cases hs : s.size = 32
          ·have HS := Lib.hid (show allTo (fun s => decide (s.size = 32)) f.data (k + 1) = true by rw [HRQ.out, HR.out, decide_eq_true hs]; rfl)
           have q1 : ((s.size : Int) != 32) = false := by simp [hs]
           have q2 : ((s.size : Int) == 32) = true := by simp [hs]
           clear hs
           go_wp2
           go_roundw
           case rel => exact ⟨k + 1, by omega, by go_num, HB.out, HS.out⟩
           case measure => simp [intOf]; omega
          ·have HF := Lib.hid (HNO.out (decide_eq_false hs))
           have q1 : ((s.size : Int) != 32) = true := by simp; omega
           have q2 : ((s.size : Int) == 32) = false := by simp; omega
           clear hs
           go_wp2
           go_ret
           exact ⟨ret_bool HF.out.symm, HB.out⟩
         ·obtain rfl : k = 56 := by omega
          have HF := Lib.hid (FsV.parts_mk HL1.out HL2.out HL3.out HQA.out HIA.out (by rw [<- FsV.allTo_end (fun s => decide (s.size = 32)) f.data 56 HL3.out.symm]; exact HR.out))
          go_wp2
          go_ret
          exact ⟨ret_bool HF.out.symm, HB.out⟩
   ·have HF := Lib.hid (show partsB f = false by simp [partsB, h3])
    rw [h1, h2]
    have q1 : ((f.data.length : Int) != 56) = true := by simp; omega
    have q2 : ((f.data.length : Int) == 56) = false := by simp; omega
    clear h1 h2 h3
    generalize f.data.length = M at *
    go_enter Tryz.func133, Tryz.ntmps133
    go_wp2
    go_ret
    exact ⟨ret_bool HF.out.symm, (Below.refl w.heap.size w).alloc (Nat.le_refl _) _⟩
  ·have HF := Lib.hid (show partsB f = false by simp [partsB, h2])
   rw [h1]
   have q1 : ((f.inodes.length : Int) != 20) = true := by simp; omega
   have q2 : ((f.inodes.length : Int) == 20) = false := by simp; omega
   clear h1 h2
   generalize f.inodes.length = M at *
   generalize f.data.length = M2 at *
   go_enter Tryz.func133, Tryz.ntmps133
   go_wp2
   go_ret
   exact ⟨ret_bool HF.out.symm, (Below.refl w.heap.size w).alloc (Nat.le_refl _) _⟩
 ·have HF := Lib.hid (show partsB f = false by simp [partsB, h1])
  have q1 : ((f.quotas.length : Int) != 4) = true := by simp; omega
  have q2 : ((f.quotas.length : Int) == 4) = false := by simp; omega
  clear h1
  generalize f.quotas.length = M0 at *
  generalize f.inodes.length = M at *
  generalize f.data.length = M2 at *
  go_enter Tryz.func133, Tryz.ntmps133
  go_wp2
  go_ret
  exact ⟨ret_bool HF.out.symm, (Below.refl w.heap.size w).alloc (Nat.le_refl _) _⟩
end Go.Proofs.YthppbcnejapbiaaGreatDoor.FsP

-- YthppbcnejapbiaaGreatDoorMpB
/- A part. -/
namespace Go.Proofs.YthppbcnejapbiaaGreatDoor.MpB
open Go.ChangeShapes Go.WideShapes Go.ChangeAt Go.RowKit
open Go.Maps (Keyed int_keyed IsMap)
open Foot
set_option linter.unusedVariables false
theorem law : Keyed Tryz.prog 3 := int_keyed Tryz.underlying3
theorem zeroE (w : World) : (zeroValue 4).run Tryz.prog w = .ok (.bool false) w := by kernel_rfl
theorem wf_of {x : Int} (h : Rg x) : (Lit.int .i64 x).wf = true := by
 unfold Rg at h
 exact WalkArith.wf_i64 (by omega)
theorem key_of {x : Int} (h : Rg x) : keyOf Tryz.prog 3 (.int .i64 x) = some (.int .i64 x) := Maps.keyOf_int_mk Tryz.underlying3 (wf_of h)
theorem key_lit {x : Int} (h : Rg x) : WideAt.IsKeyLit (.int .i64 x) := law.key (key_of h)
set_option maxRecDepth 100000 in
theorem bool_inv {H : Type} {v : Value} {z : DataW H × List MemPlace} (h : plainElem Tryz.prog 4 v = some z) : ∃ a, v = .bool a /\ z = (.lit (.bool a), []) := by
 have hu := Tryz.underlying4
 generalize Tryz.prog = P at h hu
 unfold plainElem at h
 rw [hu] at h
 cases v <;> simp at h
 subst h
 exact ⟨_, rfl, rfl⟩
def Is (w : World) (b n : Nat) (s : Int -> Bool) : Prop := ∃ D : DataW Unit, w.ownsMap Tryz.prog 3 (plainElem Tryz.prog 4) b n D /\ ∀ x, Rg x -> D.atKey (.int .i64 x) (.lit (.bool false)) = .lit (.bool (s x))
section
variable {w w' : World} {b n : Nat} {s : Int -> Bool}
theorem made (w : World) : Is (w.alloc (.map #[] 0)) w.heap.size 0 fun _ => false := ⟨_, World.ownsMap_made _ _ _ _, fun _ _ => rfl⟩
theorem Is.lt (h : Is w b n s) : b < w.heap.size := by obtain ⟨D, hD, _⟩ := h; exact hD.lt
theorem Is.kept {row : Option Nat} (h : Is w b n s) (hg : w.grownBy w' row) (hne : some b ≠ row) : Is w' b n s := by obtain ⟨D, hD, hs⟩ := h; exact ⟨D, hD.kept hg hne, hs⟩
theorem grown_of (hb : Below w.heap.size w w') : w.grownBy w' none := ⟨hb.os, hb.tape, hb.output, hb.size, fun k hk _ => hb.block k hk⟩
theorem Is.below (h : Is w b n s) (hb : Below w.heap.size w w') : Is w' b n s := h.kept (grown_of hb) (by simp)
theorem Is.alloc (h : Is w b n s) (o : Obj) : Is (w.alloc o) b n s := h.kept (World.grownBy_alloc w o none) (by simp)
theorem Is.set (h : Is w b n s) {a : Addr} (ha : b ≠ a.block) (u : Value) : Is (w.setCell a u) b n s := by obtain ⟨D, hD, hs⟩ := h; exact ⟨D, hD.setCell ha u, hs⟩
theorem Is.as {t : Int -> Bool} (h : Is w b n s) (he : ∀ x, Rg x -> s x = t x) : Is w b n t := by obtain ⟨D, hD, hs⟩ := h; exact ⟨D, hD, fun x hx => by rw [hs x hx, he x hx]⟩
theorem Is.mono {m : Nat} (h : Is w b n s) (hm : n <= m) : Is w b m s := by obtain ⟨D, hD, hs⟩ := h; exact ⟨D, hD.mono hm, hs⟩
theorem Is.look (h : Is w b n s) {x : Int} (hx : Rg x) : (Instr.lookup 138 (.map (some b)) (.int .i64 x) false).run Tryz.prog w = .ok (.bool (s x)) w := by
 obtain ⟨D, hD, hs⟩ := h
 obtain ⟨v, ps, hrun, hv⟩ := hD.lookup law Tryz.underlying138 (zeroE w) (plainElem_bool Tryz.underlying4 false) (key_of hx)
 obtain ⟨c, rfl, hc⟩ := bool_inv hv
 have e := congrArg Prod.fst hc
 dsimp only at e
 rw [hs x hx] at e
 rw [hrun]
 simp only [DataW.lit.injEq, Lit.bool.injEq] at e
 rw [e]
end
section
variable (w : World) {ops : Array Oper} {rest : List Oper} {o : Oper} {a : Act} {Q : Exit -> Act -> World -> Prop}
theorem wpList_put (hg : o.guard = none) (m x v : Operand) (hop : o.op = Op.mapUpdate 138 m x v) (b n : Nat) (s : Int -> Bool) (hm : a.eval m = .map (some b)) (hown : Is w b n s) (hn : n < maxLen) (k : Int) (hx : a.eval x = .int .i64 k) (hv : a.eval v = .bool true) (hr : Rg k)
  (hK : ∀ w', Is w' b (n + 1) (fun y => decide (y = k) || s y) -> w.grownBy w' (some b) -> wpList Tryz.prog ops Q rest (a.put o.dst undef) w') : wpList Tryz.prog ops Q (o :: rest) a w := by
 obtain ⟨D, hD, hs⟩ := hown
 refine wpList_mapUpdate_own w hg m x v 138 hop 3 4 law Tryz.underlying138 _ b n D hm hD hn _ _ _ hx hv (key_of hr) (.lit (.bool true)) [] (plainElem_bool Tryz.underlying4 true) ?_
 intro w' hown' hg'
 refine hK w' ⟨_, hown', fun y hy => ?_⟩ hg'
 by_cases hyk : y = k
 ·subst hyk
  rw [Maps.atKey_put_same hD.isMap (key_lit hy)]
  simp
 ·rw [Maps.atKey_put_other (by simpa using hyk), hs y hy]
  simp [hyk]
theorem wpList_del (hg : o.guard = none) (m x : Operand) (hop : o.op = Op.call { callee := Callee.builtin Builtin.delete, args := #[m, x], argTypes := #[138, 3] }) (b n : Nat) (s : Int -> Bool) (hm : a.eval m = .map (some b)) (hown : Is w b n s) (k : Int) (hx : a.eval x = .int .i64 k) (hr : Rg k)
  (hK : ∀ w', Is w' b n (fun y => !decide (y = k) && s y) -> w.grownBy w' (some b) -> wpList Tryz.prog ops Q rest (a.put o.dst (.tuple #[])) w') : wpList Tryz.prog ops Q (o :: rest) a w := by
 obtain ⟨D, hD, hs⟩ := hown
 refine wpList_delete_own w hg m x 138 3 hop 4 law Tryz.underlying138 _ b n D hm hD _ _ hx (key_of hr) ?_
 intro w' hown' hg'
 refine hK w' ⟨_, hown', fun y hy => ?_⟩ hg'.grown
 by_cases hyk : y = k
 ·subst hyk
  rw [Maps.atKey_del_same]
  simp
 ·rw [Maps.atKey_del_other (by simpa using hyk), hs y hy]
  simp [hyk]
end
end Go.Proofs.YthppbcnejapbiaaGreatDoor.MpB

-- YthppbcnejapbiaaGreatDoorFsU
/- A part. -/
namespace Go.Proofs.YthppbcnejapbiaaGreatDoor.FsU
open Go.ChangeShapes Go.WideShapes Go.ChangeAt Go.RowKit
open Foot Bx
open InoV (I usedV hasB)
open FsV (F allB pre goB ownB oneB ownerV)
open Dk (ret_bool)
open MpB (Is)
set_option linter.unusedVariables false
theorem allB_len (l : List I) : (allB l).length <= IF.csum l := by
 induction l with
 | nil => exact Nat.le_refl _
 | cons n r ih =>
  have h1 : allB (n :: r) = usedV n.blocks ++ allB r := rfl
  have h2 : IF.csum (n :: r) = In.cost n + IF.csum r := by simp [IF.csum]
  have h3 := InEq.used_len n.blocks
  have h4 : n.blocks.length <= In.cost n := In.le_blocks n
  rw [h1, h2, List.length_append]; omega
theorem seen_len (l : List I) (i j : Nat) (hi : i < l.length) : (FsV.seen l i j).length <= IF.csum l := by
 have h1 : (FsV.seen l i j).length <= (allB (l.take (i + 1))).length := by
  rw [FsV.take_snoc l InoV.zero i hi, FsV.all_app, List.length_append, FsV.seen, List.length_append, List.length_take]
  simp [allB]; omega
 have h2 := allB_len (l.take (i + 1))
 have h3 := IF.csum_le l (i + 1)
 omega
theorem used_mem {l : List Int} {x : Int} (h : x ∈ usedV l) : x ∈ l := (List.mem_filter.1 h).1
theorem row_at {w : World} {base : Nat} {a : Option Addr} {c : Nat} {l : List Int} {S : List Nat} (h : NiF.Own w base (.slice a l.length c) l S) (j : Nat) (hj : j < l.length) : ∃ b o, a = some ⟨b, o, none⟩ /\ w.cell? ⟨b, o + j, none⟩ = some (.int .i64 (l.getD j 0)) := by
 obtain ⟨a', c', e, _, hc⟩ := NiF.own_holds h
 rw [Value.slice.injEq] at e
 obtain ⟨rfl, _, rfl⟩ := e
 obtain ⟨b, o, e, _, hcell⟩ := hc j hj
 exact ⟨b, o, e, hcell⟩
set_option maxRecDepth 100000 in
set_option maxHeartbeats 3200000 in
theorem inuse_le (w : World) (v : Value) (l : List I) (hc : IF.cost l <= 1073741824) (hl : IF.Lim l) (h : IF.Holds w v l) :
  Calls Tryz.prog 160 #[v] w fun e w' => ∃ n, n <= 1073741824 /\ e = .returned (.map (some w.heap.size)) /\ Is w' w.heap.size n (hasB (allB l)) /\ Below w.heap.size w w' := by
 obtain ⟨a, cap, rfl, hle, hat⟩ := IF.atL h
 have HC := Lib.hid hat
 have hlen : l.length <= 1073741824 := Nat.le_trans (Nat.le_add_right _ _) hc
 have hcs : IF.csum l <= 1073741824 := Nat.le_trans (Nat.le_add_left _ _) hc
 have HLM := Lib.hid hl.2
 have HCA := Lib.hid (fun i (hi : i < l.length) => Nat.le_trans (IF.cost_at hi) hcs)
 have HSL := Lib.hid (fun i j hi => Nat.le_trans (seen_len l i j hi) hcs)
 have HAL := Lib.hid (Nat.le_trans (allB_len l) hcs)
 obtain ⟨M, hM⟩ : ∃ M, M = l.length := ⟨_, rfl⟩
 rw [<- hM] at hlen hle ⊢
 have HM := Lib.hid hM
 clear hM hat h hc hl hcs
 have HS0 := Lib.hid (show (fun _ => false) = hasB (FsV.seen l 0 0) from by funext x; rfl)
 have HBW := Lib.hid ((Below.refl w.heap.size w).alloc (Nat.le_refl _) (.map #[] 0))
 have HI0 := Lib.hid (MpB.made w)
 have hmm := @run_makeMap Tryz.prog
 go_enter Tryz.func160, Tryz.ntmps160
 go_wp2
 go_loopw [11] (fun iv wr => ∃ i : Nat, i <= M /\ iv = .int .i64 i /\ Is wr w.heap.size (FsV.seen l i 0).length (hasB (FsV.seen l i 0)) /\ Below w.heap.size w wr) (fun iv _ => M - (intOf iv).toNat)
 case atStart => exact ⟨0, Nat.zero_le _, rfl, by rw [<- HS0.out]; exact HI0.out, HBW.out⟩
 case round =>
  obtain ⟨i, hi, rfl, his, hbel⟩ := hrel
  have HB := Lib.hid hbel
  have HI := Lib.hid his
  have hsz := hbel.size
  clear his hbel HBW HI0 hmm
  by_cases hlt : i < M
  ·have hlx : i < l.length := by rw [<- HM.out]; exact hlt
   obtain ⟨b, o, rfl, hb, r0, r1, r2, hC, hP⟩ := HC.out i hlx
   have HP := Lib.hid (IF.parts_holds (IF.parts_below hP HB.out))
   obtain ⟨p0, p1, p2⟩ := hP
   obtain ⟨a0, d0, rfl⟩ := NiF.form p0
   obtain ⟨a1, d1, rfl⟩ := AeF.form p1
   obtain ⟨a2, d2, rfl⟩ := AeF.form p2
   obtain ⟨c0, c1, c2, c3, c4, c5, c6, c7, c8, c9⟩ := hC.below hb HB.out
   clear hC p0 p1 p2
   have hcx := HCA.out i hlx
   have HRX := Lib.hid (HLM.out _ (IF.mem_getD hlx)).blocks.2
   have HEND := Lib.hid (FsV.seen_end l i hlx)
   have HSN := Lib.hid (FsV.seen_snoc l i)
   have HSB := Lib.hid (fun j => HSL.out i j hlx)
   rw [show InoV.zero = IF.z0 from rfl] at HEND HSN
   generalize l.getD i IF.z0 = n at c0 c1 c2 c3 c4 c5 c6 c7 c8 c9 HP hcx HRX HEND HSN
   have hbl : n.blocks.length <= 1073741824 := Nat.le_trans (In.le_blocks n) hcx
   have HN := Lib.hid (HB.out.alloc hsz (.cells #[.int .i64 n.kind, .int .i64 n.mode, .int .i64 n.uid, .int .i64 n.gid, .int .i64 n.links, .int .i64 n.size, .int .i64 n.tick, .slice a0 n.blocks.length d0, .slice a1 n.acl.length d1, .slice a2 n.dflt.length d2] 89))
   have HIN := Lib.hid (HI.out.alloc (.cells #[.int .i64 n.kind, .int .i64 n.mode, .int .i64 n.uid, .int .i64 n.gid, .int .i64 n.links, .int .i64 n.size, .int .i64 n.tick, .slice a0 n.blocks.length d0, .slice a1 n.acl.length d1, .slice a2 n.dflt.length d2] 89))
   have HPN := Lib.hid (In.holds_below HP.out ((Below.refl wr.heap.size wr).alloc (Nat.le_refl _) (.cells #[.int .i64 n.kind, .int .i64 n.mode, .int .i64 n.uid, .int .i64 n.gid, .int .i64 n.links, .int .i64 n.size, .int .i64 n.tick, .slice a0 n.blocks.length d0, .slice a1 n.acl.length d1, .slice a2 n.dflt.length d2] 89)))
   go_wp2_with fail
   refine (InEq.used_impl _ _ n hbl HPN.out).mono ?_
   rintro e w1 ⟨y, S, rfl, hown, hb1⟩
   obtain ⟨ya, yc, rfl⟩ := NiF.own_form hown
   have hs1 := hb1.size
   have hbs := HIN.out.lt
   simp only [World.size_alloc] at hs1 hbs
   have HO := Lib.hid (NiF.own_mono hown (show w.heap.size + 1 <= _ by simp only [World.size_alloc]; omega))
   replace HN := Lib.hid (HN.out.trans (hb1.mono HN.out.size))
   replace HIN := Lib.hid (HIN.out.below hb1)
   have HUM := Lib.hid (fun x (hx : x ∈ usedV n.blocks) => HRX.out x (used_mem hx))
   obtain ⟨ul, hul⟩ : ∃ ul, ul = usedV n.blocks := ⟨_, rfl⟩
   rw [<- hul] at HO HEND HSN HUM ⊢
   have hul2 : ul.length <= 1073741824 := by rw [hul]; exact Nat.le_trans (InEq.used_len _) hbl
   obtain ⟨m, hm⟩ : ∃ m, m = ul.length := ⟨_, rfl⟩
   have HOA := Lib.hid HO.out
   rw [<- hm] at HOA HEND HSN hul2 ⊢
   have HML := Lib.hid hm
   clear hown hb1 hul hm c0 c1 c2 c3 c4 c5 c6 c7 c8 c9 HO
   go_wp2
   go_loopw [18] (fun jv wq => ∃ j : Nat, j <= m /\ jv = .int .i64 j /\ Is wq w.heap.size (FsV.seen l i j).length (hasB (FsV.seen l i j)) /\ NiF.Own wq (w.heap.size + 1) (.slice ya m yc) ul S /\ w.heap.size < wq.heap.size /\ Below w.heap.size w wq) (fun jv _ => m - (intOf jv).toNat)
   case atStart => exact ⟨0, Nat.zero_le _, rfl, HIN.out, HOA.out, by omega, HN.out⟩
   case round =>
    obtain ⟨j, hj, rfl, his, hown, hszq, hbel⟩ := hrel
    replace HN := Lib.hid hbel
    replace HIN := Lib.hid his
    replace HOA := Lib.hid hown
    clear his hown hbel
    by_cases hltj : j < m
    ·have hjl : j < ul.length := by rw [<- HML.out]; exact hltj
     have hown := HOA.out
     rw [HML.out] at hown
     obtain ⟨b2, o2, rfl, g0⟩ := row_at hown j hjl
     have hrg : Rg (ul.getD j 0) := HUM.out _ (FsV.mem_getD hjl)
     have hst := HSN.out j hltj
     have hbnd := HSB.out (j + 1)
     rw [hst, List.length_append, List.length_singleton] at hbnd
     have HST := Lib.hid hst
     clear hst hown
     generalize ul.getD j 0 = x at g0 hrg HST
     have HRG := Lib.hid hrg
     clear hrg
     go_wp2_with (at_mapUpdate; refine MpB.wpList_put _ rfl _ _ _ rfl w.heap.size _ _ rfl HIN.out ?c1 x rfl rfl HRG.out ?_)
     case c1 => unfold maxLen; omega
     intro w2 his2 hg2
     have HI2 := Lib.hid (show Is w2 w.heap.size (FsV.seen l i (j + 1)).length (hasB (FsV.seen l i (j + 1))) from by
      rw [HST.out]
      refine (his2.mono (by simp)).as fun y _ => ?_
      rw [FsV.has_snoc, Bool.or_comm]
      congr 1
      exact decide_eq_decide.2 eq_comm)
     have HO2 := Lib.hid (NiF.own_chg HOA.out (Chg.of_grown hg2) (fun z hz hz2 => by
      have h1 := NiF.own_lies HOA.out z hz
      have h2 : z = w.heap.size := by simpa using hz2
      omega))
     have hsz2 := hg2.size
     have HB2 := Lib.hid ((HN.out.grown hg2 HN.out.size (fun k hk => by cases hk; exact Nat.le_refl _)))
     clear his2 hg2
     go_wp2
     go_roundw
     case rel => exact ⟨j + 1, by omega, by go_num, HI2.out, HO2.out, by omega, HB2.out⟩
     case measure => simp [intOf]; omega
    ·obtain rfl : j = m := by omega
     have HI3 := Lib.hid (show Is wr w.heap.size (FsV.seen l (i + 1) 0).length (hasB (FsV.seen l (i + 1) 0)) from by rw [<- HEND.out]; exact HIN.out)
     go_wp2
     go_roundw
     case rel => exact ⟨i + 1, by omega, by go_num, HI3.out, HN.out⟩
     case measure => simp [intOf]; omega
  ·obtain rfl : i = M := by omega
   have HLE := Lib.hid (show (FsV.seen l i 0).length <= 1073741824 from by
    rw [FsV.seen_zero, List.take_of_length_le (by rw [<- HM.out]; exact Nat.le_refl _)]
    exact HAL.out)
   have HI3 := Lib.hid (show Is wr w.heap.size (FsV.seen l i 0).length (hasB (allB l)) from by
    have := HI.out
    rw [FsV.seen_zero, List.take_of_length_le (by rw [<- HM.out]; exact Nat.le_refl _)] at this
    rw [FsV.seen_zero, List.take_of_length_le (by rw [<- HM.out]; exact Nat.le_refl _)]
    exact this)
   go_wp2
   go_ret
   exact ⟨_, HLE.out, rfl, HI3.out, HB.out⟩
theorem inuse_any (w : World) (v : Value) (l : List I) (hc : IF.cost l <= 1073741824) (hl : IF.Lim l) (h : IF.Holds w v l) :
  Calls Tryz.prog 160 #[v] w fun e w' => ∃ n, e = .returned (.map (some w.heap.size)) /\ Is w' w.heap.size n (hasB (allB l)) /\ Below w.heap.size w w' :=
 (inuse_le w v l hc hl h).mono fun e w' ⟨n, _, h⟩ => ⟨n, h⟩
end Go.Proofs.YthppbcnejapbiaaGreatDoor.FsU

-- YthppbcnejapbiaaGreatDoorFsW
/- A part. -/
namespace Go.Proofs.YthppbcnejapbiaaGreatDoor.FsW
open Go.ChangeShapes Go.WideShapes Go.ChangeAt Go.RowKit
open Foot Bx
open InoV (I usedV hasB)
open FsV (F allB pre goB ownB oneB ownerV)
open Dk (ret_bool)
open MpB (Is)
open FsU (row_at used_mem)
set_option linter.unusedVariables false
theorem one_of {l : List I} {i j : Nat} {u x : Int} {A B : Bool} (hA : hasB (allB l) x = true) (hs : (hasB (allB l) x && !hasB (FsV.seen l i j) x) = A) (hB : decide (ownerV x = u) = B) : oneB (FsV.seen l i j) (u, x) = (B && A) := by
 rw [oneB, <- hs, <- hB, hA]; rfl
set_option maxRecDepth 100000 in
set_option maxHeartbeats 6400000 in
theorem own_impl (w : World) (v : Value) (l : List I) (hc : IF.cost l <= 1073741824) (hl : IF.Lim l) (h : IF.Holds w v l) :
  Calls Tryz.prog 134 #[v] w fun e w' => e = .returned (.bool (ownB l)) /\ Below w.heap.size w w' := by
 have HIU := Lib.hid (fun W (hb : Below w.heap.size w W) => FsU.inuse_any W v l hc hl (IF.holds_below h hb))
 obtain ⟨a, cap, rfl, hle, hat⟩ := IF.atL h
 have HC := Lib.hid hat
 have hlen : l.length <= 1073741824 := Nat.le_trans (Nat.le_add_right _ _) hc
 have hcs : IF.csum l <= 1073741824 := Nat.le_trans (Nat.le_add_left _ _) hc
 have HLM := Lib.hid hl.2
 have HCA := Lib.hid (fun i (hi : i < l.length) => Nat.le_trans (IF.cost_at hi) hcs)
 have HHA := Lib.hid (fun i j hi hj => FsV.has_at (ns := l) (i := i) (j := j) hi hj)
 have HNO := Lib.hid (fun i j hi hj => FsV.own_no l i j hi hj)
 have HST := Lib.hid (fun i j hj => FsV.own_step l i j hj)
 have HEN := Lib.hid (fun i hi => FsV.own_end l i hi)
 obtain ⟨M, hM⟩ : ∃ M, M = l.length := ⟨_, rfl⟩
 rw [<- hM] at hlen hle HIU ⊢
 have HM := Lib.hid hM
 clear hM hat h hc hl hcs
 go_enter Tryz.func134, Tryz.ntmps134
 go_wp2_with fail
 refine (HIU.out _ (Below.refl _ _)).mono ?_
 rintro e w0 ⟨N, rfl, his0, hb0⟩
 have HI0 := Lib.hid (show Is w0 w.heap.size N (fun x => hasB (allB l) x && !hasB (FsV.seen l 0 0) x) from his0.as fun x _ => by rw [show hasB (FsV.seen l 0 0) x = false from rfl]; simp)
 have HB0 := Lib.hid hb0
 clear his0 hb0 HIU
 go_wp2
 go_loopw [12] (fun iv wr => ∃ i : Nat, i <= M /\ iv = .int .i64 i /\ Is wr w.heap.size N (fun x => hasB (allB l) x && !hasB (FsV.seen l i 0) x) /\ goB [] (pre l i 0) = true /\ Below w.heap.size w wr) (fun iv _ => M - (intOf iv).toNat)
 case atStart => exact ⟨0, Nat.zero_le _, rfl, HI0.out, rfl, HB0.out⟩
 case round =>
  obtain ⟨i, hi, rfl, his, hgo, hbel⟩ := hrel
  have HB := Lib.hid hbel
  have HI := Lib.hid his
  have HG := Lib.hid hgo
  have hsz := hbel.size
  clear his hbel hgo HI0 HB0
  by_cases hlt : i < M
  ·have hlx : i < l.length := by rw [<- HM.out]; exact hlt
   obtain ⟨b, o, rfl, hb, r0, r1, r2, hC, hP⟩ := HC.out i hlx
   have HP := Lib.hid (IF.parts_holds (IF.parts_below hP HB.out))
   obtain ⟨p0, p1, p2⟩ := hP
   obtain ⟨a0, d0, rfl⟩ := NiF.form p0
   obtain ⟨a1, d1, rfl⟩ := AeF.form p1
   obtain ⟨a2, d2, rfl⟩ := AeF.form p2
   obtain ⟨c0, c1, c2, c3, c4, c5, c6, c7, c8, c9⟩ := hC.below hb HB.out
   clear hC p0 p1 p2
   have hcx := HCA.out i hlx
   have HRX := Lib.hid (HLM.out _ (IF.mem_getD hlx)).blocks.2
   have HE1 := Lib.hid (FsV.seen_end l i hlx)
   have HE2 := Lib.hid (FsV.pre_end l i hlx)
   have HSN := Lib.hid (FsV.seen_snoc l i)
   have HNI := Lib.hid (fun j hj => HNO.out i j hlx hj)
   have HSI := Lib.hid (fun j hj => HST.out i j hj)
   have HHI := Lib.hid (fun j hj => HHA.out i j hlx hj)
   rw [show InoV.zero = IF.z0 from rfl] at HE1 HE2 HSN HNI HSI HHI
   generalize l.getD i IF.z0 = n at c0 c1 c2 c3 c4 c5 c6 c7 c8 c9 HP hcx HRX HE1 HE2 HSN HNI HSI HHI
   have hbl : n.blocks.length <= 1073741824 := Nat.le_trans (In.le_blocks n) hcx
   have HN := Lib.hid (HB.out.alloc hsz (.cells #[.int .i64 n.kind, .int .i64 n.mode, .int .i64 n.uid, .int .i64 n.gid, .int .i64 n.links, .int .i64 n.size, .int .i64 n.tick, .slice a0 n.blocks.length d0, .slice a1 n.acl.length d1, .slice a2 n.dflt.length d2] 89))
   have HIN := Lib.hid (HI.out.alloc (.cells #[.int .i64 n.kind, .int .i64 n.mode, .int .i64 n.uid, .int .i64 n.gid, .int .i64 n.links, .int .i64 n.size, .int .i64 n.tick, .slice a0 n.blocks.length d0, .slice a1 n.acl.length d1, .slice a2 n.dflt.length d2] 89))
   have HPN := Lib.hid (In.holds_below HP.out ((Below.refl wr.heap.size wr).alloc (Nat.le_refl _) (.cells #[.int .i64 n.kind, .int .i64 n.mode, .int .i64 n.uid, .int .i64 n.gid, .int .i64 n.links, .int .i64 n.size, .int .i64 n.tick, .slice a0 n.blocks.length d0, .slice a1 n.acl.length d1, .slice a2 n.dflt.length d2] 89)))
   have HXN := Lib.hid (new wr #[.int .i64 n.kind, .int .i64 n.mode, .int .i64 n.uid, .int .i64 n.gid, .int .i64 n.links, .int .i64 n.size, .int .i64 n.tick, .slice a0 n.blocks.length d0, .slice a1 n.acl.length d1, .slice a2 n.dflt.length d2] 89)
   go_wp2_with fail
   refine (InEq.used_impl _ _ n hbl HPN.out).mono ?_
   rintro e w1 ⟨y, S, rfl, hown, hb1⟩
   obtain ⟨ya, yc, rfl⟩ := NiF.own_form hown
   have hs1 := hb1.size
   have hbs := HIN.out.lt
   have hbs0 := HI.out.lt
   simp only [World.size_alloc] at hs1 hbs
   have HO := Lib.hid (NiF.own_mono hown (show w.heap.size + 1 <= _ by simp only [World.size_alloc]; omega))
   replace HN := Lib.hid (HN.out.trans (hb1.mono HN.out.size))
   replace HIN := Lib.hid (HIN.out.below hb1)
   replace HXN := Lib.hid (HXN.out.all hb1)
   have HUM := Lib.hid (fun x (hx : x ∈ usedV n.blocks) => HRX.out x (used_mem hx))
   obtain ⟨ul, hul⟩ : ∃ ul, ul = usedV n.blocks := ⟨_, rfl⟩
   rw [<- hul] at HO HE1 HE2 HSN HUM HNI HSI HHI ⊢
   have hul2 : ul.length <= 1073741824 := by rw [hul]; exact Nat.le_trans (InEq.used_len _) hbl
   obtain ⟨m, hm⟩ : ∃ m, m = ul.length := ⟨_, rfl⟩
   have HOA := Lib.hid HO.out
   rw [<- hm] at HOA HE1 HE2 HSN HNI HSI HHI hul2 ⊢
   have HML := Lib.hid hm
   obtain ⟨W1, hW1⟩ : ∃ W1, W1 = wr.heap.size := ⟨_, rfl⟩
   rw [<- hW1] at HXN ⊢
   have hbx : w.heap.size < W1 := by omega
   have hbx1 : W1 < w1.heap.size := by omega
   clear hown hb1 hul hm c0 c1 c2 c3 c4 c5 c6 c7 c8 c9 HO hW1
   go_wp2
   go_loopw [19] (fun jv wq => ∃ j : Nat, j <= m /\ jv = .int .i64 j /\ Is wq w.heap.size N (fun x => hasB (allB l) x && !hasB (FsV.seen l i j) x) /\ goB [] (pre l i j) = true /\ NiF.Own wq (w.heap.size + 1) (.slice ya m yc) ul S /\ Bk wq W1 #[.int .i64 n.kind, .int .i64 n.mode, .int .i64 n.uid, .int .i64 n.gid, .int .i64 n.links, .int .i64 n.size, .int .i64 n.tick, .slice a0 n.blocks.length d0, .slice a1 n.acl.length d1, .slice a2 n.dflt.length d2] 89 /\ W1 < wq.heap.size /\ Below w.heap.size w wq) (fun jv _ => m - (intOf jv).toNat)
   case atStart => exact ⟨0, Nat.zero_le _, rfl, HIN.out, HG.out, HOA.out, HXN.out, hbx1, HN.out⟩
   case round =>
    obtain ⟨j, hj, rfl, his, hgo, hown, hxn, hszq, hbel⟩ := hrel
    replace HN := Lib.hid hbel
    replace HIN := Lib.hid his
    replace HOA := Lib.hid hown
    replace HG := Lib.hid hgo
    replace HXN := Lib.hid hxn
    clear his hown hbel hgo hxn hbx1
    by_cases hltj : j < m
    ·have hjl : j < ul.length := by rw [<- HML.out]; exact hltj
     have hown := HOA.out
     rw [HML.out] at hown
     obtain ⟨b2, o2, rfl, g0⟩ := row_at hown j hjl
     have hrg : Rg (ul.getD j 0) := HUM.out _ (FsV.mem_getD hjl)
     have HSJ := Lib.hid (HSN.out j hltj)
     have HNJ := Lib.hid (HNI.out j hltj)
     have HSK := Lib.hid (HSI.out j hltj HG.out)
     have HHJ := Lib.hid (HHI.out j hltj)
     clear hown
     generalize ul.getD j 0 = x at g0 hrg HSJ HNJ HSK HHJ
     have HRG := Lib.hid hrg
     clear hrg
     obtain ⟨A, hA⟩ : ∃ A, (hasB (allB l) x && !hasB (FsV.seen l i j) x) = A := ⟨_, rfl⟩
     have HA := Lib.hid hA
     clear hA
     have hu2 := Fam.cell (W := wr) (p := ⟨W1, 2, none⟩) hszq (show _ = some (.int .i64 n.uid) from HXN.out.cell 2)
     have HOW := Lib.hid (fun W => FsO.owner_impl x W)
     have hlk : ∀ q : Fam.Ix wr, (Instr.lookup 138 (.map (some w.heap.size)) (.int .i64 x) false).run Tryz.prog (Fam.wld wr q) = .ok (.bool A) (Fam.wld wr q) := fun q => by
      rw [<- HA.out]; exact (HIN.out.below (Fam.wld_below wr q)).look HRG.out
     obtain ⟨B, hB⟩ : ∃ B, decide (ownerV x = n.uid) = B := ⟨_, rfl⟩
     have HOB := Lib.hid hB
     have hB1 : (ownerV x == n.uid) = B := by rw [<- hB]; by_cases hh : ownerV x = n.uid <;> simp [hh]
     have hB2 : (ownerV x != n.uid) = !B := by rw [bne, hB1]
     clear hB
     go_wp2
     refine Fam.region (by kernel_rfl) (by kernel_rfl) ?_
     cases A
     ·repeat (go_big_quiet_step (first | (go_at_call 173; with_reducible refine Fam.calls_same (HOW.out _))))
      refine wpQuiet_nil ?_
      intro _ hw'
      obtain ⟨nq, hw''⟩ := hw'
      subst hw''
      have hbq := Fam.wld_below _ nq
      generalize Fam.wld _ nq = w9 at hbq ⊢
      have HF := Lib.hid (HNJ.out (by rw [one_of HHJ.out HA.out HOB.out]; simp))
      have HB9 := Lib.hid (HN.out.trans (hbq.mono HN.out.size))
      clear hbq hu2 hlk g0
      go_wp2
      go_ret
      exact ⟨ret_bool HF.out.symm, HB9.out⟩
     ·cases B
      ·repeat (go_big_quiet_step (first | (go_at_call 173; with_reducible refine Fam.calls_same (HOW.out _))))
       refine wpQuiet_nil ?_
       intro _ hw'
       obtain ⟨nq, hw''⟩ := hw'
       subst hw''
       have hbq := Fam.wld_below _ nq
       generalize Fam.wld _ nq = w9 at hbq ⊢
       have HF := Lib.hid (HNJ.out (by rw [one_of HHJ.out HA.out HOB.out]; simp))
       have HB9 := Lib.hid (HN.out.trans (hbq.mono HN.out.size))
       clear hbq hu2 hlk g0
       go_wp2
       go_ret
       exact ⟨ret_bool HF.out.symm, HB9.out⟩
      ·repeat (go_big_quiet_step (first | (go_at_call 173; with_reducible refine Fam.calls_same (HOW.out _))))
       refine wpQuiet_nil ?_
       intro _ hw'
       obtain ⟨nq, hw''⟩ := hw'
       subst hw''
       have hbq := Fam.wld_below _ nq
       generalize Fam.wld _ nq = w9 at hbq ⊢
       have HS := Lib.hid (HSK.out (by rw [one_of HHJ.out HA.out HOB.out]; rfl))
       have HB9 := Lib.hid (HN.out.trans (hbq.mono HN.out.size))
       have HI9 := Lib.hid (HIN.out.below hbq)
       have HO9 := Lib.hid (NiF.own_below HOA.out hbq)
       have HX9 := Lib.hid (HXN.out.all hbq)
       have hs9 := hbq.size
       clear hbq hu2 hlk g0 hB1 hB2
       go_wp2_with (at_delete; refine MpB.wpList_del _ rfl _ _ rfl w.heap.size _ _ rfl HI9.out x rfl HRG.out ?_)
       intro w2 his2 hg2
       have HI2 := Lib.hid (show Is w2 w.heap.size N (fun y => hasB (allB l) y && !hasB (FsV.seen l i (j + 1)) y) from his2.as fun y _ => by
        rw [HSJ.out, FsV.has_snoc]
        by_cases hyx : y = x
        ·subst hyx; simp
        ·have : ¬ x = y := fun e => hyx e.symm
         simp [hyx, this])
       have HO2 := Lib.hid (NiF.own_chg HO9.out (Chg.of_grown hg2) (fun z hz hz2 => by
        have h1 := NiF.own_lies HO9.out z hz
        have h2 : z = w.heap.size := by simpa using hz2
        omega))
       have HX2 := Lib.hid (HX9.out.grown hg2 (by simp; omega))
       have hsz2 := hg2.size
       have HB2 := Lib.hid ((HB9.out.grown hg2 HB9.out.size (fun k hk => by cases hk; exact Nat.le_refl _)))
       clear his2 hg2
       go_wp2
       go_roundw
       case rel => exact ⟨j + 1, by omega, by go_num, HI2.out, HS.out, HO2.out, HX2.out, by omega, HB2.out⟩
       case measure => simp [intOf]; omega
    ·obtain rfl : j = m := by omega
     have HI3 := Lib.hid (show Is wr w.heap.size N (fun x => hasB (allB l) x && !hasB (FsV.seen l (i + 1) 0) x) from by rw [<- HE1.out]; exact HIN.out)
     have HG3 := Lib.hid (show goB [] (pre l (i + 1) 0) = true from by rw [<- HE2.out]; exact HG.out)
     go_wp2
     go_roundw
     case rel => exact ⟨i + 1, by omega, by go_num, HI3.out, HG3.out, HN.out⟩
     case measure => simp [intOf]; omega
  ·obtain rfl : i = M := by omega
   have HF := Lib.hid (HEN.out i HM.out HG.out)
   go_wp2
   go_ret
   exact ⟨ret_bool HF.out.symm, HB.out⟩
end Go.Proofs.YthppbcnejapbiaaGreatDoor.FsW

-- YthppbcnejapbiaaGreatDoorFsB
/- A part. -/
namespace Go.Proofs.YthppbcnejapbiaaGreatDoor.FsB
open Go.ChangeShapes Go.WideShapes Go.ChangeAt Go.RowKit
open Foot Bx
open InoV (I usedV hasB needV)
open FsV (F allB ownB beyond zB freeB elseB okF partsB tickB rootB allTo rangeTo)
open Dk (ret_bool)
open MpB (Is)
set_option linter.unusedVariables false
structure Fit (f : F) (n : I) : Prop where
 len : f.data.length = 56
 size : ∀ s ∈ f.data, s.size = 32
 need : (n.blocks.length : Int) = needV n.size
 lo : 0 <= n.size
 hi : n.size <= 256
 blk : ∀ b ∈ n.blocks, b = -1 \/ (0 <= b /\ b <= 55)
theorem Fit.x {f : F} {n : I} (h : Fit f n) {L : Nat} (hL : n.blocks.length = L + 1) : ∃ X : Nat, n.size = (X : Int) + (L : Int) * 32 /\ X <= 32 /\ L <= 7 := by
 have h1 := h.need
 have h2 := h.lo
 have h3 := h.hi
 rw [hL] at h1
 unfold needV at h1
 split at h1
 ·omega
 ·exact ⟨(n.size - (L : Int) * 32).toNat, by omega, by omega, by omega⟩
theorem beyond_none {f : F} {n : I} (h : n.blocks.length = 0) : beyond f n = ⟨#[]⟩ := by rw [beyond, if_pos h]; rfl
theorem beyond_hole {f : F} {n : I} {L : Nat} (hL : n.blocks.length = L + 1) (h : n.blocks.getD L 0 = -1) : beyond f n = ⟨#[]⟩ := by
 rw [beyond, if_neg (by omega), hL, Nat.add_sub_cancel, if_pos h]; rfl
theorem beyond_at {f : F} {n : I} {L X k : Nat} (hL : n.blocks.length = L + 1) (h : n.blocks.getD L 0 = (k : Int)) (hx : n.size = (X : Int) + (L : Int) * 32) : beyond f n = (f.data.getD k ⟨#[]⟩).extract X 32 := by
 rw [beyond, if_neg (by omega), hL, Nat.add_sub_cancel, if_neg (by omega), h, hx, show ((k : Int)).toNat = k from rfl, show ((X : Int) + (L : Int) * 32 - (((L + 1 : Nat) : Int) - 1) * 32).toNat = X from by omega]; rfl
set_option maxRecDepth 100000 in
set_option maxHeartbeats 3200000 in
theorem beyond_impl (w : World) (vf vn : Value) (f : F) (n : I) (hF : FsF.Holds w vf f) (hN : In.Holds w vn n) (hfit : Fit f n) :
  Calls Tryz.prog 175 #[vf, vn] w fun e w' => e = .returned (.string (beyond f n)) /\ Below w.heap.size w w' := by
 obtain ⟨r0, r1, r2, rfl, g0, g1, g2⟩ := hF
 obtain ⟨qa, qc, rfl⟩ := QF.form g0
 obtain ⟨ia, ic, rfl⟩ := IF.form g1
 obtain ⟨da, dc, rfl, hD⟩ := g2
 obtain ⟨s0, s1, s2, rfl, k0, k1, k2⟩ := hN
 obtain ⟨a, c, rfl, _, hB⟩ := k0
 obtain ⟨a1, d1, rfl⟩ := AeF.form k1
 obtain ⟨a2, d2, rfl⟩ := AeF.form k2
 have HD := Lib.hid (show ∀ i, i < f.data.length -> ∃ b o, da = some ⟨b, o, none⟩ /\ b < w.heap.size /\ w.cell? ⟨b, o + i, none⟩ = some (.string (f.data.getD i ⟨#[]⟩)) from fun i hi => by
  obtain ⟨b, o, e, hlt, hcell⟩ := hD (by intro e; rw [e] at hi; simp at hi)
  exact ⟨b, o, e, hlt, hcell i hi⟩)
 have HBL := Lib.hid hB
 have HFIT := Lib.hid hfit
 clear g0 g1 hD k1 k2 hB hfit
 have HB0 := Lib.hid (((Below.refl w.heap.size w).alloc (Nat.le_refl _) (.cells #[.int .i64 f.tick, .slice qa f.quotas.length qc, .slice ia f.inodes.length ic, .slice da f.data.length dc] 33)).alloc (by simp) (.cells #[.int .i64 n.kind, .int .i64 n.mode, .int .i64 n.uid, .int .i64 n.gid, .int .i64 n.links, .int .i64 n.size, .int .i64 n.tick, .slice a n.blocks.length c, .slice a1 n.acl.length d1, .slice a2 n.dflt.length d2] 89))
 have HX := Lib.hid ((new w #[.int .i64 f.tick, .slice qa f.quotas.length qc, .slice ia f.inodes.length ic, .slice da f.data.length dc] 33).alloc (.cells #[.int .i64 n.kind, .int .i64 n.mode, .int .i64 n.uid, .int .i64 n.gid, .int .i64 n.links, .int .i64 n.size, .int .i64 n.tick, .slice a n.blocks.length c, .slice a1 n.acl.length d1, .slice a2 n.dflt.length d2] 89))
 have HY := Lib.hid (new_at (w.alloc (.cells #[.int .i64 f.tick, .slice qa f.quotas.length qc, .slice ia f.inodes.length ic, .slice da f.data.length dc] 33)) #[.int .i64 n.kind, .int .i64 n.mode, .int .i64 n.uid, .int .i64 n.gid, .int .i64 n.links, .int .i64 n.size, .int .i64 n.tick, .slice a n.blocks.length c, .slice a1 n.acl.length d1, .slice a2 n.dflt.length d2] 89 (w.heap.size + 1) (by simp))
 rcases Nat.eq_zero_or_pos n.blocks.length with h0 | hp
 ·have HV := Lib.hid (beyond_none (f := f) h0)
  rw [h0]
  clear h0
  rw [HV.out]
  generalize f.data.length = DM at HD ⊢
  generalize f.inodes.length = DI at *
  generalize f.quotas.length = DQ at *
  go_enter Tryz.func175, Tryz.ntmps175
  go_wp2
  go_ret
  exact ⟨rfl, ((Below.refl w.heap.size w).alloc (Nat.le_refl _) _).alloc (by simp) _⟩
 ·obtain ⟨L, hL⟩ : ∃ L, n.blocks.length = L + 1 := ⟨n.blocks.length - 1, by omega⟩
  obtain ⟨X, hX, hX32, hL7⟩ := HFIT.out.x hL
  obtain ⟨b1, o1, rfl, hlt1, gB⟩ := HBL.out L (by omega)
  have HHO := Lib.hid (fun h => beyond_hole (f := f) hL h)
  have HAT := Lib.hid (fun k h => beyond_at (f := f) (k := k) hL h hX)
  have hbk := HFIT.out.blk _ (show n.blocks.getD L 0 ∈ n.blocks from FsV.mem_getD (by omega))
  have hlen := HFIT.out.len
  have HSZ := Lib.hid HFIT.out.size
  rw [hL, hlen] at HB0 HX HY ⊢
  rw [hX] at HB0 HX HY ⊢
  rw [hlen] at HD
  have HLN := Lib.hid hlen
  clear hL hX hp hlen HFIT
  have gB2 := HB0.out.cell (p := ⟨b1, o1 + L, none⟩) hlt1
  rw [gB] at gB2
  have y5 := HY.out.cell 5
  have y7 := HY.out.cell 7
  have x3 := HX.out.cell 3
  dsimp at y5 y7 x3
  generalize n.blocks.getD L 0 = bl at gB gB2 hbk HHO HAT
  by_cases hm : bl = -1
  ·subst hm
   have HV := Lib.hid (HHO.out rfl)
   clear hbk gB HD HSZ HAT HHO
   rw [HV.out]
   generalize f.inodes.length = DI at *
   generalize f.quotas.length = DQ at *
   go_enter Tryz.func175, Tryz.ntmps175
   go_wp2
   go_ret
   exact ⟨rfl, HB0.out⟩
  ·obtain ⟨k, rfl⟩ : ∃ k : Nat, bl = k := ⟨bl.toNat, by omega⟩
   have hk : k < 56 := by omega
   obtain ⟨b2, o2, rfl, hlt2, gD⟩ := HD.out k hk
   have HV := Lib.hid (HAT.out k rfl)
   have gD2 := HB0.out.cell (p := ⟨b2, o2 + k, none⟩) hlt2
   rw [gD] at gD2
   have hsz : (f.data.getD k ⟨#[]⟩).size = 32 := HSZ.out _ (FsV.mem_getD (by rw [HLN.out]; exact hk))
   have hm1 : ((k : Int) == -1) = false := by simp
   have hm2 : ((k : Int) != -1) = true := by simp
   clear hbk gB hm HHO HAT gD HD HSZ HLN
   rw [HV.out]
   generalize f.data.getD k ⟨#[]⟩ = s at gD2 hsz ⊢
   have HSS := Lib.hid hsz
   have hs1 : (s.size : Int) = 32 := by omega
   generalize f.inodes.length = DI at *
   generalize f.quotas.length = DQ at *
   go_enter Tryz.func175, Tryz.ntmps175
   go_wp2
   generalize (w.alloc (.cells #[.int .i64 f.tick, .slice qa DQ qc, .slice ia DI ic, .slice (some ⟨b2, o2, none⟩) 56 dc] 33)).alloc _ = w0 at *
   have z5 := Fam.cell (W := w0) (p := ⟨w.heap.size + 1, 5, none⟩) HY.out.lt y5
   have z7 := Fam.cell (W := w0) (p := ⟨w.heap.size + 1, 7, none⟩) HY.out.lt y7
   have z3 := Fam.cell (W := w0) (p := ⟨w.heap.size, 3, none⟩) HX.out.lt x3
   have zb := Fam.cell (W := w0) (p := ⟨b1, o1 + L, none⟩) (by have := HB0.out.size; show b1 < _; omega) gB2
   have zd := Fam.cell (W := w0) (p := ⟨b2, o2 + k, none⟩) (by have := HB0.out.size; show b2 < _; omega) gD2
   clear y5 y7 x3 gB2 gD2
   refine Fam.region (by kernel_rfl) (by kernel_rfl) ?_
   repeat (go_big_quiet_step (fail))
   refine wpQuiet_nil ?_
   intro _ hw'
   obtain ⟨nq, hw''⟩ := hw'
   subst hw''
   have hbq := Fam.wld_below _ nq
   generalize Fam.wld _ nq = w9 at hbq ⊢
   replace HB0 := Lib.hid (HB0.out.trans (hbq.mono HB0.out.size))
   clear hbq z5 z7 z3 zb zd
   go_wp2
   go_ret
   exact ⟨rfl, HB0.out⟩
end Go.Proofs.YthppbcnejapbiaaGreatDoor.FsB

-- YthppbcnejapbiaaGreatDoorIsZeroes
/- A part. -/
namespace Go.Proofs.YthppbcnejapbiaaGreatDoor.IsZeroes
set_option maxHeartbeats 400000
set_option maxRecDepth 100000
open Go.ChangeShapes Go.WideShapes Go.ChangeAt Go.RowKit
set_option linter.unusedVariables false
def zeroB (l : List UInt8) : Bool := l.all (· == 0)
theorem ret_bool {a b : Bool} (h : a = b) : Ending.returned (.bool a) = .returned (.bool b) := by rw [h]
theorem drop_nil (l : List UInt8) (h : zeroB l = true) : l.dropWhile (· == 0) = [] := by
 induction l with
 | nil => rfl
 | cons a l ih =>
  simp only [zeroB, List.all_cons, Bool.and_eq_true] at h
  rw [List.dropWhile_cons, if_pos h.1]
  exact ih h.2
theorem nil_drop (l : List UInt8) (h : l.dropWhile (· == 0) = []) : zeroB l = true := by
 induction l with
 | nil => rfl
 | cons a l ih =>
  rw [List.dropWhile_cons] at h
  split at h
  ·rename_i ha
   simp only [zeroB, List.all_cons, Bool.and_eq_true]
   exact ⟨ha, ih h⟩
  ·cases h
theorem zero_rev (l : List UInt8) : zeroB l.reverse = zeroB l := by simp [zeroB]
theorem zero_append (a b : List UInt8) : zeroB (a ++ b) = (zeroB a && zeroB b) := by simp [zeroB]
theorem zero_take (l : List UInt8) : zeroB (l.takeWhile (· == 0)) = true := by
 induction l with
 | nil => rfl
 | cons a l ih =>
  rw [List.takeWhile_cons]
  split
  ·rename_i ha
   simp only [zeroB, List.all_cons, Bool.and_eq_true]
   exact ⟨ha, ih⟩
  ·rfl
theorem trim_nil (l : List UInt8) : (Lib.trimB l 0 = []) ↔ zeroB l = true := by
 unfold Lib.trimB Lib.trimLeftB Lib.trimRightB
 constructor
 ·intro h
  have h1 := nil_drop _ h
  rw [zero_rev] at h1
  have h2 : zeroB (l.reverse.takeWhile (· == 0) ++ l.reverse.dropWhile (· == 0)) = true := by
   rw [zero_append, zero_take, h1]; rfl
  rw [List.takeWhile_append_dropWhile, zero_rev] at h2
  exact h2
 ·intro h
  rw [drop_nil l.reverse (by rw [zero_rev]; exact h)]
  rfl
theorem empty_is (l : List UInt8) : (⟨(Lib.trimB l 0).toArray⟩ : ByteArray).toList.isEmpty = zeroB l := by
 rw [ByteArray.toList_eq]
 have e : (⟨(Lib.trimB l 0).toArray⟩ : ByteArray).data.toList = Lib.trimB l 0 := by simp
 rw [e, Bool.eq_iff_iff, List.isEmpty_iff]
 exact trim_nil l
def upto (s : ByteArray) (k : Nat) : Prop := zeroB (s.data.toList.take k) = true
theorem upto_zero (s : ByteArray) : upto s 0 := by simp [upto, zeroB]
theorem upto_succ (s : ByteArray) (k : Nat) (h : k < s.size) (hu : upto s k) (hd : s[k] = 0) : upto s (k + 1) := by
 unfold upto at *
 rw [List.take_succ_eq_append_getElem (by simpa using h), zero_append, hu]
 have : s.data.toList[k]'(by simpa using h) = s[k] := rfl
 rw [this, hd]; rfl
theorem no_of (s : ByteArray) (k : Nat) (h : k < s.size) (hd : s[k] ≠ 0) : zeroB s.data.toList = false := by
 have hm : s[k] ∈ s.data.toList := by
  have : s.data.toList[k]'(by simpa using h) = s[k] := rfl
  rw [<- this]; exact List.getElem_mem _
 rw [zeroB, List.all_eq_false]
 exact ⟨_, hm, by simpa using hd⟩
theorem end_of (s : ByteArray) (k : Nat) (h : s.size <= k) (hu : upto s k) : zeroB s.data.toList = true := by
 unfold upto at hu
 rw [List.take_of_length_le (by simpa using h)] at hu
 exact hu
theorem byte_zero (b : UInt8) : ((b.toNat : Int) == 0) = true ↔ b = 0 := by
 rw [beq_iff_eq]
 constructor
 ·intro h; exact UInt8.toNat_inj.1 (by simpa using h)
 ·rintro rfl; rfl
theorem spec_any (s : ByteArray) (w : World) (hs : s.size <= maxLen) :
  Calls Tryz.prog 132 #[.string s] w fun e w' => e = .returned (.bool (zeroB s.data.toList)) /\ w = w' := by
 unfold maxLen at hs
 go_enter Tryz.func132, Tryz.ntmps132
 go_wp2
 go_loop [3] (fun i => ∃ k : Nat, k <= s.size /\ i = .int .i64 k /\ upto s k) (fun i => s.size - (intOf i).toNat)
 case atStart => exact ⟨0, Nat.zero_le _, rfl, upto_zero s⟩
 case round =>
  obtain ⟨k, hk, rfl, hu⟩ := hrel
  have HU := Lib.hid hu
  clear hu
  by_cases hlt : k < s.size
  ·by_cases h0 : s[k] = 0
   ·have hb1 : ((s[k].toNat : Int) == 0) = true := (byte_zero _).2 h0
    have hb2 : ((s[k].toNat : Int) != 0) = false := by simp [h0]
    have HN := Lib.hid (upto_succ s k hlt HU.out h0)
    clear h0
    go_wp2
    go_round
    case rel => exact ⟨k + 1, by omega, by go_num, HN.out⟩
    case measure => simp [intOf]; omega
   ·have hb1 : ((s[k].toNat : Int) == 0) = false := by rw [Bool.eq_false_iff]; exact fun h => h0 ((byte_zero _).1 h)
    have hb2 : ((s[k].toNat : Int) != 0) = true := by rw [bne, hb1]; rfl
    have HN := Lib.hid (no_of s k hlt h0)
    clear h0
    go_wp2
    go_ret
    exact ⟨ret_bool HN.out.symm, rfl⟩
  ·go_wp2
   go_ret
   exact ⟨ret_bool (end_of s k (by omega) HU.out).symm, rfl⟩
theorem impl_any (s : ByteArray) (w : World) (hs : s.size <= maxLen) :
  Calls Tryz.prog 174 #[.string s] w fun e w' => e = .returned (.bool (zeroB s.data.toList)) /\ Below w.heap.size w w' := by
 unfold maxLen at hs
 have HE := Lib.hid (empty_is s.data.toList)
 go_enter Tryz.func174, Tryz.ntmps174
 go_wp2_with fail
 refine (Tryz.strings_Trim_one s 0 (by decide) _ hs).mono ?_
 rintro e w1 ⟨rfl, hw⟩
 have HB := Lib.hid (show Below w.heap.size w w1 by rcases hw with rfl | rfl; exact Below.refl _ _; exact (Below.refl _ _).drew)
 clear hw
 generalize (⟨(Lib.trimB s.data.toList 0).toArray⟩ : ByteArray) = t at HE ⊢
 go_wp2_with fail
 go_ret
 exact ⟨ret_bool HE.out, HB.out⟩
end Go.Proofs.YthppbcnejapbiaaGreatDoor.IsZeroes

-- YthppbcnejapbiaaGreatDoorFsE
/- A part. -/
namespace Go.Proofs.YthppbcnejapbiaaGreatDoor.FsE
set_option maxHeartbeats 6400000
set_option maxRecDepth 100000
open Go.ChangeShapes Go.WideShapes Go.ChangeAt Go.RowKit
open Foot Bx
open InoV (I usedV hasB needV)
open FsV (F allB ownB beyond zB freeB elseB okF partsB tickB rootB allTo rangeTo)
open Dk (ret_bool)
open MpB (Is)
open FsB (Fit)
set_option linter.unusedVariables false
theorem zeroes_any (s : ByteArray) (w : World) (h : s.size <= maxLen) : Calls Tryz.prog 174 #[.string s] w fun e w' => e = .returned (.bool (zB s)) /\ Below w.heap.size w w' := IsZeroes.impl_any s w h
theorem fit_of {f : F} (hp : partsB f = true) (ho : ownB f.inodes = true) {i : Nat} (hi : i < f.inodes.length) : Fit f (f.inodes.getD i InoV.zero) := by
 obtain ⟨_, _, h3, _, h5, h6⟩ := FsV.parts_of hp
 have hm := FsV.mem_getD (z := InoV.zero) hi
 have hn := InoV.ok_nums (h5 _ hm)
 have hbl := InoV.ok_blocks (h5 _ hm)
 generalize f.inodes.getD i InoV.zero = n at hm hn hbl
 refine ⟨h3, h6, hn.2.2.2.2.2.2.2.2.2.2.2.2.2.2, hn.2.2.2.2.2.2.2.2.2.2.1, hn.2.2.2.2.2.2.2.2.2.2.2.1, fun b hb => ?_⟩
 by_cases hb1 : b = -1
 ·exact .inl hb1
 ·right
  have hu : b ∈ usedV n.blocks := List.mem_filter.2 ⟨hb, by simpa using hb1⟩
  have hp2 : (n.uid, b) ∈ FsV.pairs f.inodes := List.mem_flatMap.2 ⟨n, hm, List.mem_map.2 ⟨b, hu, rfl⟩⟩
  have := FsV.owner_in ((FsV.go_mem ho).1 _ hp2) (by dsimp only; omega)
  dsimp only at this
  omega
theorem beyond_size (f : F) (n : I) (h : Fit f n) : (beyond f n).size <= maxLen := by
 unfold maxLen
 rcases Nat.eq_zero_or_pos n.blocks.length with h0 | hp
 ·rw [FsB.beyond_none h0]; decide
 ·obtain ⟨L, hL⟩ : ∃ L, n.blocks.length = L + 1 := ⟨n.blocks.length - 1, by omega⟩
  obtain ⟨X, hX, hX32, hL7⟩ := h.x hL
  by_cases hm : n.blocks.getD L 0 = -1
  ·rw [FsB.beyond_hole hL hm]; decide
  ·have hb := h.blk _ (show n.blocks.getD L 0 ∈ n.blocks from FsV.mem_getD (by omega))
   rw [FsB.beyond_at (k := (n.blocks.getD L 0).toNat) hL (by omega) hX, ByteArray.size_extract]
   omega
theorem else_no1 {f : F} {k : Nat} (hk : k < 56) (h : freeB f k = false) : elseB f = false := by rw [elseB, FsV.range_no hk h]; rfl
theorem else_no2 {f : F} {i : Nat} (hi : i < f.inodes.length) (h : zB (beyond f (f.inodes.getD i InoV.zero)) = false) : elseB f = false := by
 rw [elseB, FsV.all_no (p := fun n => zB (beyond f n)) (z := InoV.zero) hi h, Bool.and_false]
theorem else_impl (w : World) (v : Value) (f : F) (hc : FsF.cost f <= 1073741824) (hl : FsF.Lim f) (hp : partsB f = true) (ho : ownB f.inodes = true) (h : FsF.Holds w v f) :
  Calls Tryz.prog 135 #[v] w fun e w' => e = .returned (.bool (elseB f)) /\ Below w.heap.size w w' := by
 have HFS := Lib.hid h
 obtain ⟨_, hI20, hD56, _, _, _⟩ := FsV.parts_of hp
 have HFIT := Lib.hid (fun i hi => fit_of (i := i) hp ho hi)
 have HBS := Lib.hid (fun i hi => beyond_size f _ (fit_of (i := i) hp ho hi))
 have HSA := Lib.hid (fun i (hi : i < f.data.length) => FsP.size_at hl hi)
 have HN1 := Lib.hid (fun k (hk : k < 56) h => else_no1 (f := f) hk h)
 have HN2 := Lib.hid (fun i hi h => else_no2 (f := f) (i := i) hi h)
 have HIU := Lib.hid (fun W v' (hv : IF.Holds W v' f.inodes) => FsU.inuse_any W v' f.inodes (Nat.le_trans (FsF.le_inodes f) hc) hl.inodes hv)
 obtain ⟨r0, r1, r2, rfl, g0, g1, g2⟩ := h
 have G1 := Lib.hid g1
 obtain ⟨qa, qc, rfl⟩ := QF.form g0
 obtain ⟨ia, ic, rfl, _, hI⟩ := IF.atL g1
 obtain ⟨da, dc, rfl, hD⟩ := g2
 have HI := Lib.hid hI
 have HD := Lib.hid (show ∀ i, i < f.data.length -> ∃ b o, da = some ⟨b, o, none⟩ /\ b < w.heap.size /\ w.cell? ⟨b, o + i, none⟩ = some (.string (f.data.getD i ⟨#[]⟩)) from fun i hi => by
  obtain ⟨b, o, e, hlt, hcell⟩ := hD (by intro e; rw [e] at hi; simp at hi)
  exact ⟨b, o, e, hlt, hcell i hi⟩)
 have HL2 := Lib.hid hI20
 have HL3 := Lib.hid hD56
 rw [hI20] at HFS G1 ⊢
 rw [hD56] at HFS ⊢
 obtain ⟨T, hT⟩ : ∃ T, T = f.tick := ⟨_, rfl⟩
 obtain ⟨Q, hQ⟩ : ∃ Q, Q = f.quotas.length := ⟨_, rfl⟩
 rw [<- hT, <- hQ] at HFS ⊢
 clear hT hQ g0 g1 hI hD hI20 hD56 hc hl hp ho
 have HB0 := Lib.hid ((Below.refl w.heap.size w).alloc (Nat.le_refl _) (.cells #[.int .i64 T, .slice qa Q qc, .slice ia 20 ic, .slice da 56 dc] 33))
 have HX0 := Lib.hid (new w #[.int .i64 T, .slice qa Q qc, .slice ia 20 ic, .slice da 56 dc] 33)
 go_enter Tryz.func135, Tryz.ntmps135
 go_wp2_with fail
 refine (HIU.out _ _ (IF.holds_below G1.out HB0.out)).mono ?_
 rintro e w1 ⟨N, rfl, his, hb⟩
 have HI1 := Lib.hid his
 have HB1 := Lib.hid (HB0.out.trans (hb.mono HB0.out.size))
 have HX1 := Lib.hid (HX0.out.all hb)
 have hsz0 := hb.size
 clear his hb HIU HB0 HX0
 rw [show (w.alloc (.cells #[.int .i64 T, .slice qa Q qc, .slice ia 20 ic, .slice da 56 dc] 33)).heap.size = w.heap.size + 1 from by simp] at HI1 ⊢
 have x3 := HX1.out.cell 3
 dsimp at x3
 go_wp2
 clear x3
 go_loopw [14] (fun iv wr => ∃ k : Nat, k <= 56 /\ iv = .int .i64 k /\ Bk wr w.heap.size #[.int .i64 T, .slice qa Q qc, .slice ia 20 ic, .slice da 56 dc] 33 /\ Is wr (w.heap.size + 1) N (hasB (allB f.inodes)) /\ Below w.heap.size w wr /\ rangeTo (freeB f) k = true) (fun iv _ => 56 - (intOf iv).toNat)
 case atStart => exact ⟨0, Nat.zero_le _, rfl, HX1.out, HI1.out, HB1.out, rfl⟩
 case round =>
  obtain ⟨k, hk, rfl, hx, his, hbel, hr⟩ := hrel
  have HB := Lib.hid hbel
  have HX := Lib.hid hx
  have HS := Lib.hid his
  have HR := Lib.hid hr
  clear hx hbel hr his HX1 HI1 HB1
  by_cases hlt : k < 56
  ·have hkl : k < f.data.length := by rw [HL3.out]; exact hlt
   obtain ⟨b, o, rfl, hb, c0⟩ := HD.out k hkl
   rw [<- HB.out.cell (p := ⟨b, _, none⟩) hb] at c0
   have hcx := HSA.out k hkl
   have HNO := Lib.hid (HN1.out k hlt)
   have HSU := Lib.hid (FsV.rangeTo_succ (freeB f) k)
   have hfree : freeB f k = (hasB (allB f.inodes) k || zB (f.data.getD k ⟨#[]⟩)) := rfl
   have hlk := HS.out.look (x := (k : Int)) (by unfold Rg; omega)
   generalize f.data.getD k ⟨#[]⟩ = s at c0 hcx hfree
   generalize hasB (allB f.inodes) (k : Int) = A at hlk hfree
   have HFR := Lib.hid hfree
   have HCX := Lib.hid hcx
   clear hfree hcx hkl
   cases A
   ·go_wp2_with fail
    refine (zeroes_any s _ HCX.out).mono ?_
    rintro e w2 ⟨rfl, hb2⟩
    have HB2 := Lib.hid (HB.out.trans (hb2.mono HB.out.size))
    have HX2 := Lib.hid (HX.out.all hb2)
    have HS2 := Lib.hid (HS.out.below hb2)
    clear hb2 hlk c0
    cases hz : zB s
    ·have HF := Lib.hid (HNO.out (by rw [HFR.out, hz]; rfl))
     clear hz
     go_wp2
     go_ret
     exact ⟨ret_bool HF.out.symm, HB2.out⟩
    ·have HN := Lib.hid (show rangeTo (freeB f) (k + 1) = true by rw [HSU.out, HR.out, HFR.out, hz]; rfl)
     clear hz
     go_wp2
     go_roundw
     case rel => exact ⟨k + 1, by omega, by go_num, HX2.out, HS2.out, HB2.out, HN.out⟩
     case measure => simp [intOf]; omega
   ·have HN := Lib.hid (show rangeTo (freeB f) (k + 1) = true by rw [HSU.out, HR.out, HFR.out]; rfl)
    go_wp2
    go_roundw
    case rel => exact ⟨k + 1, by omega, by go_num, HX.out, HS.out, HB.out, HN.out⟩
    case measure => simp [intOf]; omega
  ·obtain rfl : k = 56 := by omega
   rw [show ((56 : Nat) : Int) = 56 from rfl]
   have HRA := Lib.hid (show (List.range 56).all (freeB f) = true from HR.out)
   have x2 := HX.out.cell 2
   dsimp at x2
   go_wp2
   clear x2
   go_loopw [32] (fun iv wr => ∃ k : Nat, k <= 20 /\ iv = .int .i64 k /\ Bk wr w.heap.size #[.int .i64 T, .slice qa Q qc, .slice ia 20 ic, .slice da 56 dc] 33 /\ Below w.heap.size w wr /\ allTo (fun n => zB (beyond f n)) f.inodes k = true) (fun iv _ => 20 - (intOf iv).toNat)
   case atStart => exact ⟨0, Nat.zero_le _, rfl, HX.out, HB.out, FsV.allTo_zero _ _⟩
   case round =>
    obtain ⟨k, hk, rfl, hx, hbel, hr⟩ := hrel
    replace HB := Lib.hid hbel
    replace HX := Lib.hid hx
    replace HR := Lib.hid hr
    have hsz := hbel.size
    clear hx hbel hr HS
    by_cases hlt : k < 20
    ·have hkl : k < f.inodes.length := by rw [HL2.out]; exact hlt
     obtain ⟨b, o, rfl, hb, r0, r1, r2, hC, hP⟩ := HI.out k hkl
     have HP := Lib.hid (IF.parts_holds (IF.parts_below hP HB.out))
     obtain ⟨p0, p1, p2⟩ := hP
     obtain ⟨a0, d0, rfl⟩ := NiF.form p0
     obtain ⟨a1, d1, rfl⟩ := AeF.form p1
     obtain ⟨a2, d2, rfl⟩ := AeF.form p2
     obtain ⟨c0, c1, c2, c3, c4, c5, c6, c7, c8, c9⟩ := hC.below hb HB.out
     have HSU := Lib.hid (FsV.allTo_succ (fun n => zB (beyond f n)) f.inodes IF.z0 k hkl)
     have HNO := Lib.hid (HN2.out k hkl)
     have HFI := Lib.hid (HFIT.out k hkl)
     have HSZ := Lib.hid (HBS.out k hkl)
     rw [show InoV.zero = IF.z0 from rfl] at HNO HFI HSZ
     clear hC p0 p1 p2 hkl
     generalize f.inodes.getD k IF.z0 = n at c0 c1 c2 c3 c4 c5 c6 c7 c8 c9 HNO HSU HFI HSZ HP
     have HW := Lib.hid ((Below.refl wr.heap.size wr).alloc (Nat.le_refl _) (.cells #[.int .i64 n.kind, .int .i64 n.mode, .int .i64 n.uid, .int .i64 n.gid, .int .i64 n.links, .int .i64 n.size, .int .i64 n.tick, .slice a0 n.blocks.length d0, .slice a1 n.acl.length d1, .slice a2 n.dflt.length d2] 89))
     have HN := Lib.hid (HB.out.trans (HW.out.mono hsz))
     have HXN := Lib.hid (HX.out.alloc (.cells #[.int .i64 n.kind, .int .i64 n.mode, .int .i64 n.uid, .int .i64 n.gid, .int .i64 n.links, .int .i64 n.size, .int .i64 n.tick, .slice a0 n.blocks.length d0, .slice a1 n.acl.length d1, .slice a2 n.dflt.length d2] 89))
     have HPN := Lib.hid (In.holds_below HP.out HW.out)
     have HFN := Lib.hid (FsF.holds_below HFS.out HN.out)
     obtain ⟨x0, x1, x2, x3⟩ := Bk.c4 HXN.out
     go_wp2_with fail
     refine (FsB.beyond_impl _ _ _ f n HFN.out HPN.out HFI.out).mono ?_
     rintro e w2 ⟨rfl, hb2⟩
     have HB2 := Lib.hid (HN.out.trans (hb2.mono HN.out.size))
     have HX2 := Lib.hid (HXN.out.all hb2)
     clear hb2 x0 x1 x2 x3 c0 c1 c2 c3 c4 c5 c6 c7 c8 c9
     generalize beyond f n = s at HSZ HNO HSU ⊢
     go_wp2_with fail
     refine (zeroes_any s _ HSZ.out).mono ?_
     rintro e w3 ⟨rfl, hb3⟩
     have HB3 := Lib.hid (HB2.out.trans (hb3.mono HB2.out.size))
     have HX3 := Lib.hid (HX2.out.all hb3)
     clear hb3
     cases hz : zB s
     ·have HF := Lib.hid (HNO.out hz)
      clear hz
      go_wp2
      go_ret
      exact ⟨ret_bool HF.out.symm, HB3.out⟩
     ·have HN4 := Lib.hid (show allTo (fun n => zB (beyond f n)) f.inodes (k + 1) = true by rw [HSU.out, HR.out, hz]; rfl)
      clear hz
      go_wp2
      go_roundw
      case rel => exact ⟨k + 1, by omega, by go_num, HX3.out, HB3.out, HN4.out⟩
      case measure => simp [intOf]; omega
    ·obtain rfl : k = 20 := by omega
     have HF := Lib.hid (show elseB f = true by rw [elseB, HRA.out, <- FsV.allTo_end (fun n => zB (beyond f n)) f.inodes 20 HL2.out.symm, HR.out]; rfl)
     go_wp2
     go_ret
     exact ⟨ret_bool HF.out.symm, HB.out⟩
theorem is_impl (w : World) (v : Value) (f : F) (hc : FsF.cost f <= 1073741824) (hl : FsF.Lim f) (hv : InOk.Vars w) (h : FsF.Holds w v f) :
  Calls Tryz.prog 75 #[v] w fun e w' => e = .returned (.bool (okF f)) /\ Below w.heap.size w w' := by
 have HFS := Lib.hid h
 have HHI := Lib.hid (show IF.cost f.inodes <= 1073741824 from Nat.le_trans (FsF.le_inodes f) hc)
 obtain ⟨r0, r1, r2, rfl, g0, g1, g2⟩ := h
 have G1 := Lib.hid g1
 obtain ⟨qa, qc, rfl⟩ := QF.form g0
 obtain ⟨ia, ic, rfl, _, hI⟩ := IF.atL g1
 obtain ⟨da, dc, rfl⟩ := SF.form g2
 have HI := Lib.hid hI
 have HV := Lib.hid hv
 have HLM := Lib.hid hl
 have HCC := Lib.hid hc
 clear g0 g1 g2 hI hv hl hc
 obtain ⟨T, hT⟩ : ∃ T, T = f.tick := ⟨_, rfl⟩
 obtain ⟨Q, hQ⟩ : ∃ Q, Q = f.quotas.length := ⟨_, rfl⟩
 obtain ⟨M, hM⟩ : ∃ M, M = f.inodes.length := ⟨_, rfl⟩
 obtain ⟨D, hD⟩ : ∃ D, D = f.data.length := ⟨_, rfl⟩
 have HTK := Lib.hid (show FsV.tickB f = (decide (0 <= T) && decide (T <= 1000000000)) from by rw [FsV.tickB, hT])
 rw [<- hT, <- hQ, <- hM, <- hD] at HFS ⊢
 rw [<- hM] at G1
 have HM := Lib.hid hM
 clear hT hQ hM hD
 have HB0 := Lib.hid ((Below.refl w.heap.size w).alloc (Nat.le_refl _) (.cells #[.int .i64 T, .slice qa Q qc, .slice ia M ic, .slice da D dc] 33))
 have HX0 := Lib.hid (new w #[.int .i64 T, .slice qa Q qc, .slice ia M ic, .slice da D dc] 33)
 by_cases h0 : T < 0
 ·have HF := Lib.hid (show okF f = false by rw [okF, HTK.out, decide_eq_false (by omega)]; rfl)
  have q1 : decide (T < 0) = true := decide_eq_true h0
  clear h0
  go_enter Tryz.func75, Tryz.ntmps75
  go_wp2
  go_ret
  exact ⟨ret_bool HF.out.symm, HB0.out⟩
 ·by_cases h1 : 1000000000 < T
  ·have HF := Lib.hid (show okF f = false by rw [okF, HTK.out, decide_eq_false (show ¬ T <= 1000000000 by omega)]; simp)
   have q0 : decide (T < 0) = false := decide_eq_false h0
   have q1 : decide (1000000000 < T) = true := decide_eq_true h1
   clear h0 h1
   go_enter Tryz.func75, Tryz.ntmps75
   go_wp2
   go_ret
   exact ⟨ret_bool HF.out.symm, HB0.out⟩
  ·have HT2 := Lib.hid (show FsV.tickB f = true by rw [HTK.out, decide_eq_true (show 0 <= T by omega), decide_eq_true (show T <= 1000000000 by omega)]; rfl)
   have q0 : decide (T < 0) = false := decide_eq_false h0
   have q1 : decide (1000000000 < T) = false := decide_eq_false h1
   clear h0 h1
   go_enter Tryz.func75, Tryz.ntmps75
   go_wp2_with fail
   refine (FsP.parts_impl _ _ f HCC.out HLM.out (HV.out.all HB0.out) (FsF.holds_below HFS.out HB0.out)).mono ?_
   rintro e w1 ⟨rfl, hb1⟩
   have HB1 := Lib.hid (HB0.out.trans (hb1.mono HB0.out.size))
   have HX1 := Lib.hid (HX0.out.all hb1)
   clear hb1
   cases hp : FsV.partsB f
   ·have HF := Lib.hid (show okF f = false by rw [okF, hp]; simp)
    clear hp
    go_wp2
    go_ret
    exact ⟨ret_bool HF.out.symm, HB1.out⟩
   ·have HP := Lib.hid hp
    have hM20 : M = 20 := by rw [HM.out]; exact (FsV.parts_of hp).2.1
    subst hM20
    clear hp
    obtain ⟨b, o, rfl, hb, r0, r1, r2, hC, hPt⟩ := HI.out 0 (by rw [<- HM.out]; omega)
    have c0 := (hC.below hb HB1.out).1
    have HRB := Lib.hid (show FsV.rootB f = decide ((f.inodes.getD 0 IF.z0).kind = 2) from rfl)
    rw [Nat.zero_mul, Nat.add_zero] at c0
    clear hC hPt
    generalize (f.inodes.getD 0 IF.z0).kind = K at c0 HRB
    obtain ⟨x0, x1, x2, x3⟩ := Bk.c4 HX1.out
    by_cases hk : K = 2
    ·have k1 : (K == 2) = true := by simpa using hk
     have k2 : (K != 2) = false := by simpa using hk
     have HR := Lib.hid (show FsV.rootB f = true by rw [HRB.out]; exact decide_eq_true hk)
     clear hk
     go_wp2_with fail
     refine (FsW.own_impl _ _ f.inodes HHI.out HLM.out.inodes (IF.holds_below G1.out HB1.out)).mono ?_
     rintro e w2 ⟨rfl, hb2⟩
     have HB2 := Lib.hid (HB1.out.trans (hb2.mono HB1.out.size))
     have HX2 := Lib.hid (HX1.out.all hb2)
     clear hb2 x0 x1 x2 x3 c0 k1 k2
     cases ho : FsV.ownB f.inodes
     ·have HF := Lib.hid (show okF f = false by rw [okF, ho]; simp)
      clear ho
      go_wp2
      go_ret
      exact ⟨ret_bool HF.out.symm, HB2.out⟩
     ·have HO := Lib.hid ho
      clear ho
      obtain ⟨x0, x1, x2, x3⟩ := Bk.c4 HX2.out
      go_wp2_with fail
      refine (else_impl _ _ f HCC.out HLM.out HP.out HO.out (FsF.holds_below HFS.out HB2.out)).mono ?_
      rintro e w3 ⟨rfl, hb3⟩
      have HB3 := Lib.hid (HB2.out.trans (hb3.mono HB2.out.size))
      clear hb3 x0 x1 x2 x3
      have HF := Lib.hid (show okF f = FsV.elseB f by rw [okF, HT2.out, HP.out, HR.out, HO.out]; rfl)
      go_wp2
      go_ret
      exact ⟨ret_bool HF.out.symm, HB3.out⟩
    ·have k1 : (K == 2) = false := by simpa using hk
     have k2 : (K != 2) = true := by simpa using hk
     have HF := Lib.hid (show okF f = false by rw [okF, HRB.out, decide_eq_false hk]; simp)
     clear hk
     go_wp2
     go_ret
     exact ⟨ret_bool HF.out.symm, HB1.out⟩
end Go.Proofs.YthppbcnejapbiaaGreatDoor.FsE

-- YthppbcnejapbiaaGreatDoorApp
/- A part. -/
namespace Go.Proofs.YthppbcnejapbiaaGreatDoor.App
open Go.ChangeShapes Go.WideShapes Go.ChangeAt Go.RowKit
open Wr (Wt d0)
set_option linter.unusedVariables false
def SrcRow (w : World) (size : Nat) (x : Value) (m : Nat) (news : List Value) : Prop :=
 (m = 0 /\ news = [] /\ ∃ c, x = .slice none 0 c) \/
 ∃ ad c, x = .slice (some ad) m c /\ news.length = m * size /\ (∀ j u, news[j]? = some u -> w.cell? (ad.add j) = some u) /\ ∀ u ∈ news, u.oneCell' = true
theorem src_strs {w : World} {v : Value} {xs : List ByteArray} (h : Strs.Holds w v xs) : SrcRow w 1 v xs.length (xs.map Value.string) := by
 obtain ⟨a, cap, rfl, hc⟩ := h
 by_cases h0 : xs = []
 ·subst h0
  cases a with
  | none => exact .inl ⟨rfl, rfl, cap, rfl⟩
  | some ad => exact .inr ⟨ad, cap, rfl, rfl, fun j u hj => by simp at hj, fun u hu => by cases hu⟩
 ·obtain ⟨b, o, rfl, _, hcell⟩ := hc h0
  refine .inr ⟨⟨b, o, none⟩, cap, rfl, by simp, fun j u hj => ?_, fun u hu => ?_⟩
  ·have hjl : j < xs.length := by have := (List.getElem?_eq_some_iff.1 hj).1; simpa using this
   rw [Addr.add_lit, hcell j hjl, <- hj]
   simp [List.getD, List.getElem?_eq_getElem hjl]
  ·obtain ⟨x, _, rfl⟩ := List.mem_map.1 hu; rfl
theorem SrcRow.below {w w' : World} {size : Nat} {x : Value} {m : Nat} {news : List Value} (h : SrcRow w size x m news) (hb : ∀ p : Addr, ∀ u, w.cell? p = some u -> w'.cell? p = some u) : SrcRow w' size x m news := by
 rcases h with h | ⟨ad, c, rfl, hl, hn, h1⟩
 ·exact .inl h
 ·exact .inr ⟨ad, c, rfl, hl, fun j u hj => hb _ _ (hn j u hj), h1⟩
theorem run_append_nilsrc {P : Program} (w : World) (base : Nat) (t ty e : TypeId) (i : TypeInfo) (size : Nat) (ht : P.underlying t = some (.slice e)) (hi : P.info? e = some i) (hsize : i.size = size)
  (v : Value) (n : Nat) (xs : List Value) (hown : w.ownsRow base e size v n xs) (c : Nat) :
  (Builtin.append_ #[t, t] ty #[v, .slice none 0 c]).run P w = .ok v w := by
 rcases hown.2 with ⟨rfl, rfl⟩ | ⟨g, cap, cur, rfl, hbg, hg, hnc, hcm, hcs, htake⟩
 ·simp [Builtin.append_, run_underlying ht, sizeOf, typeInfo, hi, Builtin.lenOf, Builtin.firstCells]
 ·have := run_append_room_src (P := P) w t t ty e i ht hi g 0 n cap (.slice none 0 c) 0 [] (Src.ofNil w ht c) (by omega) (fun j hj => by simp at hj) (fun j hj => by simp at hj)
  simpa [World.setCells] using this
theorem wpList_append_src {P : Program} {w : World} {ops : Array Oper} {rest : List Oper} {o : Oper} {a : Act} {Q : Exit -> Act -> World -> Prop} (hgd : o.guard = none) (s x : Operand) (t : TypeId)
  (ho : o.op = .call { callee := .builtin .append, args := #[s, x], argTypes := #[t, t] })
  (base : Nat) (e : TypeId) (i : TypeInfo) (z : Value) (size bytes : Nat) (ht : P.underlying t = some (.slice e)) (hi : P.info? e = some i) (hz : i.zero = some z)
  (hsize : i.size = size) (hby : i.bytes = bytes) (hzs : z.cells.size = size) (hsz : 0 < size)
  (v : Value) (n : Nat) (xs : List Value) (hs : a.eval s = v) (hown : w.ownsRow base e size v n xs)
  (m : Nat) (news : List Value) (hsrc : SrcRow w size (a.eval x) m news)
  (h63 : n + m <= maxLen) (hbytes : (n + m) * bytes <= 140737488355328) (hbase : base <= w.heap.size)
  (h : ∀ a' c' w', w'.ownsRow base e size (.slice a' (n + m) c') (n + m) (xs ++ news) -> w.grownBy w' v.ownBlock -> wpList P ops Q rest (a.put o.dst (.slice a' (n + m) c')) w') : wpList P ops Q (o :: rest) a w := by
 rcases hsrc with ⟨rfl, rfl, c, hx⟩ | ⟨ad, c, hx, hl, hnews, h1⟩
 ·refine wpList_plain hgd fun K hK => ?_
  have hr := run_append_nilsrc (P := P) w base t o.type e i size ht hi hsize v n xs hown c
  obtain ⟨a', c', rfl⟩ := Dk.slice_of hown
  unfold Oper.wp execOp
  simp only [ho, resolve, invoke, builtin, Sem.run_bind, Sem.run_pure, Result.andThen_ok, List.map_toArray, List.map_cons, List.map_nil, hs, hx, hr]
  refine hK _ _ ?_
  have hh := h a' c' w (by simpa using hown) (World.grownBy.refl _ _)
  simpa using hh
 ·refine wpList_append_own w hgd s x t ho base e i z size bytes ht hi hz hsize hby hzs hsz v n xs hs hown ad m c news hx hl hnews h1 h63 hbytes hbase fun v' w' h2 h3 h4 => ?_
  obtain ⟨a', c', rfl⟩ := Dk.slice_of h2
  exact h a' c' w' h2 h3
end Go.Proofs.YthppbcnejapbiaaGreatDoor.App

-- YthppbcnejapbiaaGreatDoorFsM
/- A part. -/
namespace Go.Proofs.YthppbcnejapbiaaGreatDoor.FsM
open Go.ChangeShapes Go.WideShapes Go.ChangeAt Go.RowKit
open Foot Bx
open InoV (I)
open App (SrcRow wpList_append_src)
set_option linter.unusedVariables false
theorem src_qs {w : World} {v : Value} {ws : List Qt.At} (h : Qt.Holds w v ws) : SrcRow w 2 v ws.length (Qt.cells ws) := by
 obtain ⟨a, cap, rfl, hc⟩ := h
 by_cases h0 : ws = []
 ·subst h0
  cases a with
  | none => exact .inl ⟨rfl, rfl, cap, rfl⟩
  | some ad => exact .inr ⟨ad, cap, rfl, rfl, fun j u hj => by simp [Qt.cells] at hj, fun u hu => by simp [Qt.cells] at hu⟩
 ·obtain ⟨b, o, rfl, _, hcell⟩ := hc h0
  refine .inr ⟨⟨b, o, none⟩, cap, rfl, Qt.cells_length ws, fun j u hj => ?_, fun u hu => ?_⟩
  ·have hjl : j < ws.length * 2 := by have := (List.getElem?_eq_some_iff.1 hj).1; rwa [Qt.cells_length] at this
   obtain ⟨q0, q1⟩ := Qt.cells_at ws (j / 2) (by omega)
   obtain ⟨c0, c1⟩ := hcell (j / 2) (by omega)
   rw [Addr.add_lit, <- hj]
   rcases Nat.mod_two_eq_zero_or_one j with hm | hm
   ·have e : j / 2 * 2 = j := by omega
    rw [e] at q0 c0
    rw [q0, c0]
   ·have e : j / 2 * 2 + 1 = j := by omega
    rw [e] at q1
    rw [show o + j / 2 * 2 + 1 = o + j from by omega] at c1
    rw [q1, c1]
  ·obtain ⟨x, _, hx⟩ := List.mem_flatMap.1 hu
   simp [Qt.cell1] at hx
   rcases hx with rfl | rfl <;> rfl
theorem empty_own {w : World} {b base : Nat} {e : TypeId} {size : Nat} (h : w.heap[b]? = some (.cells #[] e (0, 0))) (hb : base <= b) : w.ownsRow base e size (.slice (some ⟨b, 0, none⟩) 0 0) 0 [] :=
 ⟨by simp, .inr ⟨b, 0, #[], rfl, hb, h, Nat.le_refl _, Nat.zero_le _, by simp, by simp⟩⟩
theorem step_append_src {P : Program} {ops : Array Oper} {o : Oper} {a : Act} {w : World} {K : Act -> World -> Prop} {Q : Exit -> Act -> World -> Prop} {E : Prop} (hgd : o.guard = none) (s x : Operand) (t : TypeId)
  (ho : o.op = .call { callee := .builtin .append, args := #[s, x], argTypes := #[t, t] })
  (base : Nat) (e : TypeId) (i : TypeInfo) (z : Value) (size bytes : Nat) (ht : P.underlying t = some (.slice e)) (hi : P.info? e = some i) (hz : i.zero = some z)
  (hsize : i.size = size) (hby : i.bytes = bytes) (hzs : z.cells.size = size) (hsz : 0 < size)
  (v : Value) (n : Nat) (xs : List Value) (hs : a.eval s = v) (hown : w.ownsRow base e size v n xs)
  (m : Nat) (news : List Value) (hsrc : SrcRow w size (a.eval x) m news)
  (h63 : n + m <= maxLen) (hbytes : (n + m) * bytes <= 140737488355328) (hbase : base <= w.heap.size)
  (h : ∀ a' c' w', w'.ownsRow base e size (.slice a' (n + m) c') (n + m) (xs ++ news) -> w.grownBy w' v.ownBlock -> K (a.put o.dst (.slice a' (n + m) c')) w') :
  if Region.wanted o (yielded ops a.tmps) = true then Oper.wp P o a w K Q else E := by
 have hw : Region.wanted o (yielded ops a.tmps) = true := by simp [Region.wanted, hgd]
 rw [if_pos hw]
 rcases hsrc with ⟨rfl, rfl, c, hx⟩ | ⟨ad, c, hx, hl, hnews, h1⟩
 ·have hr := App.run_append_nilsrc (P := P) w base t o.type e i size ht hi hsize v n xs hown c
  obtain ⟨a', c', rfl⟩ := Dk.slice_of hown
  unfold Oper.wp execOp
  simp only [ho, resolve, invoke, builtin, Sem.run_bind, Sem.run_pure, Result.andThen_ok, List.map_toArray, List.map_cons, List.map_nil, hs, hx, hr]
  have hh := h a' c' w (by simpa using hown) (World.grownBy.refl _ _)
  exact (show K (a.put o.dst (.slice a' n c')) w from by simpa using hh)
 ·refine wp_append_own w s x t ho base e i z size bytes ht hi hz hsize hby hzs hsz v n xs hs hown ad m c news hx hl hnews h1 h63 hbytes hbase fun v' w' h2 h3 h4 => ?_
  obtain ⟨a', c', rfl⟩ := Dk.slice_of h2
  exact h a' c' w' h2 h3
theorem row_far {W : World} {base g size n : Nat} {e t : TypeId} {v : Value} {xs : List Value} {cs : Array Value} (h : W.ownsRow base e size v n xs) (hk : Bk W g cs t) (hne : e ≠ t) (i : Nat) (u : Value) : (W.setCell ⟨g, i, none⟩ u).ownsRow base e size v n xs := by
 refine ⟨h.1, ?_⟩
 rcases h.2 with ⟨hv, hx⟩ | ⟨g', cap, cur, hv, hb, hg, h1, h2, h3, h4⟩
 ·exact .inl ⟨hv, hx⟩
 ·refine .inr ⟨g', cap, cur, hv, hb, ?_, h1, h2, h3, h4⟩
  have hne' : g' ≠ g := by
   rintro rfl
   have := hg.symm.trans hk
   simp only [Option.some.injEq, Obj.cells.injEq] at this
   exact hne this.2.1
  exact (Below.heap_setCell W ⟨g, i, none⟩ u g' hne').trans hg
theorem rows_apart {W : World} {base base' size size' n n' : Nat} {e e' : TypeId} {v v' : Value} {xs xs' : List Value} (h : W.ownsRow base e size v n xs) (h' : W.ownsRow base' e' size' v' n' xs') (hne : e ≠ e') : Apart (fpR v) (fpR v') := by
 rcases h.2 with ⟨rfl, _⟩ | ⟨g, _, _, rfl, _, hg, _⟩
 ·intro k hk; cases hk
 rcases h'.2 with ⟨rfl, _⟩ | ⟨g', _, _, rfl, _, hg', _⟩
 ·intro k _ hk; cases hk
 intro k hk hk'
 simp [fpR, Value.ownBlock] at hk hk'
 subst hk
 subst hk'
 have := hg.symm.trans hg'
 simp only [Option.some.injEq, Obj.cells.injEq] at this
 exact hne this.2.1
theorem bk_ne {W : World} {g b : Nat} {cs cs' : Array Value} {t t' : TypeId} (h : Bk W g cs t) (h' : Bk W b cs' t') (hne : t ≠ t') : ¬ g = b := by
 rintro rfl
 have := h.symm.trans h'
 simp only [Option.some.injEq, Obj.cells.injEq] at this
 exact hne this.2.1
set_option maxRecDepth 100000 in
set_option maxHeartbeats 400000 in
theorem clone_any (w : World) (v : Value) (xs : List Qt.At) (hlen : xs.length <= 1073741824) (h : Qt.Holds w v xs) :
  Calls Tryz.prog 113 #[v] w fun e w' => ∃ v', e = .returned v' /\ QF.Own w' w.heap.size v' xs (fpR v') /\ Below w.heap.size w w' := by
 obtain ⟨i0, hi, hz0, hz1, hz2⟩ := info_parts Qt.info
 have q0 : ∀ (w : World) (a : Option Addr) (n c n' c' : Nat), (binOp .eql 30 (.slice a n c) (.slice none n' c')).run Tryz.prog w = .ok (.bool a.isNone) w := fun w a n c n' c' => Lib.run_eql_slice_nil w _ _ a n c n' c' Tryz.underlying30
 have hsrc := src_qs h
 obtain ⟨a, cap, rfl, hc⟩ := h
 clear hc
 cases a with
 | none =>
  have hx : xs = [] := by
   rcases hsrc with ⟨h0, _⟩ | ⟨ad, c, h0, _⟩
   ·exact List.eq_nil_of_length_eq_zero h0
   ·cases h0
  subst hx
  go_enter Tryz.func113, Tryz.ntmps113
  go_wp2
  go_ret
  exact ⟨_, rfl, ⟨World.ownsRow_nil _ _ _ _, rfl⟩, Below.refl _ _⟩
 | some ad =>
  have HS := Lib.hid hsrc
  clear hsrc
  obtain ⟨L, hL⟩ : ∃ L, L = xs.length := ⟨_, rfl⟩
  rw [<- hL] at HS ⊢
  have HL := Lib.hid hL
  rw [<- hL] at hlen
  clear hL
  go_enter Tryz.func113, Tryz.ntmps113
  go_wp2_with (at_builtin; refine wpList_append_src rfl _ _ 30 rfl w.heap.size 113 i0 (.agg #[.int .i64 0, .int .i64 0]) 2 16 Tryz.underlying30 hi hz0 hz1 hz2 rfl (by decide) _ 0 [] rfl (World.ownsRow_made w #[] 0 (Nat.le_refl _) (Nat.zero_le _) rfl) L (Qt.cells xs) ?c1 ?c2 ?c3 ?c4 ?_)
  case c1 => exact HS.out.below (fun p u hp => by rw [World.cell?_alloc_some _ _ _ (by rw [hp]; rfl)]; exact hp)
  case c2 => unfold maxLen; omega
  case c3 => omega
  case c4 => simp
  intro a' c' w1 hown1 hg1
  have HO := Lib.hid hown1
  have HB := Lib.hid (show Below w.heap.size w w1 from ((Below.refl w.heap.size w).alloc (Nat.le_refl _) _).grown hg1 (by simp) (fun k hk => by simp [Value.ownBlock] at hk; omega))
  clear hown1 hg1
  go_wp2
  go_ret
  refine ⟨_, rfl, ⟨?_, rfl⟩, HB.out⟩
  rw [<- HL.out]
  have := HO.out
  simpa using this
end Go.Proofs.YthppbcnejapbiaaGreatDoor.FsM

-- YthppbcnejapbiaaGreatDoorFsX
/- A part. -/
namespace Go.Proofs.YthppbcnejapbiaaGreatDoor.FsX
open InoV (I okI usedV hasB)
open FsV
set_option linter.unusedVariables false
theorem go_of {p : List (Int × Int)} : ∀ {s : List Int}, (∀ x ∈ p, ownerV x.2 = x.1) -> (p.map Prod.snd).Nodup -> (∀ x ∈ p, x.2 ∉ s) -> goB s p = true := by
 induction p with
 | nil => intro s _ _ _; rfl
 | cons a r ih =>
  intro s h1 h2 h3
  rw [List.map_cons, List.nodup_cons] at h2
  have hs : hasB s a.2 = false := by
   rw [Bool.eq_false_iff, ne_eq, has_mem]
   exact h3 a (by simp)
  rw [goB, oneB, hs, h1 a (by simp)]
  rw [ih (fun x hx => h1 x (by simp [hx])) h2.2 (fun x hx => ?_)]
  ·simp
  ·rw [List.mem_append, not_or]
   refine ⟨h3 x (by simp [hx]), fun hh => h2.1 ?_⟩
   rw [List.mem_singleton] at hh
   rw [<- hh]
   exact List.mem_map_of_mem hx
theorem own_iff (ns : List I) : ownB ns = true ↔ (∀ n ∈ ns, ∀ b ∈ usedV n.blocks, ownerV b = n.uid) /\ (allB ns).Nodup := by
 constructor
 ·intro h
  obtain ⟨h1, h2, _⟩ := go_mem h
  rw [pairs_snd] at h2
  refine ⟨fun n hn b hb => ?_, h2⟩
  exact h1 (n.uid, b) (List.mem_flatMap.2 ⟨n, hn, List.mem_map_of_mem hb⟩)
 ·rintro ⟨h1, h2⟩
  refine go_of (fun x hx => ?_) (by rw [pairs_snd]; exact h2) (fun x _ hh => by cases hh)
  obtain ⟨n, hn, hx⟩ := List.mem_flatMap.1 hx
  obtain ⟨b, hb, rfl⟩ := List.mem_map.1 hx
  exact h1 n hn b hb
theorem mem_all {ns : List I} {b : Int} : b ∈ allB ns ↔ ∃ n ∈ ns, b ∈ usedV n.blocks := List.mem_flatMap
theorem ns_split (ns : List I) (i : Nat) (hi : i < ns.length) : ns = ns.take i ++ (ns.getD i InoV.zero :: ns.drop (i + 1)) := by
 rw [List.getD_eq_getElem?_getD, List.getElem?_eq_getElem hi]; simp
theorem set_split (ns : List I) (i : Nat) (n : I) (hi : i < ns.length) : ns.set i n = ns.take i ++ (n :: ns.drop (i + 1)) := by
 rw [List.set_eq_take_append_cons_drop, if_pos hi]
theorem all_split (ns : List I) (i : Nat) (hi : i < ns.length) : allB ns = allB (ns.take i) ++ (usedV (ns.getD i InoV.zero).blocks ++ allB (ns.drop (i + 1))) := by
 conv => lhs; rw [ns_split ns i hi]
 rw [all_app]; rfl
theorem all_set (ns : List I) (i : Nat) (n : I) (hi : i < ns.length) : allB (ns.set i n) = allB (ns.take i) ++ (usedV n.blocks ++ allB (ns.drop (i + 1))) := by
 rw [set_split ns i n hi, all_app]; rfl
theorem apart {ns : List I} {i : Nat} (h : (allB ns).Nodup) (hi : i < ns.length) {b : Int} (hb : b ∈ usedV (ns.getD i InoV.zero).blocks) : b ∉ allB (ns.take i) /\ b ∉ allB (ns.drop (i + 1)) := by
 rw [all_split ns i hi, List.nodup_append] at h
 obtain ⟨_, h2, h3⟩ := h
 rw [List.nodup_append] at h2
 exact ⟨fun hh => h3 b hh b (List.mem_append.2 (.inl hb)) rfl, fun hh => h2.2.2 b hb b hh rfl⟩
theorem own_set {ns : List I} {i : Nat} {n : I} (h : ownB ns = true) (hi : i < ns.length) (h1 : ∀ b ∈ usedV n.blocks, ownerV b = n.uid) (h2 : (usedV n.blocks).Nodup) (h3 : ∀ b ∈ usedV n.blocks, b ∈ usedV (ns.getD i InoV.zero).blocks \/ b ∉ allB ns) : ownB (ns.set i n) = true := by
 rw [own_iff] at h ⊢
 obtain ⟨g1, g2⟩ := h
 refine ⟨fun m hm b hb => ?_, ?_⟩
 ·rcases List.mem_or_eq_of_mem_set hm with hm | rfl
  ·exact g1 m hm b hb
  ·exact h1 b hb
 ·have hap : ∀ b ∈ usedV n.blocks, b ∉ allB (ns.take i) /\ b ∉ allB (ns.drop (i + 1)) := fun b hb => by
   rcases h3 b hb with h | h
   ·exact apart g2 hi h
   ·rw [all_split ns i hi] at h
    simp only [List.mem_append, not_or] at h
    exact ⟨h.1, h.2.2⟩
  rw [all_split ns i hi, List.nodup_append, List.nodup_append] at g2
  obtain ⟨a1, ⟨_, a3, _⟩, a5⟩ := g2
  rw [all_set ns i n hi, List.nodup_append, List.nodup_append]
  refine ⟨a1, ⟨h2, a3, fun x hx y hy e => (hap x hx).2 (e ▸ hy)⟩, fun x hx y hy e => ?_⟩
  rcases List.mem_append.1 hy with hy | hy
  ·exact (hap y hy).1 (e ▸ hx)
  ·exact a5 x hx y (by simp [hy]) e
theorem parts_set {f : F} {i : Nat} {n : I} {d : List ByteArray} (h : partsB f = true) (hn : okI n = true) (hl : d.length = 56) (hs : ∀ s ∈ d, s.size = 32) : partsB { f with inodes := f.inodes.set i n, data := d } = true := by
 obtain ⟨h1, h2, h3, h4, h5, h6⟩ := parts_of h
 refine parts_mk h1 (by simpa using h2) hl (List.all_eq_true.2 h4) (List.all_eq_true.2 fun m hm => ?_) (List.all_eq_true.2 fun s hh => decide_eq_true (hs s hh))
 rcases List.mem_or_eq_of_mem_set hm with hm | rfl
 ·exact h5 m hm
 ·exact hn
theorem root_set {f : F} {i : Nat} {n : I} {d : List ByteArray} (h : rootB f = true) (hk : i = 0 -> n.kind = 2) (hi : i < f.inodes.length) : rootB { f with inodes := f.inodes.set i n, data := d } = true := by
 rw [rootB, decide_eq_true_eq] at h ⊢
 show ((f.inodes.set i n).getD 0 InoV.zero).kind = 2
 by_cases h0 : i = 0
 ·subst h0
  rw [List.getD_eq_getElem?_getD, List.getElem?_set_self hi]
  exact hk rfl
 ·rw [List.getD_eq_getElem?_getD, List.getElem?_set_ne h0, <- List.getD_eq_getElem?_getD]
  exact h
theorem else_iff (f : F) : elseB f = true ↔ (∀ b : Nat, b < 56 -> ((b : Int) ∈ allB f.inodes \/ zB (f.data.getD b e0) = true)) /\ ∀ n ∈ f.inodes, zB (beyond f n) = true := by
 rw [elseB, Bool.and_eq_true, List.all_eq_true, List.all_eq_true]
 refine and_congr ⟨fun h b hb => ?_, fun h b hb => ?_⟩ Iff.rfl
 ·have := h b (List.mem_range.2 hb)
  rwa [freeB, Bool.or_eq_true, has_mem] at this
 ·rw [freeB, Bool.or_eq_true, has_mem]
  exact h b (List.mem_range.1 hb)
theorem last_used {n : I} (h0 : n.blocks.length ≠ 0) (h1 : n.blocks.getD (n.blocks.length - 1) 0 ≠ -1) : n.blocks.getD (n.blocks.length - 1) 0 ∈ usedV n.blocks := by
 rw [usedV, List.mem_filter]
 exact ⟨mem_getD (by omega), decide_eq_true h1⟩
theorem beyond_same {f : F} {n : I} {ns : List I} {d : List ByteArray} (h : ∀ b ∈ usedV n.blocks, d.getD b.toNat e0 = f.data.getD b.toNat e0) : beyond { f with inodes := ns, data := d } n = beyond f n := by
 unfold beyond
 by_cases h0 : n.blocks.length = 0
 ·rw [if_pos h0, if_pos h0]
 ·by_cases h1 : n.blocks.getD (n.blocks.length - 1) 0 = -1
  ·rw [if_neg h0, if_neg h0, if_pos h1, if_pos h1]
  ·rw [if_neg h0, if_neg h0, if_neg h1, if_neg h1]
   show (d.getD _ e0).extract _ _ = _
   rw [h _ (last_used h0 h1)]
theorem ok_set {f : F} {i : Nat} {n : I} {d : List ByteArray} (h : okF f = true) (hi : i < 20) (hn : okI n = true) (hk : i = 0 -> n.kind = 2)
  (h1 : ∀ b ∈ usedV n.blocks, ownerV b = n.uid) (h2 : (usedV n.blocks).Nodup) (h3 : ∀ b ∈ usedV n.blocks, b ∈ usedV (f.inodes.getD i InoV.zero).blocks \/ b ∉ allB f.inodes)
  (hl : d.length = 56) (hs : ∀ s ∈ d, s.size = 32)
  (c1 : ∀ b : Nat, b < 56 -> (b : Int) ∉ usedV (f.inodes.getD i InoV.zero).blocks -> (b : Int) ∉ usedV n.blocks -> d.getD b e0 = f.data.getD b e0)
  (c2 : ∀ b : Nat, b < 56 -> (b : Int) ∈ usedV (f.inodes.getD i InoV.zero).blocks -> (b : Int) ∉ usedV n.blocks -> zB (d.getD b e0) = true)
  (c3 : zB (beyond { f with inodes := f.inodes.set i n, data := d } n) = true) : okF { f with inodes := f.inodes.set i n, data := d } = true := by
 obtain ⟨g1, g2, g3, g4, g5⟩ := ok_parts h
 obtain ⟨_, hlen, _⟩ := parts_of g2
 have hi' : i < f.inodes.length := by omega
 have hnd := (own_iff _).1 g4
 have hin := (own_facts h).2
 have e4 := own_set g4 hi' h1 h2 h3
 have hU : ∀ b ∈ usedV n.blocks, b ∉ allB (f.inodes.take i) /\ b ∉ allB (f.inodes.drop (i + 1)) := fun b hb => by
  rcases h3 b hb with h | h
  ·exact apart hnd.2 hi' h
  ·rw [all_split f.inodes i hi'] at h
   simp only [List.mem_append, not_or] at h
   exact ⟨h.1, h.2.2⟩
 have e5 : elseB { f with inodes := f.inodes.set i n, data := d } = true := by
  rw [else_iff] at g5 ⊢
  refine ⟨fun b hb => ?_, fun m hm => ?_⟩
  ·show (b : Int) ∈ allB (f.inodes.set i n) \/ zB (d.getD b e0) = true
   rw [all_set f.inodes i n hi']
   by_cases hbn : (b : Int) ∈ usedV n.blocks
   ·exact .inl (by simp [hbn])
   ·by_cases hbo : (b : Int) ∈ usedV (f.inodes.getD i InoV.zero).blocks
    ·exact .inr (c2 b hb hbo hbn)
    ·rw [c1 b hb hbo hbn]
     rcases g5.1 b hb with h | h
     ·rw [all_split f.inodes i hi'] at h
      simp only [List.mem_append] at h ⊢
      rcases h with h | h | h
      ·exact .inl (.inl h)
      ·exact absurd h hbo
      ·exact .inl (.inr (.inr h))
     ·exact .inr h
  ·have hm' : m ∈ f.inodes.set i n := hm
   rw [set_split f.inodes i n hi', List.mem_append, List.mem_cons] at hm'
   have other : m ∈ f.inodes.take i \/ m ∈ f.inodes.drop (i + 1) -> zB (beyond { f with inodes := f.inodes.set i n, data := d } m) = true := fun hh => by
    have hmf : m ∈ f.inodes := hh.elim List.mem_of_mem_take List.mem_of_mem_drop
    rw [beyond_same fun b hb => ?_]
    ·exact g5.2 m hmf
    ·have hr := hin b (mem_all.2 ⟨m, hmf, hb⟩)
     have hcast : ((b.toNat : Nat) : Int) = b := Int.toNat_of_nonneg hr.1
     have hba : b ∈ allB (f.inodes.take i) \/ b ∈ allB (f.inodes.drop (i + 1)) := hh.imp (fun h => mem_all.2 ⟨m, h, hb⟩) (fun h => mem_all.2 ⟨m, h, hb⟩)
     refine c1 b.toNat (by omega) (fun hx => ?_) (fun hx => ?_)
     ·rw [hcast] at hx
      have := apart hnd.2 hi' hx
      exact hba.elim this.1 this.2
     ·rw [hcast] at hx
      have := hU b hx
      exact hba.elim this.1 this.2
   rcases hm' with hm' | rfl | hm'
   ·exact other (.inl hm')
   ·exact c3
   ·exact other (.inr hm')
 have e1 : tickB { f with inodes := f.inodes.set i n, data := d } = true := g1
 rw [okF, e1, parts_set g2 hn hl hs, root_set g3 hk hi', e5]
 show (true && true && true && (ownB (f.inodes.set i n) && true)) = true
 rw [e4]; rfl
end Go.Proofs.YthppbcnejapbiaaGreatDoor.FsX

-- YthppbcnejapbiaaGreatDoorFsY
/- A part. -/
namespace Go.Proofs.YthppbcnejapbiaaGreatDoor.FsY
open InoV (I okI usedV hasB needV)
open FsV
set_option linter.unusedVariables false
def ino (f : F) (i : Nat) : I := f.inodes.getD i InoV.zero
def Z (n : Nat) : List UInt8 := List.replicate n 0
def dat (d : List ByteArray) (b : Int) : ByteArray := d.getD b.toNat e0
def one (d : List ByteArray) (b : Int) : List UInt8 := if b = -1 then Z 32 else (dat d b).data.toList
def cont (d : List ByteArray) (bs : List Int) : List UInt8 := bs.flatMap (one d)
def content (d : List ByteArray) (bs : List Int) : List UInt8 := cont d bs ++ Z (256 - 32 * bs.length)
def blkAt (c : List UInt8) (k : Nat) : ByteArray := ⟨((c.drop (32 * k)).take 32).toArray⟩
def zeroD (d : List ByteArray) (bs : List Int) : List ByteArray := bs.foldl (fun d b => d.set b.toNat z32) d
def putD (c : List UInt8) : Nat -> List Int -> List ByteArray -> List ByteArray
 | _, [], d => d
 | k, b :: r, d => putD c (k + 1) r (if b = -1 then d else d.set b.toNat (blkAt c k))
def withV (f : F) (i : Nat) (n : I) (c : List UInt8) : F := { f with inodes := f.inodes.set i n, data := putD c 0 n.blocks (zeroD f.data (usedV (ino f i).blocks)) }
def hasObjB (f : F) (i : Int) : Bool := decide (0 <= i) && decide (i <= 19) && okF f && !decide ((ino f i.toNat).kind = 0)
def renew (a : Nat) (q : Int) (ch : Int -> Bool) : (Int -> Bool) -> List Int -> List Int × Int
 | _, [] => ([], 0)
 | s, b :: r =>
  if ch b then
   if (pick (fun k => s (k : Int)) a 14 q).2 = 0 then
    ((pick (fun k => s (k : Int)) a 14 q).1 :: (renew a q ch (fun z => decide (z = (pick (fun k => s (k : Int)) a 14 q).1) || s z) r).1, (renew a q ch (fun z => decide (z = (pick (fun k => s (k : Int)) a 14 q).1) || s z) r).2)
   else (b :: r, (pick (fun k => s (k : Int)) a 14 q).2)
  else (b :: (renew a q ch s r).1, (renew a q ch s r).2)
def holes (bs : List Int) (m : Nat) : List Int := (bs ++ List.replicate (m - bs.length) (-1)).take m
def sized (n : I) (size : Int) : I := { n with size := size, blocks := holes n.blocks (needV size).toNat }
def splice (c : List UInt8) (a : Nat) (s : List UInt8) : List UInt8 := c.take a ++ s ++ c.drop (a + s.length)
def quo (f : F) (u : Nat) : Int := (f.quotas.getD u (0, 0)).2
def isHole (b : Int) : Bool := decide (b = -1)
def isBlock (b : Int) : Bool := !decide (b = -1)
def wrI (n : I) (a l : Nat) : I := sized n (max (((a + l : Nat) : Int)) n.size)
def lastB (a l : Nat) : Nat := (needV ((a + l : Nat) : Int)).toNat
def wrR (f : F) (n : I) (a l : Nat) : List Int × Int := renew (14 * n.uid.toNat) (quo f n.uid.toNat) isHole (hasB (allB f.inodes)) (((wrI n a l).blocks.take (lastB a l)).drop (a / 32))
def wrB (f : F) (n : I) (a l : Nat) : List Int := (wrI n a l).blocks.take (a / 32) ++ (wrR f n a l).1 ++ (wrI n a l).blocks.drop (lastB a l)
def writeV (f : F) (i a : Int) (s : ByteArray) : F × Int :=
 if !(hasObjB f i && decide (0 <= a)) then (f, 1)
 else if 256 - (s.size : Int) < a then (f, 9)
 else if s.size = 0 then (f, 0)
 else if (wrR f (ino f i.toNat) a.toNat s.size).2 = 0 then
  (withV f i.toNat { wrI (ino f i.toNat) a.toNat s.size with blocks := wrB f (ino f i.toNat) a.toNat s.size } (splice (content f.data (ino f i.toNat).blocks) a.toNat s.data.toList), 0)
 else (f, (wrR f (ino f i.toNat) a.toNat s.size).2)
def resizeV (f : F) (i z : Int) : F × Int :=
 if !(hasObjB f i && decide (0 <= z)) then (f, 1)
 else if 256 < z then (f, 9)
 else (withV f i.toNat (sized (ino f i.toNat) z) ((content f.data (ino f i.toNat).blocks).take z.toNat ++ Z (256 - z.toNat)), 0)
theorem Z_len (n : Nat) : (Z n).length = n := by simp [Z]
theorem getD_set {α : Type} (l : List α) (z x : α) (i j : Nat) (h : i < l.length) : (l.set i x).getD j z = if i = j then x else l.getD j z := by
 rw [List.getD_eq_getElem?_getD, List.getElem?_set]
 by_cases e : i = j
 ·subst e; simp [h]
 ·simp [e]
theorem ext_getD {l m : List ByteArray} (hl : l.length = m.length) (h : ∀ j, j < l.length -> l.getD j e0 = m.getD j e0) : l = m := by
 refine List.ext_getElem hl fun j h1 h2 => ?_
 have := h j h1
 rw [List.getD_eq_getElem?_getD, List.getD_eq_getElem?_getD, List.getElem?_eq_getElem h1, List.getElem?_eq_getElem h2] at this
 exact this
theorem zeroD_len (bs : List Int) : ∀ d, (zeroD d bs).length = d.length := by
 induction bs with
 | nil => intro d; rfl
 | cons b r ih => intro d; rw [zeroD, List.foldl_cons, <- zeroD, ih, List.length_set]
theorem zeroD_cons (b : Int) (r : List Int) (d : List ByteArray) : zeroD d (b :: r) = zeroD (d.set b.toNat z32) r := rfl
def Inr (bs : List Int) : Prop := ∀ b ∈ bs, b = -1 \/ (0 <= b /\ b <= 55)
theorem zeroD_get (bs : List Int) : ∀ d : List ByteArray, (∀ b ∈ bs, 0 <= b /\ b <= 55) -> d.length = 56 -> ∀ j : Nat, (zeroD d bs).getD j e0 = if (j : Int) ∈ bs then z32 else d.getD j e0 := by
 induction bs with
 | nil => intro d _ _ j; simp [zeroD]
 | cons b r ih =>
  intro d hb hd j
  have hb0 := hb b (by simp)
  rw [zeroD_cons, ih _ (fun x hx => hb x (by simp [hx])) (by rw [List.length_set]; exact hd), getD_set _ _ _ _ _ (by omega)]
  by_cases h1 : (j : Int) ∈ r
  ·rw [if_pos h1, if_pos (by simp [h1])]
  ·rw [if_neg h1]
   by_cases h2 : b.toNat = j
   ·rw [if_pos h2, if_pos (by simp; left; omega)]
   ·rw [if_neg h2, if_neg (by simp [h1]; omega)]
theorem putD_len (c : List UInt8) (bs : List Int) : ∀ k d, (putD c k bs d).length = d.length := by
 induction bs with
 | nil => intro k d; rfl
 | cons b r ih => intro k d; rw [putD, ih]; split <;> simp
theorem putD_out (c : List UInt8) (bs : List Int) : ∀ k (d : List ByteArray), Inr bs -> d.length = 56 -> ∀ j : Nat, (j : Int) ∉ bs -> (putD c k bs d).getD j e0 = d.getD j e0 := by
 induction bs with
 | nil => intro k d _ _ j _; rfl
 | cons b r ih =>
  intro k d hb hd j hj
  have hb0 := hb b (by simp)
  rw [List.mem_cons, not_or] at hj
  rw [putD, ih _ _ (fun x hx => hb x (by simp [hx])) (by split <;> simp [hd]) j hj.2]
  split
  ·rfl
  ·rw [getD_set _ _ _ _ _ (by omega), if_neg (by omega)]
def Dis (bs : List Int) : Prop := bs.Pairwise fun x y => x ≠ -1 -> x ≠ y
theorem putD_in (c : List UInt8) (bs : List Int) : ∀ k (d : List ByteArray), Inr bs -> Dis bs -> d.length = 56 -> ∀ t j : Nat, bs[t]? = some (j : Int) -> (putD c k bs d).getD j e0 = blkAt c (k + t) := by
 induction bs with
 | nil => intro k d _ _ _ t j h; simp at h
 | cons b r ih =>
  intro k d hb hp hd t j h
  have hb0 := hb b (by simp)
  rw [Dis, List.pairwise_cons] at hp
  rw [putD]
  cases t with
  | zero =>
   simp at h
   subst h
   rw [if_neg (by omega), putD_out c r _ _ (fun x hx => hb x (by simp [hx])) (by simp [hd]) j (fun hh => hp.1 _ hh (by omega) rfl), getD_set _ _ _ _ _ (by omega), if_pos (by omega), Nat.add_zero]
  | succ t =>
   rw [List.getElem?_cons_succ] at h
   rw [ih _ _ (fun x hx => hb x (by simp [hx])) hp.2 (by split <;> simp [hd]) t j h, show k + 1 + t = k + (t + 1) from by omega]
theorem dis_used {bs : List Int} : Dis bs ↔ (usedV bs).Nodup := by
 rw [Dis, usedV, List.Nodup, List.pairwise_filter]
 refine ⟨fun h => h.imp fun {x y} hh hx _ => hh (by simpa using hx), fun h => h.imp fun {x y} hh hx e => ?_⟩
 subst e
 exact hh (by simpa using hx) (by simpa using hx) rfl
theorem dis_iff {bs : List Int} : Dis bs ↔ ∀ i j (hi : i < bs.length) (hj : j < bs.length), i < j -> bs[i] ≠ -1 -> bs[i] ≠ bs[j] := List.pairwise_iff_getElem
theorem getD_at {bs : List Int} {i : Nat} (h : i < bs.length) : bs.getD i 0 = bs[i] := by rw [List.getD_eq_getElem?_getD, List.getElem?_eq_getElem h]; rfl
theorem dis_of {l : List Int} (h : InoV.blksB l l.length = true) : Dis l := by
 rw [dis_iff]
 intro i j hi hj hij hne e
 unfold InoV.blksB at h
 rw [List.all_eq_true] at h
 have := h j (List.mem_range.2 hj)
 simp only [InoV.blkB, Bool.and_eq_true, Bool.or_eq_true, decide_eq_true_eq, Bool.not_eq_true'] at this
 rw [getD_at hj] at this
 rcases this.2 with h1 | h1
 ·rw [<- e] at h1; exact hne h1
 ·have hm : hasB (l.take j) l[j] = true := has_mem.2 (by
   rw [<- e, List.mem_take_iff_getElem]
   exact ⟨i, by omega, rfl⟩)
  rw [h1] at hm; cases hm
theorem blks_of {l : List Int} (h1 : Inr l) (h2 : Dis l) : InoV.blksB l l.length = true := by
 unfold InoV.blksB
 rw [List.all_eq_true]
 intro j hj
 rw [List.mem_range] at hj
 have hm := h1 l[j] (List.getElem_mem hj)
 simp only [InoV.blkB, Bool.and_eq_true, Bool.or_eq_true, decide_eq_true_eq, Bool.not_eq_true']
 rw [getD_at hj]
 refine ⟨by omega, ?_⟩
 by_cases e : l[j] = -1
 ·exact .inl e
 ·refine .inr (Bool.eq_false_iff.2 fun hh => ?_)
  rw [has_mem, List.mem_take_iff_getElem] at hh
  obtain ⟨i, hi, e2⟩ := hh
  exact dis_iff.1 h2 i j (by omega) hj (by omega) (by rw [e2]; exact e) e2
theorem one_len {d : List ByteArray} {b : Int} (hs : ∀ s ∈ d, s.size = 32) (hd : d.length = 56) (hb : b = -1 \/ (0 <= b /\ b <= 55)) : (one d b).length = 32 := by
 unfold one
 split
 ·simp [Z]
 ·have := hs (dat d b) (mem_getD (by omega))
  simpa using this
theorem cont_at (d : List ByteArray) (bs : List Int) (hs : ∀ s ∈ d, s.size = 32) (hd : d.length = 56) : Inr bs -> (cont d bs).length = 32 * bs.length /\ ∀ t (h : t < bs.length) j, j < 32 -> (cont d bs)[32 * t + j]? = (one d bs[t])[j]? := by
 induction bs with
 | nil => intro _; exact ⟨rfl, fun t h => by simp at h⟩
 | cons b r ih =>
  intro hb
  have h1 := one_len hs hd (hb b (by simp))
  obtain ⟨i1, i2⟩ := ih fun x hx => hb x (by simp [hx])
  have e : cont d (b :: r) = one d b ++ cont d r := by simp [cont]
  refine ⟨by rw [e, List.length_append, h1, i1, List.length_cons]; omega, fun t h j hj => ?_⟩
  rw [e]
  cases t with
  | zero => rw [List.getElem?_append_left (by omega), Nat.mul_zero, Nat.zero_add]; rfl
  | succ t =>
   rw [List.getElem?_append_right (by omega), h1, show 32 * (t + 1) + j - 32 = 32 * t + j from by omega]
   exact i2 t (by simpa using h) j hj
theorem content_len {d : List ByteArray} {bs : List Int} (hs : ∀ s ∈ d, s.size = 32) (hd : d.length = 56) (hb : Inr bs) (h8 : bs.length <= 8) : (content d bs).length = 256 := by
 rw [content, List.length_append, (cont_at d bs hs hd hb).1, Z_len]; omega
theorem content_at {d : List ByteArray} {bs : List Int} (hs : ∀ s ∈ d, s.size = 32) (hd : d.length = 56) (hb : Inr bs) (h8 : bs.length <= 8) (t : Nat) (ht : t < 8) (j : Nat) (hj : j < 32) : (content d bs)[32 * t + j]? = (one d (bs.getD t (-1)))[j]? := by
 obtain ⟨c1, c2⟩ := cont_at d bs hs hd hb
 rw [content]
 by_cases h : t < bs.length
 ·rw [List.getElem?_append_left (by omega), c2 t h j hj, List.getD_eq_getElem?_getD, List.getElem?_eq_getElem h]; rfl
 ·rw [List.getElem?_append_right (by omega), c1, List.getD_eq_getElem?_getD, List.getElem?_eq_none (l := bs) (i := t) (by omega)]
  show (Z _)[_]? = (one d (-1))[j]?
  rw [one, if_pos rfl, Z, Z, List.getElem?_replicate, List.getElem?_replicate, if_pos (by omega), if_pos (by omega)]
theorem blk_ext {c : List UInt8} {k : Nat} {s : ByteArray} (hs : s.size = 32) (h : ∀ j, j < 32 -> c[32 * k + j]? = s.data.toList[j]?) : blkAt c k = s := by
 apply ByteArray.ext
 apply Array.toList_inj.1
 show (c.drop (32 * k)).take 32 = s.data.toList
 refine List.ext_getElem? fun j => ?_
 rw [List.getElem?_take]
 split
 ·rw [List.getElem?_drop]; exact h j (by assumption)
 ·rw [List.getElem?_eq_none]
  have : s.data.toList.length = 32 := by simpa using hs
  omega
theorem splice_at {c : List UInt8} {a : Nat} {s : List UInt8} (h : a + s.length <= c.length) (j : Nat) : (splice c a s)[j]? = if j < a then c[j]? else if j < a + s.length then s[j - a]? else c[j]? := by
 rw [splice, List.append_assoc]
 have ha : (c.take a).length = a := by rw [List.length_take]; omega
 by_cases h1 : j < a
 ·rw [if_pos h1, List.getElem?_append_left (by omega), List.getElem?_take, if_pos h1]
 ·rw [if_neg h1, List.getElem?_append_right (by omega), ha]
  by_cases h2 : j < a + s.length
  ·rw [if_pos h2, List.getElem?_append_left (by omega)]
  ·rw [if_neg h2, List.getElem?_append_right (by omega), List.getElem?_drop]
   congr 1; omega
theorem splice_len {c : List UInt8} {a : Nat} {s : List UInt8} (h : a + s.length <= c.length) : (splice c a s).length = c.length := by
 simp only [splice, List.length_append, List.length_take, List.length_drop]; omega
end Go.Proofs.YthppbcnejapbiaaGreatDoor.FsY

-- YthppbcnejapbiaaGreatDoorFoB
/- A part. -/
namespace Go.Proofs.YthppbcnejapbiaaGreatDoor.FoB
open Go.ChangeShapes Go.WideShapes Go.ChangeAt Go.RowKit
open Foot Bx
open InoV (I)
open FsV (F e0)
open FsY (ino)
set_option linter.unusedVariables false
theorem chg_set (w : World) (p : Addr) (u : Value) : Chg w (w.setCell p u) [p.block] :=
 ⟨rfl, rfl, rfl, by simp [World.setCell], fun k _ hk => Below.heap_setCell w p u k (fun e => hk (by simp [e]))⟩
theorem chg_alloc (w : World) (o : Obj) (S : List Nat) : Chg w (w.alloc o) S := ⟨rfl, rfl, rfl, by simp, fun k hk _ => Below.heap_alloc w o k hk⟩
theorem Bk.chg {w w' : World} {b : Nat} {cs : Array Value} {t : TypeId} {S : List Nat} (h : Bk w b cs t) (hc : Chg w w' S) (hb : b ∉ S) : Bk w' b cs t := (hc.block b h.lt hb).trans h
def box4 (w : World) (b : Nat) (u0 u1 u2 u3 : Value) : World := (((w.setCell ⟨b, 0, none⟩ u0).setCell ⟨b, 1, none⟩ u1).setCell ⟨b, 2, none⟩ u2).setCell ⟨b, 3, none⟩ u3
def box10 (w : World) (b : Nat) (u0 u1 u2 u3 u4 u5 u6 u7 u8 u9 : Value) : World := (((((((((w.setCell ⟨b, 0, none⟩ u0).setCell ⟨b, 1, none⟩ u1).setCell ⟨b, 2, none⟩ u2).setCell ⟨b, 3, none⟩ u3).setCell ⟨b, 4, none⟩ u4).setCell ⟨b, 5, none⟩ u5).setCell ⟨b, 6, none⟩ u6).setCell ⟨b, 7, none⟩ u7).setCell ⟨b, 8, none⟩ u8).setCell ⟨b, 9, none⟩ u9
def row10 (w : World) (b i : Nat) (u0 u1 u2 u3 u4 u5 u6 u7 u8 u9 : Value) : World := (((((((((w.setCell ⟨b, i * 10, none⟩ u0).setCell ⟨b, i * 10 + 1, none⟩ u1).setCell ⟨b, i * 10 + 2, none⟩ u2).setCell ⟨b, i * 10 + 3, none⟩ u3).setCell ⟨b, i * 10 + 4, none⟩ u4).setCell ⟨b, i * 10 + 5, none⟩ u5).setCell ⟨b, i * 10 + 6, none⟩ u6).setCell ⟨b, i * 10 + 7, none⟩ u7).setCell ⟨b, i * 10 + 8, none⟩ u8).setCell ⟨b, i * 10 + 9, none⟩ u9
theorem box4_bk {w : World} {b : Nat} {x0 x1 x2 x3 : Value} {t : TypeId} (h : Bk w b #[x0, x1, x2, x3] t) (u0 u1 u2 u3 : Value) : Bk (box4 w b u0 u1 u2 u3) b #[u0, u1, u2, u3] t :=
 (((Bk.put (l := [x0, x1, x2, x3]) h 0 u0).put 1 u1).put 2 u2).put 3 u3
theorem box10_bk {w : World} {b : Nat} {x0 x1 x2 x3 x4 x5 x6 x7 x8 x9 : Value} {t : TypeId} (h : Bk w b #[x0, x1, x2, x3, x4, x5, x6, x7, x8, x9] t) (u0 u1 u2 u3 u4 u5 u6 u7 u8 u9 : Value) : Bk (box10 w b u0 u1 u2 u3 u4 u5 u6 u7 u8 u9) b #[u0, u1, u2, u3, u4, u5, u6, u7, u8, u9] t :=
 (((((((((Bk.put (l := [x0, x1, x2, x3, x4, x5, x6, x7, x8, x9]) h 0 u0).put 1 u1).put 2 u2).put 3 u3).put 4 u4).put 5 u5).put 6 u6).put 7 u7).put 8 u8).put 9 u9
theorem chg1 {w w' : World} {b : Nat} (h : Chg w w' [b]) (i : Nat) (u : Value) : Chg w (w'.setCell ⟨b, i, none⟩ u) [b] := h.trans (chg_set w' ⟨b, i, none⟩ u)
theorem box4_chg (w : World) (b : Nat) (u0 u1 u2 u3 : Value) : Chg w (box4 w b u0 u1 u2 u3) [b] := chg1 (chg1 (chg1 (chg_set w ⟨b, 0, none⟩ u0) 1 u1) 2 u2) 3 u3
theorem box10_chg (w : World) (b : Nat) (u0 u1 u2 u3 u4 u5 u6 u7 u8 u9 : Value) : Chg w (box10 w b u0 u1 u2 u3 u4 u5 u6 u7 u8 u9) [b] :=
 chg1 (chg1 (chg1 (chg1 (chg1 (chg1 (chg1 (chg1 (chg1 (chg_set w ⟨b, 0, none⟩ u0) 1 u1) 2 u2) 3 u3) 4 u4) 5 u5) 6 u6) 7 u7) 8 u8) 9 u9
theorem row10_chg (w : World) (b i : Nat) (u0 u1 u2 u3 u4 u5 u6 u7 u8 u9 : Value) : Chg w (row10 w b i u0 u1 u2 u3 u4 u5 u6 u7 u8 u9) [b] :=
 chg1 (chg1 (chg1 (chg1 (chg1 (chg1 (chg1 (chg1 (chg1 (chg_set w ⟨b, i * 10, none⟩ u0) _ u1) _ u2) _ u3) _ u4) _ u5) _ u6) _ u7) _ u8) _ u9
theorem Chg.from {w w' : World} {b B : Nat} (h : Chg w w' [b]) (hB : B <= w.heap.size) (hb : B <= b) : Below B w w' := h.below hB (fun k hk => by rw [List.mem_singleton] at hk; omega)
theorem row_stored {w : World} {base g M c : Nat} {xs : List Value} (h : w.ownsRow base 89 10 (.slice (some ⟨g, 0, none⟩) M c) M xs) (i : Nat) (A B C : List Value) (hx : xs = A ++ B ++ C) (hA : A.length = i * 10) (hB : B.length = 10) (u0 u1 u2 u3 u4 u5 u6 u7 u8 u9 : Value) :
  (row10 w g i u0 u1 u2 u3 u4 u5 u6 u7 u8 u9).ownsRow base 89 10 (.slice (some ⟨g, 0, none⟩) M c) M (A ++ [u0, u1, u2, u3, u4, u5, u6, u7, u8, u9] ++ C) := by
 have h1 := IF.set_mid A B C [u0, u1, u2, u3, u4, u5, u6, u7, u8, u9] hB.symm
 rw [hA] at h1
 rw [<- h1, <- hx]
 exact ((((((((((h.stored (i * 10) u0).1.stored (i * 10 + 1) u1).1.stored (i * 10 + 2) u2).1.stored (i * 10 + 3) u3).1.stored (i * 10 + 4) u4).1.stored (i * 10 + 5) u5).1.stored (i * 10 + 6) u6).1.stored (i * 10 + 7) u7).1.stored (i * 10 + 8) u8).1.stored (i * 10 + 9) u9).1
theorem row_sl {w : World} {base : Nat} {v : Value} {l : List I} {S : List Nat} (h : IF.Own w base v l S) (h0 : 0 < l.length) : ∃ g c, v = .slice (some ⟨g, 0, none⟩) l.length c /\ g ∈ S /\ base <= g /\ g < w.heap.size := by
 obtain ⟨es, hns, hrow, rfl, hnd, hel⟩ := h
 rcases hrow.2 with ⟨_, hz⟩ | ⟨g, cap, cur, rfl, hb, hg, _⟩
 ·omega
 ·exact ⟨g, cap, rfl, by simp [fpR, Value.ownBlock], hb, (Array.getElem?_eq_some_iff.1 hg).1⟩
theorem i_store {w : World} {base g M c : Nat} {l : List I} {S T : List Nat} (h : IF.Own w base (.slice (some ⟨g, 0, none⟩) M c) l S) (i : Nat) (hi : i < l.length) {n : I} {u0 u1 u2 u3 u4 u5 u6 u7 u8 u9 : Value} (hn : In.Own w base (.agg #[u0, u1, u2, u3, u4, u5, u6, u7, u8, u9]) n T) (ha : Apart T S) :
  ∃ S', IF.Own (row10 w g i u0 u1 u2 u3 u4 u5 u6 u7 u8 u9) base (.slice (some ⟨g, 0, none⟩) M c) (l.set i n) S' /\ ∀ k ∈ S', k ∈ S \/ k ∈ T := by
 obtain ⟨es, hns, hrow, hS, hnd, hel⟩ := h
 have hesl : es.length = l.length := by rw [<- hns, IF.ns_length]
 have hM : M = l.length := by
  rcases hrow.2 with ⟨hv, _⟩ | ⟨_, _, _, hv, _⟩
  ·cases hv
  ·rw [Value.slice.injEq] at hv; exact hv.2.1
 subst hM
 have hie : i < es.length := by omega
 obtain ⟨e1, he1⟩ : ∃ e, e = es[i] := ⟨_, rfl⟩
 have hsp : es = es.take i ++ e1 :: es.drop (i + 1) := by rw [he1]; simp
 have hS2 : S = fpR (.slice (some ⟨g, 0, none⟩) 0 0) ++ IF.fps (es.take i ++ e1 :: es.drop (i + 1)) := by rw [<- hsp]; exact hS
 have hgS : g ∈ S := by rw [hS]; simp [fpR, Value.ownBlock]
 have hgT : g ∉ T := fun hh => ha g hh hgS
 have hTg : Apart T [g] := IF.apart_one hgT
 have hel2 : ∀ x ∈ es.take i ++ e1 :: es.drop (i + 1), In.Own w base x.2.1 x.1 x.2.2 := by rw [<- hsp]; exact hel
 have hcells : IF.cells es = IF.cells (es.take i) ++ IF.vcells e1.2.1 ++ IF.cells (es.drop (i + 1)) := by
  conv => lhs; rw [hsp]
  rw [IF.cells_app, List.append_assoc]; rfl
 have hA : (IF.cells (es.take i)).length = i * 10 := by
  rw [IF.cells_len (w := w) (base := base) (fun e he => hel e (List.mem_of_mem_take he)), List.length_take]; congr 1; omega
 have hB : (IF.vcells e1.2.1).length = 10 := IF.vlen (hel2 e1 (by simp))
 have hst := row_stored hrow i _ _ _ hcells hA hB u0 u1 u2 u3 u4 u5 u6 u7 u8 u9
 have hc := row10_chg w g i u0 u1 u2 u3 u4 u5 u6 u7 u8 u9
 generalize row10 w g i u0 u1 u2 u3 u4 u5 u6 u7 u8 u9 = w' at hst hc ⊢
 have he' : In.Own w' base (.agg #[u0, u1, u2, u3, u4, u5, u6, u7, u8, u9]) n T := In.own_chg hn hc hTg
 have hall := IF.own_mid (e' := (n, .agg #[u0, u1, u2, u3, u4, u5, u6, u7, u8, u9], T)) hS2 hnd hel2 (hc.more (fun b hb => by rw [List.mem_singleton] at hb; simp [hb])) he'
 have hnd2 := hnd
 rw [hS2] at hnd2
 rw [IF.fps_app, show IF.fps (e1 :: es.drop (i + 1)) = e1.2.2 ++ IF.fps (es.drop (i + 1)) from by simp [IF.fps]] at hnd2
 obtain ⟨n1, n2, n3⟩ := nodup_parts hnd2
 obtain ⟨n4, n5, n6⟩ := nodup_parts n2
 obtain ⟨n7, n8, n9⟩ := nodup_parts n5
 have hsub : ∀ k, k ∈ IF.fps (es.take i) \/ k ∈ IF.fps (es.drop (i + 1)) -> k ∈ S := fun k hk => by
  rw [hS2, IF.fps_app, show IF.fps (e1 :: es.drop (i + 1)) = e1.2.2 ++ IF.fps (es.drop (i + 1)) from by simp [IF.fps]]
  simp only [List.mem_append]
  rcases hk with hk | hk
  ·exact .inr (.inl hk)
  ·exact .inr (.inr (.inr hk))
 refine ⟨fpR (.slice (some ⟨g, 0, none⟩) l.length c) ++ IF.fps (es.take i ++ (n, .agg #[u0, u1, u2, u3, u4, u5, u6, u7, u8, u9], T) :: es.drop (i + 1)), ⟨es.take i ++ (n, .agg #[u0, u1, u2, u3, u4, u5, u6, u7, u8, u9], T) :: es.drop (i + 1), ?_, ?_, rfl, ?_, hall⟩, ?_⟩
 ·rw [List.set_eq_take_append_cons_drop, if_pos hi, <- hns]
  simp [IF.ns, List.map_take, List.map_drop]
 ·rw [List.length_set]
  have e : IF.cells (es.take i ++ (n, .agg #[u0, u1, u2, u3, u4, u5, u6, u7, u8, u9], T) :: es.drop (i + 1)) = IF.cells (es.take i) ++ [u0, u1, u2, u3, u4, u5, u6, u7, u8, u9] ++ IF.cells (es.drop (i + 1)) := by
   rw [IF.cells_app, List.append_assoc]; rfl
  rw [e]; exact hst
 ·rw [IF.fps_app, show ∀ x : IF.El, IF.fps (x :: es.drop (i + 1)) = x.2.2 ++ IF.fps (es.drop (i + 1)) from fun x => by simp [IF.fps]]
  refine nodup_app (fpR_nodup _) (nodup_app n4 (nodup_app (In.own_nodup hn) n8 fun k hk hh => ha k hk (hsub k (.inr hh))) fun k hk hh => ?_) fun k hk hh => ?_
  ·rcases List.mem_append.1 hh with hh | hh
   ·exact ha k hh (hsub k (.inl hk))
   ·exact n6 k hk (List.mem_append.2 (.inr hh))
  ·have hkg : k = g := by simpa [fpR, Value.ownBlock] using hk
   subst hkg
   rcases List.mem_append.1 hh with hh | hh
   ·exact n3 k (by simp [fpR, Value.ownBlock]) (List.mem_append.2 (.inl hh))
   ·rcases List.mem_append.1 hh with hh | hh
    ·exact hgT hh
    ·exact n3 k (by simp [fpR, Value.ownBlock]) (List.mem_append.2 (.inr (List.mem_append.2 (.inr hh))))
 ·intro k hk
  rw [IF.fps_app, show ∀ x : IF.El, IF.fps (x :: es.drop (i + 1)) = x.2.2 ++ IF.fps (es.drop (i + 1)) from fun x => by simp [IF.fps]] at hk
  simp only [List.mem_append] at hk
  rcases hk with hk | hk | hk | hk
  ·left; rw [hS]; exact List.mem_append.2 (.inl hk)
  ·exact .inl (hsub k (.inl hk))
  ·exact .inr hk
  ·exact .inl (hsub k (.inr hk))
structure FO (w : World) (lo b : Nat) (f : F) (q : Value) (gi ci gd cd : Nat) (S : List Nat) : Prop where
 box : Bk w b #[.int .i64 f.tick, q, .slice (some ⟨gi, 0, none⟩) 20 ci, .slice (some ⟨gd, 0, none⟩) 56 cd] 33
 out : b ∉ S
 own : FsF.Own w lo (.agg #[.int .i64 f.tick, q, .slice (some ⟨gi, 0, none⟩) 20 ci, .slice (some ⟨gd, 0, none⟩) 56 cd]) f S
 il : f.inodes.length = 20
 dl : f.data.length = 56
theorem sf_sl {w : World} {base : Nat} {v : Value} {l : List ByteArray} {S : List Nat} (h : SF.Own w base v l S) (h0 : 0 < l.length) : ∃ g c, v = .slice (some ⟨g, 0, none⟩) l.length c /\ S = [g] := by
 obtain ⟨hrow, rfl⟩ := h
 rcases hrow.2 with ⟨_, hz⟩ | ⟨g, cap, cur, rfl, hb, hg, _⟩
 ·omega
 ·exact ⟨g, cap, rfl, rfl⟩
theorem own_open {w : World} {lo : Nat} {v : Value} {f : F} {S : List Nat} (h : FsF.Own w lo v f S) (hi : f.inodes.length = 20) (hd : f.data.length = 56) : ∃ (qa : Option Addr) (ql qc gi ci gd cd : Nat), v = .agg #[.int .i64 f.tick, .slice qa ql qc, .slice (some ⟨gi, 0, none⟩) 20 ci, .slice (some ⟨gd, 0, none⟩) 56 cd] /\ ql = f.quotas.length := by
 obtain ⟨r0, r1, r2, S0, S1, S2, rfl, rfl, hnd, h0, h1, h2⟩ := h
 obtain ⟨gi, ci, rfl, _⟩ := row_sl h1 (by omega)
 obtain ⟨gd, cd, rfl, _⟩ := sf_sl h2 (by omega)
 obtain ⟨qa, qc, rfl⟩ := QF.own_form h0
 rw [hi, hd]
 exact ⟨qa, _, qc, gi, ci, gd, cd, rfl, rfl⟩
section
variable {w w' : World} {lo b gi ci gd cd : Nat} {f : F} {q : Value} {S T : List Nat}
theorem FO.parts (h : FO w lo b f q gi ci gd cd S) : ∃ S0 S1, S = S0 ++ S1 ++ [gd] /\ S.Nodup /\ QF.Own w lo q f.quotas S0 /\ IF.Own w lo (.slice (some ⟨gi, 0, none⟩) 20 ci) f.inodes S1 /\ SF.Own w lo (.slice (some ⟨gd, 0, none⟩) 56 cd) f.data [gd] := by
 obtain ⟨r0, r1, r2, S0, S1, S2, hv, rfl, hnd, h0, h1, h2⟩ := h.own
 simp only [Value.agg.injEq, Array.mk.injEq, List.cons.injEq, true_and, and_true] at hv
 obtain ⟨rfl, rfl, rfl⟩ := hv
 have : S2 = [gd] := h2.2
 subst this
 exact ⟨S0, S1, rfl, hnd, h0, h1, h2⟩
theorem FO.gi_mem (h : FO w lo b f q gi ci gd cd S) : gi ∈ S := by
 obtain ⟨S0, S1, rfl, _, _, h1, _⟩ := h.parts
 obtain ⟨g, c, e, hg, _⟩ := row_sl h1 (by rw [h.il]; decide)
 simp only [Value.slice.injEq, Option.some.injEq, Addr.mk.injEq, and_true] at e
 obtain ⟨rfl, _⟩ := e
 simp [hg]
theorem FO.gd_mem (h : FO w lo b f q gi ci gd cd S) : gd ∈ S := by
 obtain ⟨S0, S1, rfl, _⟩ := h.parts
 simp
theorem FO.lies (h : FO w lo b f q gi ci gd cd S) : Lies S lo w.heap.size := FsF.own_lies h.own
theorem FO.holds (h : FO w lo b f q gi ci gd cd S) : FsF.Holds w (.agg #[.int .i64 f.tick, q, .slice (some ⟨gi, 0, none⟩) 20 ci, .slice (some ⟨gd, 0, none⟩) 56 cd]) f := FsF.own_holds h.own
theorem FO.chg (h : FO w lo b f q gi ci gd cd S) (hc : Chg w w' T) (hb : b ∉ T) (ha : Apart S T) : FO w' lo b f q gi ci gd cd S := ⟨Bk.chg h.box hc hb, h.out, FsF.own_chg h.own hc ha, h.il, h.dl⟩
theorem FO.below (h : FO w lo b f q gi ci gd cd S) (hb : Below w.heap.size w w') : FO w' lo b f q gi ci gd cd S := ⟨h.box.all hb, h.out, FsF.own_below h.own hb, h.il, h.dl⟩
theorem FO.cells (h : FO w lo b f q gi ci gd cd S) : w.cell? ⟨b, 0, none⟩ = some (.int .i64 f.tick) /\ w.cell? ⟨b, 1, none⟩ = some q /\ w.cell? ⟨b, 2, none⟩ = some (.slice (some ⟨gi, 0, none⟩) 20 ci) /\ w.cell? ⟨b, 3, none⟩ = some (.slice (some ⟨gd, 0, none⟩) 56 cd) := Bk.c4 h.box
theorem FO.gd_lt (h : FO w lo b f q gi ci gd cd S) : lo <= gd /\ gd < w.heap.size := h.lies gd h.gd_mem
theorem FO.gi_lt (h : FO w lo b f q gi ci gd cd S) : lo <= gi /\ gi < w.heap.size := h.lies gi h.gi_mem
theorem FO.dcell (h : FO w lo b f q gi ci gd cd S) {j : Nat} (hj : j < 56) : w.cell? ⟨gd, j, none⟩ = some (.string (f.data.getD j e0)) /\ w.frozen? ⟨gd, j, none⟩ = false := by
 obtain ⟨S0, S1, rfl, _, _, _, h2⟩ := h.parts
 have hr := h2.1
 rw [h.dl] at hr
 refine ⟨?_, hr.frozenAt j⟩
 rw [hr.cellAt j (by omega), SF.cells, List.getElem?_map, List.getElem?_eq_getElem (by rw [h.dl]; exact hj), List.getD_eq_getElem?_getD, List.getElem?_eq_getElem (by rw [h.dl]; exact hj)]; rfl
theorem FO.setD (h : FO w lo b f q gi ci gd cd S) {j : Nat} (hj : j < 56) (s : ByteArray) : FO (w.setCell ⟨gd, j, none⟩ (.string s)) lo b { f with data := f.data.set j s } q gi ci gd cd S := by
 have hgb : b ≠ gd := fun e => h.out (e ▸ h.gd_mem)
 have hout := h.out
 have hbox := h.box
 have hil := h.il
 have hdl := h.dl
 obtain ⟨S0, S1, rfl, hnd, h0, h1, h2⟩ := h.parts
 have hc := chg_set w ⟨gd, j, none⟩ (.string s)
 obtain ⟨n1, n2, n3⟩ := nodup_parts hnd
 refine ⟨Bk.chg hbox hc (by simpa using hgb), hout, ⟨_, _, _, S0, S1, [gd], rfl, rfl, hnd, QF.own_chg h0 hc ?_, IF.own_chg h1 hc ?_, ?_⟩, hil, by rw [List.length_set]; exact hdl⟩
 ·exact fun k hk => n3 k (List.mem_append.2 (.inl hk))
 ·exact fun k hk => n3 k (List.mem_append.2 (.inr hk))
 ·refine ⟨?_, rfl⟩
  have hr := h2.1
  rw [hdl] at hr
  have := (hr.stored j (.string s)).1
  rw [List.length_set, hdl]
  rw [show SF.cells (f.data.set j s) = (SF.cells f.data).set j (.string s) from by simp [SF.cells, List.map_set]]
  exact this
theorem FO.icell (h : FO w lo b f q gi ci gd cd S) {i : Nat} (hi : i < 20) : ∃ r0 r1 r2 : Value, IF.Cell w gi (i * 10) (ino f i) r0 r1 r2 /\ IF.Parts w (ino f i) r0 r1 r2 := by
 obtain ⟨S0, S1, rfl, _, _, h1, _⟩ := h.parts
 obtain ⟨a, cap, e, _, hat⟩ := IF.own_holds h1
 obtain ⟨b', o', ea, _, r0, r1, r2, hC, hP⟩ := hat i (by rw [h.il]; exact hi)
 simp only [Value.slice.injEq] at e
 obtain ⟨rfl, _, _⟩ := e
 simp only [Option.some.injEq, Addr.mk.injEq, and_true] at ea
 obtain ⟨rfl, rfl⟩ := ea
 rw [Nat.zero_add] at hC
 exact ⟨r0, r1, r2, hC, hP⟩
theorem FO.ifree (h : FO w lo b f q gi ci gd cd S) (j : Nat) : w.frozen? ⟨gi, j, none⟩ = false := by
 obtain ⟨S0, S1, rfl, _, _, ⟨es, _, hrow, _⟩, _⟩ := h.parts
 rw [h.il] at hrow
 exact hrow.frozenAt j
theorem FO.setI (h : FO w lo b f q gi ci gd cd S) {i : Nat} (hi : i < 20) {n : I} {u0 u1 u2 u3 u4 u5 u6 u7 u8 u9 : Value} (hn : In.Own w lo (.agg #[u0, u1, u2, u3, u4, u5, u6, u7, u8, u9]) n T) (ha : Apart T S) (hbT : b ∉ T) :
  ∃ S', FO (row10 w gi i u0 u1 u2 u3 u4 u5 u6 u7 u8 u9) lo b { f with inodes := f.inodes.set i n } q gi ci gd cd S' /\ ∀ k ∈ S', k ∈ S \/ k ∈ T := by
 have hgi := h.gi_mem
 have hout := h.out
 have hgb : b ≠ gi := fun e => hout (e ▸ hgi)
 have hbox := h.box
 have hil := h.il
 have hdl := h.dl
 obtain ⟨S0, S1, rfl, hnd, h0, h1, h2⟩ := h.parts
 obtain ⟨n1, n2, n3⟩ := nodup_parts hnd
 obtain ⟨n4, n5, n6⟩ := nodup_parts n1
 have hg1 : gi ∈ S1 := by
  obtain ⟨g, c, e, hg, _⟩ := row_sl h1 (by rw [hil]; decide)
  simp only [Value.slice.injEq, Option.some.injEq, Addr.mk.injEq, and_true] at e
  obtain ⟨rfl, _⟩ := e
  exact hg
 obtain ⟨S', hS', hsub⟩ := i_store h1 i (by rw [hil]; exact hi) hn (fun k hk hh => ha k hk (by simp [hh]))
 have hc := row10_chg w gi i u0 u1 u2 u3 u4 u5 u6 u7 u8 u9
 generalize row10 w gi i u0 u1 u2 u3 u4 u5 u6 u7 u8 u9 = w' at hS' hc ⊢
 refine ⟨S0 ++ S' ++ [gd], ⟨Bk.chg hbox hc (by simpa using hgb), ?_, ⟨_, _, _, S0, S', [gd], rfl, rfl, ?_, QF.own_chg h0 hc ?_, hS', SF.own_chg h2 hc ?_⟩, by rw [List.length_set]; exact hil, hdl⟩, ?_⟩
 ·simp only [List.mem_append, not_or] at hout ⊢
  exact ⟨⟨hout.1.1, fun hh => (hsub b hh).elim (fun x => hout.1.2 x) (fun x => hbT x)⟩, hout.2⟩
 ·refine nodup_app (nodup_app n4 (IF.own_nodup hS') fun k hk hh => ?_) n2 fun k hk hh => ?_
  ·rcases hsub k hh with x | x
   ·exact n6 k hk x
   ·exact ha k x (by simp [hk])
  ·rcases List.mem_append.1 hk with hk | hk
   ·exact n3 k (List.mem_append.2 (.inl hk)) hh
   ·rcases hsub k hk with x | x
    ·exact n3 k (List.mem_append.2 (.inr x)) hh
    ·exact ha k x (List.mem_append.2 (.inr hh))
 ·exact fun k hk hh => n6 k hk (by rw [List.mem_singleton] at hh; rw [hh]; exact hg1)
 ·exact fun k hk hh => n3 gi (List.mem_append.2 (.inr hg1)) (by rw [List.mem_singleton] at hh; rw [<- hh]; exact hk)
 ·intro k hk
  simp only [List.mem_append] at hk ⊢
  rcases hk with (hk | hk) | hk
  ·exact .inl (.inl (.inl hk))
  ·rcases hsub k hk with x | x
   ·exact .inl (.inl (.inr x))
   ·exact .inr x
  ·exact .inl (.inr hk)
end
end Go.Proofs.YthppbcnejapbiaaGreatDoor.FoB
