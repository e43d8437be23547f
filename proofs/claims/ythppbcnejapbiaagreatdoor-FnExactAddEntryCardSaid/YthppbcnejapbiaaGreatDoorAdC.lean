/- Helper texts joined, one behind another (a claim has at most 60 files): what each proves, its own head says: YthppbcnejapbiaaGreatDoorFlK, YthppbcnejapbiaaGreatDoorArgs, YthppbcnejapbiaaGreatDoorFsO, YthppbcnejapbiaaGreatDoorInEq, YthppbcnejapbiaaGreatDoorArrEq, YthppbcnejapbiaaGreatDoorInSm, YthppbcnejapbiaaGreatDoorPm, YthppbcnejapbiaaGreatDoorCr, YthppbcnejapbiaaGreatDoorCrI, YthppbcnejapbiaaGreatDoorMd. -/
import Derived.Test.YthppbcnejapbiaaGreatDoorAdA
import Derived.Test.YthppbcnejapbiaaGreatDoorKit
import Derived.Test.YthppbcnejapbiaaGreatDoorAclS
import Derived.Test.YthppbcnejapbiaaGreatDoorDkAt
import Derived.Test.YthppbcnejapbiaaGreatDoorAdB
import Derived.Deep.RegionHeld3
import Derived.Laws.StructEq
import Derived.Test.YthppbcnejapbiaaGreatDoorFam
import Derived.Test.YthppbcnejapbiaaGreatDoorCredV
import Derived.Laws.BitsAllLaws
import Derived.Test.YthppbcnejapbiaaGreatDoorRowG
import Derived.Deep.QuietTactic
import Derived.BigQuiet
import Derived.Deep.RegionLaw

-- YthppbcnejapbiaaGreatDoorFlK
/- A part. -/
namespace Go.Proofs.YthppbcnejapbiaaGreatDoor.FlK
open Go.ChangeShapes Go.WideShapes Go.ChangeAt Go.RowKit
open Foot Bx
set_option linter.unusedVariables false
theorem bk_chg {w w' : World} {b : Nat} {cs : Array Value} {t : TypeId} {S : List Nat} (h : Bk w b cs t) (hc : Chg w w' S) (hn : b ∉ S) : Bk w' b cs t := (hc.block b h.lt hn).trans h
theorem lies_apart {S T : List Nat} {a b c d : Nat} (h : Lies S a b) (h' : Lies T c d) (hbc : b <= c) : Apart T S := (Lies.apart h h' hbc).symm
theorem below_chg {w a b : World} {B : Nat} {S : List Nat} {lo hi : Nat} (h : Below B w a) (hc : Chg a b S) (hB : B <= a.heap.size) (hl : Lies S lo hi) (hlo : B <= lo) : Below B w b :=
 h.trans (hc.below hB (fun k hk => by have := (hl k hk).1; omega))
theorem not_in_low {S : List Nat} {lo hi b : Nat} (hl : Lies S lo hi) (h : b < lo) : b ∉ S := fun hh => by have := (hl b hh).1; omega
theorem not_in_high {S : List Nat} {lo hi b : Nat} (hl : Lies S lo hi) (h : hi <= b) : b ∉ S := fun hh => by have := (hl b hh).2; omega
end Go.Proofs.YthppbcnejapbiaaGreatDoor.FlK

-- YthppbcnejapbiaaGreatDoorArgs
/- A part. -/
namespace Go.Proofs.YthppbcnejapbiaaGreatDoor.Args
open Go.ChangeShapes Go.WideShapes
set_option linter.unusedVariables false
section
variable {H : Type} {enc : TypeId × Value -> H} {P : Program} {w : World} {base : Nat} {spare : Nat -> Bool} {held : Bool}
theorem opened4 {t0 t1 t2 t3 : TypeId} {args : Array Value} {ds : List (DataW H)} {ps : List MemPlace} (h : DataW.TrodAll enc P w base spare held [t0, t1, t2, t3] args.toList ds ps) :
  ∃ v0 v1 v2 v3 d0 d1 d2 d3, args = #[v0, v1, v2, v3] /\ ds = [d0, d1, d2, d3] /\ (∃ p, DataW.Trod enc P w base spare held t0 v0 d0 p) /\ (∃ p, DataW.Trod enc P w base spare held t1 v1 d1 p) /\ (∃ p, DataW.Trod enc P w base spare held t2 v2 d2 p) /\ (∃ p, DataW.Trod enc P w base spare held t3 v3 d3 p) := by
 obtain ⟨v0, r0, d0, s0, p0, q0, hargs, rfl, rfl, e0, i0⟩ := trodAll_cons h
 obtain ⟨v1, r1, d1, s1, p1, q1, rfl, rfl, rfl, e1, i1⟩ := trodAll_cons i0
 obtain ⟨v2, r2, d2, s2, p2, q2, rfl, rfl, rfl, e2, i2⟩ := trodAll_cons i1
 obtain ⟨v3, r3, d3, s3, p3, q3, rfl, rfl, rfl, e3, i3⟩ := trodAll_cons i2
 obtain ⟨rfl, rfl, rfl⟩ := trodAll_nil i3
 exact ⟨v0, v1, v2, v3, d0, d1, d2, d3, by cases args; simp_all, rfl, ⟨_, e0⟩, ⟨_, e1⟩, ⟨_, e2⟩, ⟨_, e3⟩⟩
end
end Go.Proofs.YthppbcnejapbiaaGreatDoor.Args

-- YthppbcnejapbiaaGreatDoorFsO
/- A part. -/
namespace Go.Proofs.YthppbcnejapbiaaGreatDoor.FsO
open Go.ChangeShapes Go.WideShapes Go.ChangeAt Go.RowKit
open FsV (ownerV)
open Strs (ret_int)
set_option linter.unusedVariables false
theorem owner_div {b : Int} (h0 : 0 <= b) (h1 : b <= 55) : b.tdiv 14 = ownerV b := by
 rw [Int.tdiv_eq_ediv_of_nonneg h0, ownerV, if_pos ⟨h0, h1⟩]
set_option maxRecDepth 100000 in
theorem owner_spec (b : Int) (w : World) : Calls Tryz.prog 170 #[.int .i64 b] w fun e w' => e = .returned (.int .i64 (ownerV b)) /\ w = w' := by
 have hin := AclS.in_any b 0 55 w
 cases hi : (decide (0 <= b) && decide (b <= 55))
 ·have hn : ¬ (0 <= b /\ b <= 55) := by simpa using hi
  rw [hi] at hin
  have HIN := Lib.hid hin
  have HV := Lib.hid (show ownerV b = -1 from by rw [ownerV, if_neg hn])
  clear hin hi hn
  go_enter Tryz.func170, Tryz.ntmps170
  go_wp2_with fail
  refine HIN.out.mono ?_
  rintro e w1 ⟨rfl, rfl⟩
  go_wp2
  go_ret
  exact ⟨ret_int HV.out.symm, rfl⟩
 ·have hn : 0 <= b /\ b <= 55 := by simpa using hi
  rw [hi] at hin
  have HIN := Lib.hid hin
  have HV := Lib.hid (owner_div hn.1 hn.2)
  have h0 := hn.1
  have h1 := hn.2
  clear hin hi hn
  go_enter Tryz.func170, Tryz.ntmps170
  go_wp2_with fail
  refine HIN.out.mono ?_
  rintro e w1 ⟨rfl, rfl⟩
  go_wp2
  go_ret
  exact ⟨ret_int (by first | exact HV.out | (rw [<- HV.out, Int.tdiv_eq_ediv_of_nonneg h0])), rfl⟩
set_option maxRecDepth 100000 in
theorem owner_impl (b : Int) (w : World) : Calls Tryz.prog 173 #[.int .i64 b] w fun e w' => e = .returned (.int .i64 (ownerV b)) /\ w = w' := by
 by_cases h0 : 0 <= b
 ·by_cases h1 : b <= 55
  ·have HV := Lib.hid (owner_div h0 h1)
   go_enter Tryz.func173, Tryz.ntmps173
   go_wp2
   go_ret
   exact ⟨ret_int (by first | exact HV.out | (rw [<- HV.out, Int.tdiv_eq_ediv_of_nonneg h0])), rfl⟩
  ·have HV := Lib.hid (show ownerV b = -1 from by rw [ownerV, if_neg (by omega)])
   go_enter Tryz.func173, Tryz.ntmps173
   go_wp2
   go_ret
   exact ⟨ret_int HV.out.symm, rfl⟩
 ·have HV := Lib.hid (show ownerV b = -1 from by rw [ownerV, if_neg (by omega)])
  go_enter Tryz.func173, Tryz.ntmps173
  go_wp2
  go_ret
  exact ⟨ret_int HV.out.symm, rfl⟩
end Go.Proofs.YthppbcnejapbiaaGreatDoor.FsO

-- YthppbcnejapbiaaGreatDoorInEq
/- A part. -/
namespace Go.Proofs.YthppbcnejapbiaaGreatDoor.InEq
set_option maxHeartbeats 800000
set_option maxRecDepth 100000
open Go.ChangeShapes Go.WideShapes Go.ChangeAt Go.RowKit
open Foot Bx
open InoV (needV usedV)
open Dk (ret_bool)
open Strs (ret_int)
set_option linter.unusedVariables false
theorem ext_getD {α : Type} {d : α} {xs ys : List α} (hl : xs.length = ys.length) (h : ∀ j, j < xs.length -> xs.getD j d = ys.getD j d) : xs = ys := by
 refine List.ext_getElem hl fun i h1 h2 => ?_
 have := h i h1
 simpa [List.getD, List.getElem?_eq_getElem h1, List.getElem?_eq_getElem h2] using this
theorem below_draws {w : World} (m : Nat) : Below w.heap.size w (w.drewN m) := Joins.below_draws _ w m
theorem neq_ent (x y : AclV.At) (w : World) : Sem.run Tryz.prog (binOp .neq 161 (.agg #[.int .i64 x.1, .int .i64 x.2.1, .int .i64 x.2.2]) (.agg #[.int .i64 y.1, .int .i64 y.2.1, .int .i64 y.2.2])) w = .ok (.bool (!decide (x = y))) w := by
 have u3 := Tryz.underlying3
 have a3 := Tryz.isAgg3
 have z3 := Tryz.sizeOf3
 have hS : Tryz.prog.underlying 161 = some (.struct (Tryz.prog.fieldsOf 161)) := by kernel_rfl
 have hp : Tryz.prog.stoodInHeld 161 = false := by kernel_rfl
 rw [run_neq_struct, show (10000 : Nat) = 9999 + 1 from rfl, run_equalIn_agg w 9999 161 _ _ hS hp]
 simp only [Program.fieldsOf, Tryz.underlying161]
 obtain ⟨x0, x1, x2⟩ := x
 obtain ⟨y0, y1, y2⟩ := y
 go_simp
 by_cases h0 : x0 = y0 <;> by_cases h1 : x1 = y1 <;> by_cases h2 : x2 = y2 <;> simp [h0, h1, h2]
theorem guard_ent (o : BinOp) (x y : Operand) (xs ys : Array Value) (w : World) : Sem.run Tryz.prog (eqGuard o 161 x y (.agg xs) (.agg ys)) w = .ok () w := run_eqGuard_agg w o 161 x y xs ys (by kernel_rfl)
theorem same_ints (w : World) (va vb : Value) (xs ys : List Int) (h1 : xs.length <= 1073741824) (h2 : ys.length <= 1073741824) (ha : Ni.HoldsN w va xs) (hb : Ni.HoldsN w vb ys) :
  Calls Tryz.prog 207 #[va, vb] w fun e w' => e = .returned (.bool (decide (xs = ys))) /\ Below w.heap.size w w' := by
 obtain ⟨a, ca, rfl, hA⟩ := ha
 obtain ⟨b, cb, rfl, hB⟩ := hb
 have HA := Lib.hid hA
 have HB := Lib.hid hB
 clear hA hB
 by_cases hl : xs.length = ys.length
 ·obtain ⟨L, hL⟩ : ∃ L, L = xs.length := ⟨_, rfl⟩
  rw [<- hl]
  rw [<- hl] at h2
  rw [<- hL] at h1 ⊢
  have HL := Lib.hid hL
  have HE := Lib.hid hl
  clear hL hl h2
  go_enter Tryz.func207, Tryz.ntmps207
  go_wp2
  go_loopw [14] (fun i wr => ∃ k : Nat, k <= L /\ i = .int .i64 k /\ Below w.heap.size w wr /\ ∀ j, j < k -> xs.getD j 0 = ys.getD j 0) (fun i _ => L - (intOf i).toNat)
  case atStart => exact ⟨0, Nat.zero_le _, rfl, Below.refl _ _, fun j hj => absurd hj (Nat.not_lt_zero _)⟩
  case round =>
   obtain ⟨k, hk, rfl, hbel, heq⟩ := hrel
   have HBEL := Lib.hid hbel
   have hsz := hbel.size
   clear hbel
   have HQ := Lib.hid heq
   clear heq
   by_cases hlt : k < L
   ·obtain ⟨b1, o1, rfl, hl1, g0⟩ := HA.out k (by rw [<- HL.out]; exact hlt)
    obtain ⟨b2, o2, rfl, hl2, k0⟩ := HB.out k (by rw [<- HE.out, <- HL.out]; exact hlt)
    rw [<- HBEL.out.cell (p := ⟨b1, _, none⟩) hl1] at g0
    rw [<- HBEL.out.cell (p := ⟨b2, _, none⟩) hl2] at k0
    have hl3 : b2 < wr.heap.size := by omega
    by_cases hxy : xs.getD k 0 = ys.getD k 0
    ·have HN := Lib.hid (show ∀ j, j < k + 1 -> xs.getD j 0 = ys.getD j 0 from fun j hj => (by
      rcases Nat.lt_or_ge j k with hjk | hjk
      ·exact HQ.out j hjk
      ·rw [show j = k from by omega]; exact hxy))
     rw [<- hxy] at k0
     clear hxy
     generalize xs.getD k 0 = x at g0 k0
     go_wp2
     go_roundw
     case rel => exact ⟨k + 1, by omega, by go_num, HBEL.out, HN.out⟩
     case measure => simp [intOf]; omega
    ·have HN := Lib.hid (show decide (xs = ys) = false from decide_eq_false (fun h => hxy (by rw [h])))
     generalize xs.getD k 0 = x at g0 hxy
     generalize ys.getD k 0 = y at k0 hxy
     have hq : (x == y) = false := by simpa using hxy
     have hq2 : (x != y) = true := by simpa using hxy
     go_wp2
     go_ret
     exact ⟨ret_bool HN.out.symm, HBEL.out⟩
   ·have HN := Lib.hid (show decide (xs = ys) = true from decide_eq_true (ext_getD HE.out (fun j hj => HQ.out j (by rw [<- HL.out] at hj; omega))))
    go_wp2
    go_ret
    exact ⟨ret_bool HN.out.symm, HBEL.out⟩
 ·have hd : decide (xs = ys) = false := decide_eq_false (fun h => hl (by rw [h]))
  rw [hd]
  generalize xs.length = L at *
  generalize ys.length = M at *
  go_enter Tryz.func207, Tryz.ntmps207
  go_wp2
  go_ret
  exact ⟨rfl, Below.refl _ _⟩
theorem same_ents (w : World) (va vb : Value) (xs ys : List AclV.At) (h1 : xs.length <= 1073741824) (h2 : ys.length <= 1073741824) (ha : Ae.Holds w va xs) (hb : Ae.Holds w vb ys) :
  Calls Tryz.prog 208 #[va, vb] w fun e w' => e = .returned (.bool (decide (xs = ys))) /\ Below w.heap.size w w' := by
 obtain ⟨a, ca, rfl, hA⟩ := Ae.atL ha
 obtain ⟨b, cb, rfl, hB⟩ := Ae.atL hb
 have HA := Lib.hid hA
 have HB := Lib.hid hB
 clear hA hB ha hb
 by_cases hl : xs.length = ys.length
 ·obtain ⟨L, hL⟩ : ∃ L, L = xs.length := ⟨_, rfl⟩
  rw [<- hl]
  rw [<- hl] at h2
  rw [<- hL] at h1 ⊢
  have HL := Lib.hid hL
  have HE := Lib.hid hl
  clear hL hl h2
  go_enter Tryz.func208, Tryz.ntmps208
  go_wp2
  go_loopw [14] (fun i wr => ∃ k : Nat, k <= L /\ i = .int .i64 k /\ Below w.heap.size w wr /\ ∀ j, j < k -> xs.getD j AclV.a0 = ys.getD j AclV.a0) (fun i _ => L - (intOf i).toNat)
  case atStart => exact ⟨0, Nat.zero_le _, rfl, Below.refl _ _, fun j hj => absurd hj (Nat.not_lt_zero _)⟩
  case round =>
   obtain ⟨k, hk, rfl, hbel, heq⟩ := hrel
   have HBEL := Lib.hid hbel
   have hsz := hbel.size
   clear hbel
   have HQ := Lib.hid heq
   clear heq
   by_cases hlt : k < L
   ·obtain ⟨b1, o1, rfl, hl1, g0, g1, g2⟩ := HA.out k (by rw [<- HL.out]; exact hlt)
    obtain ⟨b2, o2, rfl, hl2, k0, k1, k2⟩ := HB.out k (by rw [<- HE.out, <- HL.out]; exact hlt)
    rw [<- HBEL.out.cell (p := ⟨b1, _, none⟩) hl1] at g0 g1 g2
    rw [<- HBEL.out.cell (p := ⟨b2, _, none⟩) hl2] at k0 k1 k2
    have hl3 : b2 < wr.heap.size := by omega
    by_cases hxy : xs.getD k AclV.a0 = ys.getD k AclV.a0
    ·have HN := Lib.hid (show ∀ j, j < k + 1 -> xs.getD j AclV.a0 = ys.getD j AclV.a0 from fun j hj => (by
      rcases Nat.lt_or_ge j k with hjk | hjk
      ·exact HQ.out j hjk
      ·rw [show j = k from by omega]; exact hxy))
     rw [<- hxy] at k0 k1 k2
     clear hxy
     generalize xs.getD k AclV.a0 = x at g0 g1 g2 k0 k1 k2
     go_wp2
     go_quiet (fail)
     go_wp2
     go_roundw
     case rel => exact ⟨k + 1, by omega, by go_num, ((HBEL.out.alloc hsz _).trans (below_draws _ |>.mono (by first | omega | (simp; omega)))), HN.out⟩
     case measure => simp [intOf]; omega
    ·have HN := Lib.hid (show decide (xs = ys) = false from decide_eq_false (fun h => hxy (by rw [h])))
     generalize xs.getD k AclV.a0 = x at g0 g1 g2 hxy
     generalize ys.getD k AclV.a0 = y at k0 k1 k2 hxy
     have hq : ∀ w, Sem.run Tryz.prog (binOp .neq 161 (.agg #[.int .i64 x.1, .int .i64 x.2.1, .int .i64 x.2.2]) (.agg #[.int .i64 y.1, .int .i64 y.2.1, .int .i64 y.2.2])) w = .ok (.bool true) w := fun w => by rw [neq_ent x y w, decide_eq_false hxy]; rfl
     have hg := guard_ent
     go_wp2
     go_quiet (fail)
     go_wp2
     go_ret
     exact ⟨ret_bool HN.out.symm, ((HBEL.out.alloc hsz _).trans (below_draws _ |>.mono (by first | omega | (simp; omega))))⟩
   ·have HN := Lib.hid (show decide (xs = ys) = true from decide_eq_true (ext_getD HE.out (fun j hj => HQ.out j (by rw [<- HL.out] at hj; omega))))
    go_wp2
    go_ret
    exact ⟨ret_bool HN.out.symm, HBEL.out⟩
 ·have hd : decide (xs = ys) = false := decide_eq_false (fun h => hl (by rw [h]))
  rw [hd]
  generalize xs.length = L at *
  generalize ys.length = M at *
  go_enter Tryz.func208, Tryz.ntmps208
  go_wp2
  go_ret
  exact ⟨rfl, Below.refl _ _⟩
theorem equal_ents (w : World) (va vb : Value) (xs ys : List AclV.At) (h1 : xs.length <= 1073741824) (h2 : ys.length <= 1073741824) (ha : Ae.Holds w va xs) (hb : Ae.Holds w vb ys) :
  Calls Tryz.prog 229 #[va, vb] w fun e w' => e = .returned (.bool (decide (xs = ys))) /\ Below w.heap.size w w' := by
 obtain ⟨a, ca, rfl, hA⟩ := Ae.atL ha
 obtain ⟨b, cb, rfl, hB⟩ := Ae.atL hb
 have HA := Lib.hid hA
 have HB := Lib.hid hB
 clear hA hB ha hb
 by_cases hl : xs.length = ys.length
 ·obtain ⟨L, hL⟩ : ∃ L, L = xs.length := ⟨_, rfl⟩
  rw [<- hl]
  rw [<- hl] at h2
  rw [<- hL] at h1 ⊢
  have HL := Lib.hid hL
  have HE := Lib.hid hl
  clear hL hl h2
  go_enter Tryz.func229, Tryz.ntmps229
  go_wp2
  go_loopw [13] (fun i wr => ∃ k : Nat, k <= L /\ i = .int .i64 k /\ Below w.heap.size w wr /\ ∀ j, j < k -> xs.getD j AclV.a0 = ys.getD j AclV.a0) (fun i _ => L - (intOf i).toNat)
  case atStart => exact ⟨0, Nat.zero_le _, rfl, Below.refl _ _, fun j hj => absurd hj (Nat.not_lt_zero _)⟩
  case round =>
   obtain ⟨k, hk, rfl, hbel, heq⟩ := hrel
   have HBEL := Lib.hid hbel
   have hsz := hbel.size
   clear hbel
   have HQ := Lib.hid heq
   clear heq
   by_cases hlt : k < L
   ·obtain ⟨b1, o1, rfl, hl1, g0, g1, g2⟩ := HA.out k (by rw [<- HL.out]; exact hlt)
    obtain ⟨b2, o2, rfl, hl2, k0, k1, k2⟩ := HB.out k (by rw [<- HE.out, <- HL.out]; exact hlt)
    rw [<- HBEL.out.cell (p := ⟨b1, _, none⟩) hl1] at g0 g1 g2
    rw [<- HBEL.out.cell (p := ⟨b2, _, none⟩) hl2] at k0 k1 k2
    have hl3 : b2 < wr.heap.size := by omega
    by_cases hxy : xs.getD k AclV.a0 = ys.getD k AclV.a0
    ·have HN := Lib.hid (show ∀ j, j < k + 1 -> xs.getD j AclV.a0 = ys.getD j AclV.a0 from fun j hj => (by
      rcases Nat.lt_or_ge j k with hjk | hjk
      ·exact HQ.out j hjk
      ·rw [show j = k from by omega]; exact hxy))
     rw [<- hxy] at k0 k1 k2
     clear hxy
     generalize xs.getD k AclV.a0 = x at g0 g1 g2 k0 k1 k2
     go_wp2
     go_quiet (fail)
     go_wp2
     go_roundw
     case rel => exact ⟨k + 1, by omega, by go_num, (HBEL.out.trans (below_draws _ |>.mono (by first | omega | (simp; omega)))), HN.out⟩
     case measure => simp [intOf]; omega
    ·have HN := Lib.hid (show decide (xs = ys) = false from decide_eq_false (fun h => hxy (by rw [h])))
     generalize xs.getD k AclV.a0 = x at g0 g1 g2 hxy
     generalize ys.getD k AclV.a0 = y at k0 k1 k2 hxy
     have hq : ∀ w, Sem.run Tryz.prog (binOp .neq 161 (.agg #[.int .i64 x.1, .int .i64 x.2.1, .int .i64 x.2.2]) (.agg #[.int .i64 y.1, .int .i64 y.2.1, .int .i64 y.2.2])) w = .ok (.bool true) w := fun w => by rw [neq_ent x y w, decide_eq_false hxy]; rfl
     have hg := guard_ent
     go_wp2
     go_quiet (fail)
     go_wp2
     go_ret
     exact ⟨ret_bool HN.out.symm, (HBEL.out.trans (below_draws _ |>.mono (by first | omega | (simp; omega))))⟩
   ·have HN := Lib.hid (show decide (xs = ys) = true from decide_eq_true (ext_getD HE.out (fun j hj => HQ.out j (by rw [<- HL.out] at hj; omega))))
    go_wp2
    go_ret
    exact ⟨ret_bool HN.out.symm, HBEL.out⟩
 ·have hd : decide (xs = ys) = false := decide_eq_false (fun h => hl (by rw [h]))
  rw [hd]
  generalize xs.length = L at *
  generalize ys.length = M at *
  go_enter Tryz.func229, Tryz.ntmps229
  go_wp2
  go_ret
  exact ⟨rfl, Below.refl _ _⟩
theorem need_spec (n : Int) (w : World) (h : Rg n) :
  Calls Tryz.prog 153 #[.int .i64 n] w fun e w' => e = .returned (.int .i64 (needV n)) /\ w = w' := by
 obtain ⟨h1, h2⟩ := h
 by_cases hn : n <= 0
 ·have HV := Lib.hid (show needV n = 0 from if_pos hn)
  rw [HV.out]
  go_enter Tryz.func153, Tryz.ntmps153
  go_wp2
  go_ret
  exact ⟨rfl, rfl⟩
 ·have HV := Lib.hid (show needV n = (n - 1) / 32 + 1 from if_neg hn)
  go_enter Tryz.func153, Tryz.ntmps153
  go_wp2
  go_ret
  exact ⟨ret_int (by rw [HV.out]), rfl⟩
theorem need_impl (n : Int) (w : World) (h : Rg n) :
  Calls Tryz.prog 119 #[.int .i64 n] w fun e w' => e = .returned (.int .i64 (needV n)) /\ w = w' := by
 obtain ⟨h1, h2⟩ := h
 by_cases hn : n <= 0
 ·have HV := Lib.hid (show needV n = 0 from if_pos hn)
  rw [HV.out]
  go_enter Tryz.func119, Tryz.ntmps119
  go_wp2
  go_ret
  exact ⟨rfl, rfl⟩
 ·have HV := Lib.hid (show needV n = (n - 1) / 32 + 1 from if_neg hn)
  go_enter Tryz.func119, Tryz.ntmps119
  go_wp2
  go_ret
  exact ⟨ret_int (by rw [HV.out]), rfl⟩
theorem used_snoc {l : List Int} {k : Nat} (h : k < l.length) : usedV (l.take (k + 1)) = usedV (l.take k) ++ (if l.getD k 0 = -1 then [] else [l.getD k 0]) := by
 have e : l.getD k 0 = l[k] := by rw [List.getD_eq_getElem?_getD, List.getElem?_eq_getElem h]; rfl
 rw [List.take_succ_eq_append_getElem h, e]
 unfold usedV
 rw [List.filter_append]
 congr 1
 by_cases hx : l[k] = -1 <;> simp [hx]
theorem used_len (l : List Int) : (usedV l).length <= l.length := List.length_filter_le _ _
theorem cells1_new (w : World) (x : Value) (T : TypeId) : ∀ j u, [x][j]? = some u -> (w.alloc (.cells #[x] T)).cell? ((⟨w.heap.size, 0, none⟩ : Addr).add j) = some u := by
 intro j u h
 match j, h with
 | 0, h =>
  obtain rfl : x = u := by simpa using h
  exact (Bk.cell (Bx.new w #[x] T) 0)
theorem own_nil1 (w : World) (base : Nat) (e : TypeId) : w.ownsRow base e 1 (.slice none 0 0) 0 (NiF.cells []) := ⟨rfl, .inl ⟨rfl, rfl⟩⟩
theorem used_impl (w : World) (v : Value) (n : InoV.I) (hl : n.blocks.length <= 1073741824) (h : In.Holds w v n) :
  Calls Tryz.prog 162 #[v] w fun e w' => ∃ v' S, e = .returned v' /\ NiF.Own w' w.heap.size v' (usedV n.blocks) S /\ Below w.heap.size w w' := by
 obtain ⟨i0, hi, hz0, hz1, hz2⟩ := info_parts Ni.intInfo
 have HF0 := Lib.hid hi
 have HF1 := Lib.hid hz0
 have HF2 := Lib.hid hz1
 have HF3 := Lib.hid hz2
 clear hi hz0 hz1 hz2
 obtain ⟨r0, r1, r2, rfl, g0, g1, g2⟩ := h
 obtain ⟨a, c, rfl, _, hcell⟩ := g0
 have HC := Lib.hid hcell
 clear hcell g1 g2
 obtain ⟨L, hL⟩ : ∃ L, L = n.blocks.length := ⟨_, rfl⟩
 have HU := Lib.hid (fun k (h : k < n.blocks.length) => used_snoc h)
 have HUL := Lib.hid (fun k => used_len (n.blocks.take k))
 have HB0 := Lib.hid ((Below.refl w.heap.size w).alloc (Nat.le_refl _) (.cells #[.int .i64 n.kind, .int .i64 n.mode, .int .i64 n.uid, .int .i64 n.gid, .int .i64 n.links, .int .i64 n.size, .int .i64 n.tick, .slice a L c, r1, r2] 89))
 rw [<- hL] at hl ⊢
 have HL := Lib.hid hL
 clear hL
 go_enter Tryz.func162, Tryz.ntmps162
 go_wp2
 go_loopw [3, 9] (fun sv iv wr => ∃ k : Nat, k <= L /\ iv = .int .i64 k /\ wr.ownsRow w.heap.size 3 1 sv (usedV (n.blocks.take k)).length (NiF.cells (usedV (n.blocks.take k))) /\ Below w.heap.size w wr) (fun _ iv _ => L - (intOf iv).toNat)
 case atStart => exact ⟨0, Nat.zero_le _, rfl, own_nil1 _ _ _, HB0.out⟩
 case round =>
  obtain ⟨k, hk, rfl, hown, hbel⟩ := hrel
  have HBEL := Lib.hid hbel
  have HOWN := Lib.hid hown
  have hsz := hbel.size
  clear hbel hown
  by_cases hlt : k < L
  ·obtain ⟨b, o, rfl, hb, g0⟩ := HC.out k (by rw [<- HL.out]; exact hlt)
   rw [<- HBEL.out.cell (p := ⟨b, _, none⟩) hb] at g0
   have hu := HU.out k (by rw [<- HL.out]; exact hlt)
   have hul := HUL.out k
   rw [List.length_take] at hul
   generalize n.blocks.getD k 0 = x at g0 hu
   by_cases hx : x = -1
   ·subst hx
    rw [if_pos rfl, List.append_nil] at hu
    have HN := Lib.hid hu
    clear hu
    go_wp2
    go_roundw
    case rel => exact ⟨k + 1, by omega, by go_num, by rw [HN.out]; exact HOWN.out, HBEL.out⟩
    case measure => simp [intOf]; omega
   ·rw [if_neg hx] at hu
    have hq : (x == -1) = false := by simpa using hx
    have hq2 : (x != -1) = true := by simpa using hx
    generalize usedV (n.blocks.take k) = us at HOWN hu hul
    have HN := Lib.hid hu
    clear hu
    obtain ⟨M, hM⟩ : ∃ M, M = us.length := ⟨_, rfl⟩
    have HM := Lib.hid hM
    have HO2 := Lib.hid (show wr.ownsRow w.heap.size 3 1 _ M (NiF.cells us) from by rw [hM]; exact HOWN.out)
    rw [<- hM] at hul
    clear hM HOWN
    go_wp2_with (first | (at_builtin; refine wpList_append_own _ rfl _ _ 49 rfl w.heap.size 3 i0 (.int .i64 0) 1 8 Tryz.underlying49 HF0.out HF1.out HF2.out HF3.out rfl (by decide) _ _ _ rfl (HO2.out.alloc _) ⟨wr.heap.size, 0, none⟩ 1 1 [.int .i64 x] rfl rfl ?c1 ?c2 ?c3 ?c4 ?c5 ?_))
    case c1 => exact cells1_new _ _ _
    case c2 => simp [Value.oneCell']
    case c3 => unfold maxLen; omega
    case c4 => omega
    case c5 => simp; omega
    intro v' w1 hown1 hg1 _
    have HO1 := Lib.hid (show w1.ownsRow w.heap.size 3 1 v' (us ++ [x]).length (NiF.cells (us ++ [x])) from by
     have h := hown1
     rw [List.length_append, NiF.cells, List.map_append, <- HM.out]; exact h)
    have HB1 := Lib.hid ((HBEL.out.alloc hsz (.cells #[.int .i64 x] 3)).grown hg1 (by simp; omega) (fun k hk => (HO2.out.lt k hk).1))
    clear hown1 hg1
    go_wp2
    go_roundw
    case rel => exact ⟨k + 1, by omega, by go_num, by rw [HN.out]; exact HO1.out, HB1.out⟩
    case measure => simp [intOf]; omega
  ·obtain rfl : k = L := by omega
   have HT := Lib.hid (show n.blocks.take k = n.blocks from by rw [HL.out, List.take_length])
   go_wp2
   go_ret
   refine ⟨_, _, rfl, NiF.own_of ?_, HBEL.out⟩
   have h := HOWN.out
   rw [HT.out] at h
   exact h
end Go.Proofs.YthppbcnejapbiaaGreatDoor.InEq

-- YthppbcnejapbiaaGreatDoorArrEq
/- A part. -/
namespace Go.Proofs.YthppbcnejapbiaaGreatDoor.ArrEq
open Go.ChangeShapes Go.WideShapes Go.ChangeAt Go.RowKit
set_option linter.unusedVariables false
theorem all_range_eq : ∀ (xs ys : List Int), xs.length = ys.length -> ((List.range xs.length).all fun i => xs.getD i 0 == ys.getD i 0) = (xs == ys)
 | [], [], _ => rfl
 | x :: xs, y :: ys, h => by
  have ih := all_range_eq xs ys (by simpa using h)
  rw [List.length_cons, List.range_succ_eq_map, List.all_cons, List.all_map]
  simp only [List.getD_cons_zero, Function.comp_def, List.getD_cons_succ, ih]
  simp [List.cons_beq_cons]
 | [], _ :: _, h => by simp at h
 | _ :: _, [], h => by simp at h
section
variable {P : Program} (w : World)
theorem run_equalIn_ints (d : Nat) (t e : TypeId) (n : Nat) (ht : P.underlying t = some (.array n e)) (he : P.underlying e = some (.int .i64)) (hsz : ∀ w, (sizeOf e).run P w = .ok 1 w)
  (xs ys : List Int) (hx : xs.length = n) (hy : ys.length = n) :
  (Op.equalIn (d + 2) t (.agg (xs.map (Value.int .i64)).toArray) (.agg (ys.map (Value.int .i64)).toArray)).run P w = .ok (xs == ys) w := by
 rw [<- all_range_eq xs ys (hx.trans hy.symm), hx, List.range_eq_range', Op.equalIn]
 simp only [Sem.run_bind, run_underlying ht, Result.andThen_ok, hsz, Std.Legacy.Range.forIn_eq_forIn_range', Std.Legacy.Range.size, Nat.sub_zero, Nat.add_sub_cancel, Nat.div_one]
 have hl : ∀ i ∈ List.range' 0 n 1, i < n := fun i hi => by simpa using (List.mem_range'_1.1 hi).2
 generalize List.range' 0 n 1 = l at hl ⊢
 induction l with
 | nil => simp
 | cons i l ih =>
  have hi : i < n := hl i (by simp)
  have px : (part e (xs.map (Value.int .i64)).toArray (i * 1)).run P w = .ok (.int .i64 (xs.getD i 0)) w := by
   simp [part, isAgg, run_underlying he, List.getD, List.getElem?_eq_getElem (show i < xs.length by omega)]
  have py : (part e (ys.map (Value.int .i64)).toArray (i * 1)).run P w = .ok (.int .i64 (ys.getD i 0)) w := by
   simp [part, isAgg, run_underlying he, List.getD, List.getElem?_eq_getElem (show i < ys.length by omega)]
  have pe : (Op.equalIn (d + 1) e (.int .i64 (xs.getD i 0)) (.int .i64 (ys.getD i 0))).run P w = .ok (xs.getD i 0 == ys.getD i 0) w := by
   rw [run_equalIn_int w d e .i64 .i64 _ _ he]
  simp only [List.forIn_cons, Sem.run_bind, px, py, pe, Result.andThen_ok, List.all_cons]
  cases hb : (xs.getD i 0 == ys.getD i 0)
  ·simp
  ·simp only [Bool.not_true, Bool.false_eq_true, if_false, Sem.run_pure, Result.andThen_ok, Bool.true_and]
   exact ih fun j hj => hl j (by simp [hj])
theorem run_eql_ints (t e : TypeId) (n : Nat) (ht : P.underlying t = some (.array n e)) (he : P.underlying e = some (.int .i64)) (hsz : ∀ w, (sizeOf e).run P w = .ok 1 w)
  (xs ys : List Int) (hx : xs.length = n) (hy : ys.length = n) :
  (binOp .eql t (.agg (xs.map (Value.int .i64)).toArray) (.agg (ys.map (Value.int .i64)).toArray)).run P w = .ok (.bool (decide (xs = ys))) w := by
 rw [run_eql_struct, run_equalIn_ints w 9998 t e n ht he hsz xs ys hx hy]
 by_cases h : xs = ys
 ·subst h; simp
 ·have : (xs == ys) = false := by simpa using h
  rw [this, decide_eq_false h]; rfl
theorem run_neq_ints (t e : TypeId) (n : Nat) (ht : P.underlying t = some (.array n e)) (he : P.underlying e = some (.int .i64)) (hsz : ∀ w, (sizeOf e).run P w = .ok 1 w)
  (xs ys : List Int) (hx : xs.length = n) (hy : ys.length = n) :
  (binOp .neq t (.agg (xs.map (Value.int .i64)).toArray) (.agg (ys.map (Value.int .i64)).toArray)).run P w = .ok (.bool (!decide (xs = ys))) w := by
 rw [run_neq_struct, run_equalIn_ints w 9998 t e n ht he hsz xs ys hx hy]
 by_cases h : xs = ys
 ·subst h; simp
 ·have : (xs == ys) = false := by simpa using h
  rw [this, decide_eq_false h]; rfl
end
end Go.Proofs.YthppbcnejapbiaaGreatDoor.ArrEq

-- YthppbcnejapbiaaGreatDoorInSm
/- A part. -/
namespace Go.Proofs.YthppbcnejapbiaaGreatDoor.InSm
set_option maxHeartbeats 3200000
set_option maxRecDepth 100000
open Go.ChangeShapes Go.WideShapes Go.ChangeAt Go.RowKit
open Foot Bx
open InoV (I sameB)
open Dk (ret_bool)
open InEq (ext_getD)
set_option linter.unusedVariables false
def nums (n : I) : List Int := [n.kind, n.mode, n.uid, n.gid, n.links, n.size, n.tick]
theorem same_eq (n m : I) : sameB n m = (decide (nums n = nums m) && decide (n.blocks = m.blocks) && decide (n.acl = m.acl) && decide (n.dflt = m.dflt)) := by
 rw [Bool.eq_iff_iff]
 simp only [sameB, nums, Bool.and_eq_true, decide_eq_true_eq, List.cons.injEq, and_assoc, and_true]
def fbV (l : List Int) (j : Nat) : Int := if j < l.length then IntKind.i64.wrap (l.getD j 0 + 1) else 0
def fbL (l : List Int) : List Int := (List.range 8).map (fbV l)
theorem fbL_length (l : List Int) : (fbL l).length = 8 := by simp [fbL]
def fbR (l : List Int) (i : Nat) : List Value := (List.range 8).map fun j => Value.int .i64 (if j < i then fbV l j else 0)
theorem fbR_length (l : List Int) (i : Nat) : (fbR l i).length = 8 := by simp [fbR]
theorem fbR_at (l : List Int) (i j : Nat) (h : j < 8) : (fbR l i)[j]? = some (.int .i64 (if j < i then fbV l j else 0)) := by
 simp [fbR, List.getElem?_map, List.getElem?_range h]
theorem fbR_set (l : List Int) (i : Nat) (h : i < 8) : (fbR l i).set i (.int .i64 (fbV l i)) = fbR l (i + 1) := by
 refine List.ext_getElem? fun j => ?_
 by_cases hj : j < 8
 ·rw [List.getElem?_set, fbR_at l (i + 1) j hj, fbR_length]
  by_cases hij : i = j
  ·subst hij
   simp [h]
  ·rw [if_neg hij, fbR_at l i j hj]
   by_cases h1 : j < i
   ·rw [if_pos h1, if_pos (by omega)]
   ·rw [if_neg h1, if_neg (by omega)]
 ·rw [List.getElem?_eq_none (by rw [List.length_set, fbR_length]; omega), List.getElem?_eq_none (by rw [fbR_length]; omega)]
theorem fbR_end (l : List Int) (i j : Nat) (hi : i = min l.length 8) (h : j < 8) : (fbR l i)[j]? = some (.int .i64 (fbV l j)) := by
 rw [fbR_at l i j h]
 by_cases hj : j < i
 ·rw [if_pos hj]
 ·rw [if_neg hj]
  unfold fbV
  rw [if_neg (by omega)]
theorem wrap_inj {x y : Int} (hx : Rg x) (hy : Rg y) (h : IntKind.i64.wrap (x + 1) = IntKind.i64.wrap (y + 1)) : x = y := by
 rw [IntKind.wrap_i64, IntKind.wrap_i64] at h
 unfold Rg at hx hy
 omega
theorem mem_getD {l : List Int} {i : Nat} (h : i < l.length) : l.getD i 0 ∈ l := by
 rw [List.getD_eq_getElem?_getD, List.getElem?_eq_getElem h]
 exact List.getElem_mem h
theorem fb_eq {xs ys : List Int} (hl : xs.length = ys.length) (hx : ∀ x ∈ xs, Rg x) (hy : ∀ x ∈ ys, Rg x) (h : fbL xs = fbL ys) : ∀ j, j < 8 -> xs.getD j 0 = ys.getD j 0 := by
 intro j hj
 by_cases hjx : j < xs.length
 ·have := congrArg (fun l => l[j]?) h
  simp only [fbL, List.getElem?_map, List.getElem?_range hj, Option.map_some, Option.some.injEq] at this
  unfold fbV at this
  rw [if_pos hjx, if_pos (by omega)] at this
  exact wrap_inj (hx _ (mem_getD hjx)) (hy _ (mem_getD (by omega))) this
 ·rw [List.getD_eq_getElem?_getD, List.getD_eq_getElem?_getD, List.getElem?_eq_none (by omega), List.getElem?_eq_none (by omega)]
def arr (l : List Int) : Value := .agg (l.map (Value.int .i64)).toArray
theorem numbers_any (w : World) (n : I) (r0 r1 r2 : Value) :
  Calls Tryz.prog 230 #[.agg #[.int .i64 n.kind, .int .i64 n.mode, .int .i64 n.uid, .int .i64 n.gid, .int .i64 n.links, .int .i64 n.size, .int .i64 n.tick, r0, r1, r2]] w fun e w' => e = .returned (.agg #[.int .i64 n.kind, .int .i64 n.mode, .int .i64 n.uid, .int .i64 n.gid, .int .i64 n.links, .int .i64 n.size, .int .i64 n.tick]) /\ Below w.heap.size w w' := by
 obtain ⟨x0, x1, x2, x3, x4, x5, x6, x7, x8, x9⟩ := n
 dsimp only
 go_enter Tryz.func230, Tryz.ntmps230
 go_wp2
 refine bodyPost_ret (v := .agg #[.int .i64 x0, .int .i64 x1, .int .i64 x2, .int .i64 x3, .int .i64 x4, .int .i64 x5, .int .i64 x6]) (by simp [results, Tryz.results230, go_sem]) rfl ⟨rfl, ?_⟩
 exact ((Below.refl w.heap.size w).alloc (Nat.le_refl _) _).alloc (by simp) _
theorem first_any (w : World) (v : Value) (l : List Int) (hlen : l.length <= 1073741824) (h : NiF.Holds w v l) :
  Calls Tryz.prog 250 #[v] w fun e w' => e = .returned (arr (fbL l)) /\ Below w.heap.size w w' := by
 obtain ⟨a, c, rfl, hle, hcell⟩ := h
 have HC := Lib.hid hcell
 clear hcell
 have HV := Lib.hid (fun j (h : j < l.length) => show fbV l j = IntKind.i64.wrap (l.getD j 0 + 1) from if_pos h)
 have HSET := Lib.hid (fbR_set l)
 have HAT := Lib.hid (fbR_at l)
 have HEND := Lib.hid (fbR_end l)
 obtain ⟨L, hL⟩ : ∃ L, L = l.length := ⟨_, rfl⟩
 rw [<- hL] at hlen hle ⊢
 have HL := Lib.hid hL
 clear hL
 have HB := Lib.hid (((Below.refl w.heap.size w).alloc (Nat.le_refl _) (.cells #[.int .i64 0, .int .i64 0, .int .i64 0, .int .i64 0, .int .i64 0, .int .i64 0, .int .i64 0, .int .i64 0] 235)).alloc (by simp) (.cells #[.int .i64 0, .int .i64 0, .int .i64 0, .int .i64 0, .int .i64 0, .int .i64 0, .int .i64 0, .int .i64 0] 235))
 have HR := Lib.hid ((new w #[.int .i64 0, .int .i64 0, .int .i64 0, .int .i64 0, .int .i64 0, .int .i64 0, .int .i64 0, .int .i64 0] 235).alloc (.cells #[.int .i64 0, .int .i64 0, .int .i64 0, .int .i64 0, .int .i64 0, .int .i64 0, .int .i64 0, .int .i64 0] 235))
 have HQ := Lib.hid (show Bk ((w.alloc (.cells #[.int .i64 0, .int .i64 0, .int .i64 0, .int .i64 0, .int .i64 0, .int .i64 0, .int .i64 0, .int .i64 0] 235)).alloc (.cells #[.int .i64 0, .int .i64 0, .int .i64 0, .int .i64 0, .int .i64 0, .int .i64 0, .int .i64 0, .int .i64 0] 235)) (w.heap.size + 1) (fbR l 0).toArray 235 from new_at (w.alloc (.cells #[.int .i64 0, .int .i64 0, .int .i64 0, .int .i64 0, .int .i64 0, .int .i64 0, .int .i64 0, .int .i64 0] 235)) #[.int .i64 0, .int .i64 0, .int .i64 0, .int .i64 0, .int .i64 0, .int .i64 0, .int .i64 0, .int .i64 0] 235 (w.heap.size + 1) (by simp))
 rw [show arr (fbL l) = .agg #[.int .i64 (fbV l 0), .int .i64 (fbV l 1), .int .i64 (fbV l 2), .int .i64 (fbV l 3), .int .i64 (fbV l 4), .int .i64 (fbV l 5), .int .i64 (fbV l 6), .int .i64 (fbV l 7)] from rfl]
 obtain ⟨f0, hf0⟩ : ∃ f, f = fbV l 0 := ⟨_, rfl⟩
 rw [<- hf0]
 have HF0 := Lib.hid hf0
 clear hf0
 obtain ⟨f1, hf1⟩ : ∃ f, f = fbV l 1 := ⟨_, rfl⟩
 rw [<- hf1]
 have HF1 := Lib.hid hf1
 clear hf1
 obtain ⟨f2, hf2⟩ : ∃ f, f = fbV l 2 := ⟨_, rfl⟩
 rw [<- hf2]
 have HF2 := Lib.hid hf2
 clear hf2
 obtain ⟨f3, hf3⟩ : ∃ f, f = fbV l 3 := ⟨_, rfl⟩
 rw [<- hf3]
 have HF3 := Lib.hid hf3
 clear hf3
 obtain ⟨f4, hf4⟩ : ∃ f, f = fbV l 4 := ⟨_, rfl⟩
 rw [<- hf4]
 have HF4 := Lib.hid hf4
 clear hf4
 obtain ⟨f5, hf5⟩ : ∃ f, f = fbV l 5 := ⟨_, rfl⟩
 rw [<- hf5]
 have HF5 := Lib.hid hf5
 clear hf5
 obtain ⟨f6, hf6⟩ : ∃ f, f = fbV l 6 := ⟨_, rfl⟩
 rw [<- hf6]
 have HF6 := Lib.hid hf6
 clear hf6
 obtain ⟨f7, hf7⟩ : ∃ f, f = fbV l 7 := ⟨_, rfl⟩
 rw [<- hf7]
 have HF7 := Lib.hid hf7
 clear hf7
 by_cases hL8 : L <= 8
 ·have hle8 : (L : Int) <= 8 := by omega
  have HM := Lib.hid (show L = min L 8 by omega)
  clear hL8
  go_enter Tryz.func250, Tryz.ntmps250
  go_wp2
  go_loopw [12] (fun iv wr => ∃ i : Nat, i <= L /\ iv = .int .i64 i /\ Bk wr w.heap.size #[.int .i64 0, .int .i64 0, .int .i64 0, .int .i64 0, .int .i64 0, .int .i64 0, .int .i64 0, .int .i64 0] 235 /\ Bk wr (w.heap.size + 1) (fbR l i).toArray 235 /\ Below w.heap.size w wr) (fun iv _ => L - (intOf iv).toNat)
  case atStart => exact ⟨0, Nat.zero_le _, rfl, HR.out, HQ.out, HB.out⟩
  case round =>
   obtain ⟨i, hi, rfl, hr, hq, hbel⟩ := hrel
   replace HB := Lib.hid hbel
   replace HR := Lib.hid hr
   replace HQ := Lib.hid hq
   clear hr hq hbel
   by_cases hlt : i < L
   ·obtain ⟨b, off, rfl, hb, g0⟩ := HC.out i (by rw [<- HL.out]; have := HM.out; omega)
    rw [<- HB.out.cell (p := ⟨b, _, none⟩) hb] at g0
    have hv := HV.out i (by rw [<- HL.out]; have := HM.out; omega)
    have h8 : (i : Int) < 8 := by have := HM.out; omega
    have hiL : (i : Int) < L := by have := HM.out; omega
    have hq1 := HQ.out.cell i
    rw [List.getElem?_toArray, HAT.out i i (by omega), if_neg (Nat.lt_irrefl i)] at hq1
    have hf1 := HQ.out.free i
    have hn := HQ.out.put i (.int .i64 (fbV l i))
    rw [HSET.out i (by omega)] at hn
    have hrn := HR.out.far (p := ⟨w.heap.size + 1, i, none⟩) (by simp) (.int .i64 (fbV l i))
    have hbn := HB.out.setCell (p := ⟨w.heap.size + 1, i, none⟩) (by simp) (.int .i64 (fbV l i))
    have HN := Lib.hid hn
    have HRN := Lib.hid hrn
    have HBN := Lib.hid hbn
    clear hn hrn hbn
    generalize fbV l i = y at hv HN HRN HBN
    generalize l.getD i 0 = x at g0 hv
    replace hv := hv.symm
    go_wp2
    go_roundw
    case rel => exact ⟨i + 1, by omega, by go_num, HRN.out, HN.out, HBN.out⟩
    case measure => simp [intOf]; omega
   ·obtain rfl : i = L := by omega
    have q0 := HQ.out.cell 0
    rw [List.getElem?_toArray, HEND.out i 0 (by rw [<- HL.out]; exact HM.out) (by decide), <- HF0.out] at q0
    have q1 := HQ.out.cell 1
    rw [List.getElem?_toArray, HEND.out i 1 (by rw [<- HL.out]; exact HM.out) (by decide), <- HF1.out] at q1
    have q2 := HQ.out.cell 2
    rw [List.getElem?_toArray, HEND.out i 2 (by rw [<- HL.out]; exact HM.out) (by decide), <- HF2.out] at q2
    have q3 := HQ.out.cell 3
    rw [List.getElem?_toArray, HEND.out i 3 (by rw [<- HL.out]; exact HM.out) (by decide), <- HF3.out] at q3
    have q4 := HQ.out.cell 4
    rw [List.getElem?_toArray, HEND.out i 4 (by rw [<- HL.out]; exact HM.out) (by decide), <- HF4.out] at q4
    have q5 := HQ.out.cell 5
    rw [List.getElem?_toArray, HEND.out i 5 (by rw [<- HL.out]; exact HM.out) (by decide), <- HF5.out] at q5
    have q6 := HQ.out.cell 6
    rw [List.getElem?_toArray, HEND.out i 6 (by rw [<- HL.out]; exact HM.out) (by decide), <- HF6.out] at q6
    have q7 := HQ.out.cell 7
    rw [List.getElem?_toArray, HEND.out i 7 (by rw [<- HL.out]; exact HM.out) (by decide), <- HF7.out] at q7
    have z0 : wr.cell? ⟨w.heap.size, 0, none⟩ = some (.int .i64 0) := HR.out.cell 0
    have e0 := HR.out.free 0
    have z1 : wr.cell? ⟨w.heap.size, 1, none⟩ = some (.int .i64 0) := HR.out.cell 1
    have e1 := HR.out.free 1
    have z2 : wr.cell? ⟨w.heap.size, 2, none⟩ = some (.int .i64 0) := HR.out.cell 2
    have e2 := HR.out.free 2
    have z3 : wr.cell? ⟨w.heap.size, 3, none⟩ = some (.int .i64 0) := HR.out.cell 3
    have e3 := HR.out.free 3
    have z4 : wr.cell? ⟨w.heap.size, 4, none⟩ = some (.int .i64 0) := HR.out.cell 4
    have e4 := HR.out.free 4
    have z5 : wr.cell? ⟨w.heap.size, 5, none⟩ = some (.int .i64 0) := HR.out.cell 5
    have e5 := HR.out.free 5
    have z6 : wr.cell? ⟨w.heap.size, 6, none⟩ = some (.int .i64 0) := HR.out.cell 6
    have e6 := HR.out.free 6
    have z7 : wr.cell? ⟨w.heap.size, 7, none⟩ = some (.int .i64 0) := HR.out.cell 7
    have e7 := HR.out.free 7
    go_wp2_with fail
    have hF0 := HR.out
    have hF1 : Bk _ _ #[.int .i64 f0, .int .i64 0, .int .i64 0, .int .i64 0, .int .i64 0, .int .i64 0, .int .i64 0, .int .i64 0] _ := hF0.put 0 (.int .i64 f0)
    clear hF0
    have hF2 : Bk _ _ #[.int .i64 f0, .int .i64 f1, .int .i64 0, .int .i64 0, .int .i64 0, .int .i64 0, .int .i64 0, .int .i64 0] _ := hF1.put 1 (.int .i64 f1)
    clear hF1
    have hF3 : Bk _ _ #[.int .i64 f0, .int .i64 f1, .int .i64 f2, .int .i64 0, .int .i64 0, .int .i64 0, .int .i64 0, .int .i64 0] _ := hF2.put 2 (.int .i64 f2)
    clear hF2
    have hF4 : Bk _ _ #[.int .i64 f0, .int .i64 f1, .int .i64 f2, .int .i64 f3, .int .i64 0, .int .i64 0, .int .i64 0, .int .i64 0] _ := hF3.put 3 (.int .i64 f3)
    clear hF3
    have hF5 : Bk _ _ #[.int .i64 f0, .int .i64 f1, .int .i64 f2, .int .i64 f3, .int .i64 f4, .int .i64 0, .int .i64 0, .int .i64 0] _ := hF4.put 4 (.int .i64 f4)
    clear hF4
    have hF6 : Bk _ _ #[.int .i64 f0, .int .i64 f1, .int .i64 f2, .int .i64 f3, .int .i64 f4, .int .i64 f5, .int .i64 0, .int .i64 0] _ := hF5.put 5 (.int .i64 f5)
    clear hF5
    have hF7 : Bk _ _ #[.int .i64 f0, .int .i64 f1, .int .i64 f2, .int .i64 f3, .int .i64 f4, .int .i64 f5, .int .i64 f6, .int .i64 0] _ := hF6.put 6 (.int .i64 f6)
    clear hF6
    have hF8 : Bk _ _ #[.int .i64 f0, .int .i64 f1, .int .i64 f2, .int .i64 f3, .int .i64 f4, .int .i64 f5, .int .i64 f6, .int .i64 f7] _ := hF7.put 7 (.int .i64 f7)
    clear hF7
    have hB9 := ((((((((HB.out.setCell (p := ⟨w.heap.size, 0, none⟩) (Nat.le_refl _) (.int .i64 f0)).setCell (p := ⟨w.heap.size, 1, none⟩) (Nat.le_refl _) (.int .i64 f1)).setCell (p := ⟨w.heap.size, 2, none⟩) (Nat.le_refl _) (.int .i64 f2)).setCell (p := ⟨w.heap.size, 3, none⟩) (Nat.le_refl _) (.int .i64 f3)).setCell (p := ⟨w.heap.size, 4, none⟩) (Nat.le_refl _) (.int .i64 f4)).setCell (p := ⟨w.heap.size, 5, none⟩) (Nat.le_refl _) (.int .i64 f5)).setCell (p := ⟨w.heap.size, 6, none⟩) (Nat.le_refl _) (.int .i64 f6)).setCell (p := ⟨w.heap.size, 7, none⟩) (Nat.le_refl _) (.int .i64 f7))
    generalize ((((((((wr.setCell ⟨w.heap.size, 0, none⟩ (.int .i64 f0)).setCell ⟨w.heap.size, 1, none⟩ (.int .i64 f1)).setCell ⟨w.heap.size, 2, none⟩ (.int .i64 f2)).setCell ⟨w.heap.size, 3, none⟩ (.int .i64 f3)).setCell ⟨w.heap.size, 4, none⟩ (.int .i64 f4)).setCell ⟨w.heap.size, 5, none⟩ (.int .i64 f5)).setCell ⟨w.heap.size, 6, none⟩ (.int .i64 f6)).setCell ⟨w.heap.size, 7, none⟩ (.int .i64 f7)) = w9 at hF8 hB9 ⊢
    have fc0 : w9.cell? ⟨w.heap.size, 0, none⟩ = some (.int .i64 f0) := hF8.cell 0
    have fc1 : w9.cell? ⟨w.heap.size, 1, none⟩ = some (.int .i64 f1) := hF8.cell 1
    have fc2 : w9.cell? ⟨w.heap.size, 2, none⟩ = some (.int .i64 f2) := hF8.cell 2
    have fc3 : w9.cell? ⟨w.heap.size, 3, none⟩ = some (.int .i64 f3) := hF8.cell 3
    have fc4 : w9.cell? ⟨w.heap.size, 4, none⟩ = some (.int .i64 f4) := hF8.cell 4
    have fc5 : w9.cell? ⟨w.heap.size, 5, none⟩ = some (.int .i64 f5) := hF8.cell 5
    have fc6 : w9.cell? ⟨w.heap.size, 6, none⟩ = some (.int .i64 f6) := hF8.cell 6
    have fc7 : w9.cell? ⟨w.heap.size, 7, none⟩ = some (.int .i64 f7) := hF8.cell 7
    exact bodyPost_ret (v := .agg #[.int .i64 f0, .int .i64 f1, .int .i64 f2, .int .i64 f3, .int .i64 f4, .int .i64 f5, .int .i64 f6, .int .i64 f7]) (by simp [results, Tryz.results250, go_sem, fc0, fc1, fc2, fc3, fc4, fc5, fc6, fc7]) rfl ⟨rfl, hB9⟩
 ·have hle8 : ¬ (L : Int) <= 8 := by omega
  have hle9 : (8 : Int) <= c := by omega
  have hle7 : (8 : Int) <= L := by omega
  have HM := Lib.hid (show 8 = min L 8 by omega)
  clear hL8
  go_enter Tryz.func250, Tryz.ntmps250
  go_wp2
  go_loopw [12] (fun iv wr => ∃ i : Nat, i <= 8 /\ iv = .int .i64 i /\ Bk wr w.heap.size #[.int .i64 0, .int .i64 0, .int .i64 0, .int .i64 0, .int .i64 0, .int .i64 0, .int .i64 0, .int .i64 0] 235 /\ Bk wr (w.heap.size + 1) (fbR l i).toArray 235 /\ Below w.heap.size w wr) (fun iv _ => 8 - (intOf iv).toNat)
  case atStart => exact ⟨0, Nat.zero_le _, rfl, HR.out, HQ.out, HB.out⟩
  case round =>
   obtain ⟨i, hi, rfl, hr, hq, hbel⟩ := hrel
   replace HB := Lib.hid hbel
   replace HR := Lib.hid hr
   replace HQ := Lib.hid hq
   clear hr hq hbel
   by_cases hlt : i < 8
   ·obtain ⟨b, off, rfl, hb, g0⟩ := HC.out i (by rw [<- HL.out]; have := HM.out; omega)
    rw [<- HB.out.cell (p := ⟨b, _, none⟩) hb] at g0
    have hv := HV.out i (by rw [<- HL.out]; have := HM.out; omega)
    have h8 : (i : Int) < 8 := by have := HM.out; omega
    have hiL : (i : Int) < L := by have := HM.out; omega
    have hq1 := HQ.out.cell i
    rw [List.getElem?_toArray, HAT.out i i (by omega), if_neg (Nat.lt_irrefl i)] at hq1
    have hf1 := HQ.out.free i
    have hn := HQ.out.put i (.int .i64 (fbV l i))
    rw [HSET.out i (by omega)] at hn
    have hrn := HR.out.far (p := ⟨w.heap.size + 1, i, none⟩) (by simp) (.int .i64 (fbV l i))
    have hbn := HB.out.setCell (p := ⟨w.heap.size + 1, i, none⟩) (by simp) (.int .i64 (fbV l i))
    have HN := Lib.hid hn
    have HRN := Lib.hid hrn
    have HBN := Lib.hid hbn
    clear hn hrn hbn
    generalize fbV l i = y at hv HN HRN HBN
    generalize l.getD i 0 = x at g0 hv
    replace hv := hv.symm
    go_wp2
    go_roundw
    case rel => exact ⟨i + 1, by omega, by go_num, HRN.out, HN.out, HBN.out⟩
    case measure => simp [intOf]; omega
   ·obtain rfl : i = 8 := by omega
    have q0 := HQ.out.cell 0
    rw [List.getElem?_toArray, HEND.out 8 0 (by rw [<- HL.out]; exact HM.out) (by decide), <- HF0.out] at q0
    have q1 := HQ.out.cell 1
    rw [List.getElem?_toArray, HEND.out 8 1 (by rw [<- HL.out]; exact HM.out) (by decide), <- HF1.out] at q1
    have q2 := HQ.out.cell 2
    rw [List.getElem?_toArray, HEND.out 8 2 (by rw [<- HL.out]; exact HM.out) (by decide), <- HF2.out] at q2
    have q3 := HQ.out.cell 3
    rw [List.getElem?_toArray, HEND.out 8 3 (by rw [<- HL.out]; exact HM.out) (by decide), <- HF3.out] at q3
    have q4 := HQ.out.cell 4
    rw [List.getElem?_toArray, HEND.out 8 4 (by rw [<- HL.out]; exact HM.out) (by decide), <- HF4.out] at q4
    have q5 := HQ.out.cell 5
    rw [List.getElem?_toArray, HEND.out 8 5 (by rw [<- HL.out]; exact HM.out) (by decide), <- HF5.out] at q5
    have q6 := HQ.out.cell 6
    rw [List.getElem?_toArray, HEND.out 8 6 (by rw [<- HL.out]; exact HM.out) (by decide), <- HF6.out] at q6
    have q7 := HQ.out.cell 7
    rw [List.getElem?_toArray, HEND.out 8 7 (by rw [<- HL.out]; exact HM.out) (by decide), <- HF7.out] at q7
    have z0 : wr.cell? ⟨w.heap.size, 0, none⟩ = some (.int .i64 0) := HR.out.cell 0
    have e0 := HR.out.free 0
    have z1 : wr.cell? ⟨w.heap.size, 1, none⟩ = some (.int .i64 0) := HR.out.cell 1
    have e1 := HR.out.free 1
    have z2 : wr.cell? ⟨w.heap.size, 2, none⟩ = some (.int .i64 0) := HR.out.cell 2
    have e2 := HR.out.free 2
    have z3 : wr.cell? ⟨w.heap.size, 3, none⟩ = some (.int .i64 0) := HR.out.cell 3
    have e3 := HR.out.free 3
    have z4 : wr.cell? ⟨w.heap.size, 4, none⟩ = some (.int .i64 0) := HR.out.cell 4
    have e4 := HR.out.free 4
    have z5 : wr.cell? ⟨w.heap.size, 5, none⟩ = some (.int .i64 0) := HR.out.cell 5
    have e5 := HR.out.free 5
    have z6 : wr.cell? ⟨w.heap.size, 6, none⟩ = some (.int .i64 0) := HR.out.cell 6
    have e6 := HR.out.free 6
    have z7 : wr.cell? ⟨w.heap.size, 7, none⟩ = some (.int .i64 0) := HR.out.cell 7
    have e7 := HR.out.free 7
    go_wp2_with fail
    have hF0 := HR.out
    have hF1 : Bk _ _ #[.int .i64 f0, .int .i64 0, .int .i64 0, .int .i64 0, .int .i64 0, .int .i64 0, .int .i64 0, .int .i64 0] _ := hF0.put 0 (.int .i64 f0)
    clear hF0
    have hF2 : Bk _ _ #[.int .i64 f0, .int .i64 f1, .int .i64 0, .int .i64 0, .int .i64 0, .int .i64 0, .int .i64 0, .int .i64 0] _ := hF1.put 1 (.int .i64 f1)
    clear hF1
    have hF3 : Bk _ _ #[.int .i64 f0, .int .i64 f1, .int .i64 f2, .int .i64 0, .int .i64 0, .int .i64 0, .int .i64 0, .int .i64 0] _ := hF2.put 2 (.int .i64 f2)
    clear hF2
    have hF4 : Bk _ _ #[.int .i64 f0, .int .i64 f1, .int .i64 f2, .int .i64 f3, .int .i64 0, .int .i64 0, .int .i64 0, .int .i64 0] _ := hF3.put 3 (.int .i64 f3)
    clear hF3
    have hF5 : Bk _ _ #[.int .i64 f0, .int .i64 f1, .int .i64 f2, .int .i64 f3, .int .i64 f4, .int .i64 0, .int .i64 0, .int .i64 0] _ := hF4.put 4 (.int .i64 f4)
    clear hF4
    have hF6 : Bk _ _ #[.int .i64 f0, .int .i64 f1, .int .i64 f2, .int .i64 f3, .int .i64 f4, .int .i64 f5, .int .i64 0, .int .i64 0] _ := hF5.put 5 (.int .i64 f5)
    clear hF5
    have hF7 : Bk _ _ #[.int .i64 f0, .int .i64 f1, .int .i64 f2, .int .i64 f3, .int .i64 f4, .int .i64 f5, .int .i64 f6, .int .i64 0] _ := hF6.put 6 (.int .i64 f6)
    clear hF6
    have hF8 : Bk _ _ #[.int .i64 f0, .int .i64 f1, .int .i64 f2, .int .i64 f3, .int .i64 f4, .int .i64 f5, .int .i64 f6, .int .i64 f7] _ := hF7.put 7 (.int .i64 f7)
    clear hF7
    have hB9 := ((((((((HB.out.setCell (p := ⟨w.heap.size, 0, none⟩) (Nat.le_refl _) (.int .i64 f0)).setCell (p := ⟨w.heap.size, 1, none⟩) (Nat.le_refl _) (.int .i64 f1)).setCell (p := ⟨w.heap.size, 2, none⟩) (Nat.le_refl _) (.int .i64 f2)).setCell (p := ⟨w.heap.size, 3, none⟩) (Nat.le_refl _) (.int .i64 f3)).setCell (p := ⟨w.heap.size, 4, none⟩) (Nat.le_refl _) (.int .i64 f4)).setCell (p := ⟨w.heap.size, 5, none⟩) (Nat.le_refl _) (.int .i64 f5)).setCell (p := ⟨w.heap.size, 6, none⟩) (Nat.le_refl _) (.int .i64 f6)).setCell (p := ⟨w.heap.size, 7, none⟩) (Nat.le_refl _) (.int .i64 f7))
    generalize ((((((((wr.setCell ⟨w.heap.size, 0, none⟩ (.int .i64 f0)).setCell ⟨w.heap.size, 1, none⟩ (.int .i64 f1)).setCell ⟨w.heap.size, 2, none⟩ (.int .i64 f2)).setCell ⟨w.heap.size, 3, none⟩ (.int .i64 f3)).setCell ⟨w.heap.size, 4, none⟩ (.int .i64 f4)).setCell ⟨w.heap.size, 5, none⟩ (.int .i64 f5)).setCell ⟨w.heap.size, 6, none⟩ (.int .i64 f6)).setCell ⟨w.heap.size, 7, none⟩ (.int .i64 f7)) = w9 at hF8 hB9 ⊢
    have fc0 : w9.cell? ⟨w.heap.size, 0, none⟩ = some (.int .i64 f0) := hF8.cell 0
    have fc1 : w9.cell? ⟨w.heap.size, 1, none⟩ = some (.int .i64 f1) := hF8.cell 1
    have fc2 : w9.cell? ⟨w.heap.size, 2, none⟩ = some (.int .i64 f2) := hF8.cell 2
    have fc3 : w9.cell? ⟨w.heap.size, 3, none⟩ = some (.int .i64 f3) := hF8.cell 3
    have fc4 : w9.cell? ⟨w.heap.size, 4, none⟩ = some (.int .i64 f4) := hF8.cell 4
    have fc5 : w9.cell? ⟨w.heap.size, 5, none⟩ = some (.int .i64 f5) := hF8.cell 5
    have fc6 : w9.cell? ⟨w.heap.size, 6, none⟩ = some (.int .i64 f6) := hF8.cell 6
    have fc7 : w9.cell? ⟨w.heap.size, 7, none⟩ = some (.int .i64 f7) := hF8.cell 7
    exact bodyPost_ret (v := .agg #[.int .i64 f0, .int .i64 f1, .int .i64 f2, .int .i64 f3, .int .i64 f4, .int .i64 f5, .int .i64 f6, .int .i64 f7]) (by simp [results, Tryz.results250, go_sem, fc0, fc1, fc2, fc3, fc4, fc5, fc6, fc7]) rfl ⟨rfl, hB9⟩
theorem holds_drop {w : World} {a : Option Addr} {c k : Nat} {l : List Int} (h : NiF.Holds w (.slice a l.length c) l) (hk : k < l.length) : ∃ b o, a = some ⟨b, o, none⟩ /\ ¬ c = k /\ NiF.Holds w (.slice (some ⟨b, o + k, none⟩) (l.length - k) (c - k)) (l.drop k) := by
 obtain ⟨a', c', e, hle, hc⟩ := h
 rw [Value.slice.injEq] at e
 obtain ⟨rfl, _, rfl⟩ := e
 obtain ⟨b, o, rfl, hb, _⟩ := hc k hk
 refine ⟨b, o, rfl, by omega, some ⟨b, o + k, none⟩, c - k, by rw [List.length_drop], by rw [List.length_drop]; omega, fun i hi => ⟨b, o + k, rfl, hb, ?_⟩⟩
 rw [List.length_drop] at hi
 obtain ⟨b', o', e, _, hcell⟩ := hc (k + i) (by omega)
 obtain ⟨rfl, rfl⟩ : b = b' /\ o = o' := by simpa using e
 rw [Nat.add_assoc, hcell, List.getD_eq_getElem?_getD, List.getD_eq_getElem?_getD, List.getElem?_drop]
theorem neq_blocks (xs ys : List Int) (hx : xs.length = 8) (hy : ys.length = 8) (w : World) : Sem.run Tryz.prog (binOp .neq 235 (arr xs) (arr ys)) w = .ok (.bool (!decide (xs = ys))) w :=
 ArrEq.run_neq_ints w 235 3 8 Tryz.underlying235 Tryz.underlying3 (fun w => by simp [go_sem, Tryz.sizeOf3]) xs ys hx hy
theorem guard_blocks (o : BinOp) (x y : Operand) (xs ys : Array Value) (w : World) : Sem.run Tryz.prog (eqGuard o 235 x y (.agg xs) (.agg ys)) w = .ok () w := run_eqGuard_agg w o 235 x y xs ys (by kernel_rfl)
theorem blocks_any (w : World) (va vb : Value) (xs ys : List Int) (h1 : xs.length <= 1073741824) (h2 : ys.length <= 1073741824) (hx : ∀ x ∈ xs, Rg x) (hy : ∀ x ∈ ys, Rg x) (ha : NiF.Holds w va xs) (hb : NiF.Holds w vb ys) :
  Calls Tryz.prog 231 #[va, vb] w fun e w' => e = .returned (.bool (decide (xs = ys))) /\ Below w.heap.size w w' := by
 obtain ⟨a, c, rfl⟩ := NiF.form ha
 obtain ⟨a', c', rfl⟩ := NiF.form hb
 by_cases hl : xs.length = ys.length
 ·have HA := Lib.hid ha
  have HB := Lib.hid hb
  have HX := Lib.hid hx
  have HY := Lib.hid hy
  have HE := Lib.hid hl
  rw [<- hl]
  clear ha hb hx hy h2 hl
  obtain ⟨L, hL⟩ : ∃ L, L = xs.length := ⟨_, rfl⟩
  have HL := Lib.hid hL
  rw [<- hL] at h1 ⊢
  clear hL
  go_enter Tryz.func231, Tryz.ntmps231
  go_wp2
  go_loopw [5] (fun iv wr => ∃ i k : Nat, k = 8 * i /\ 8 * i <= L + 7 /\ iv = .int .i64 k /\ Below w.heap.size w wr /\ ∀ j, j < k -> xs.getD j 0 = ys.getD j 0) (fun iv _ => L + 8 - (intOf iv).toNat)
  case atStart => exact ⟨0, 0, rfl, by omega, rfl, Below.refl _ _, fun j hj => absurd hj (Nat.not_lt_zero _)⟩
  case round =>
   obtain ⟨i, k, hk, hki, rfl, hbel, heq⟩ := hrel
   have HBEL := Lib.hid hbel
   have HQ := Lib.hid heq
   have hsz := hbel.size
   have hk7 : k <= L + 7 := by omega
   have HK := Lib.hid hk
   clear hbel heq hk hki
   by_cases hlt : k < L
   ·obtain ⟨b1, o1, rfl, hc1, hd1⟩ := holds_drop (c := c) (k := k) HA.out (by rw [<- HL.out]; exact hlt)
    obtain ⟨b2, o2, rfl, hc2, hd2⟩ := holds_drop (c := c') (k := k) HB.out (by rw [<- HE.out, <- HL.out]; exact hlt)
    rw [<- HL.out] at hd1
    rw [<- HE.out, <- HL.out] at hd2
    have hf1 : ∀ n : Fam.Ix wr, Calls Tryz.prog 250 #[.slice (some ⟨b1, o1 + k, none⟩) (L - k) (c - k)] (Fam.wld wr n) fun e w' => e = .returned (arr (fbL (xs.drop k))) /\ Below (Fam.wld wr n).heap.size (Fam.wld wr n) w' := fun n => first_any _ _ (xs.drop k) (by rw [List.length_drop, <- HL.out]; omega) (NiF.holds_below hd1 ((HBEL.out.trans (Fam.wld_below wr n |>.mono hsz))))
    have hf2 : ∀ n : Fam.Ix wr, Calls Tryz.prog 250 #[.slice (some ⟨b2, o2 + k, none⟩) (L - k) (c' - k)] (Fam.wld wr n) fun e w' => e = .returned (arr (fbL (ys.drop k))) /\ Below (Fam.wld wr n).heap.size (Fam.wld wr n) w' := fun n => first_any _ _ (ys.drop k) (by rw [List.length_drop, <- HE.out, <- HL.out]; omega) (NiF.holds_below hd2 ((HBEL.out.trans (Fam.wld_below wr n |>.mono hsz))))
    have hnq := neq_blocks (fbL (xs.drop k)) (fbL (ys.drop k)) (fbL_length _) (fbL_length _)
    have hdl : (xs.drop k).length = (ys.drop k).length := by rw [List.length_drop, List.length_drop, HE.out]
    have hnext : fbL (xs.drop k) = fbL (ys.drop k) -> ∀ j, j < k + 8 -> xs.getD j 0 = ys.getD j 0 := fun e j hj => by
     by_cases hjk : j < k
     ·exact HQ.out j hjk
     ·have := fb_eq hdl (fun x hx => HX.out x (List.mem_of_mem_drop hx)) (fun x hx => HY.out x (List.mem_of_mem_drop hx)) e (j - k) (by omega)
      rw [List.getD_eq_getElem?_getD, List.getD_eq_getElem?_getD, List.getElem?_drop, List.getElem?_drop, show k + (j - k) = j from by omega] at this
      rw [List.getD_eq_getElem?_getD, List.getD_eq_getElem?_getD]; exact this
    have hne : fbL (xs.drop k) ≠ fbL (ys.drop k) -> xs ≠ ys := fun h e => h (by rw [e])
    have HNX := Lib.hid hnext
    have HNE := Lib.hid hne
    have HF1 := Lib.hid hf1
    have HF2 := Lib.hid hf2
    clear hnext hne hf1 hf2 hd1 hd2 hdl
    have hg := guard_blocks
    generalize fbL (xs.drop k) = A1 at HF1 HNX HNE hnq
    generalize fbL (ys.drop k) = A2 at HF2 HNX HNE hnq
    by_cases hq : A1 = A2
    ·have HN := Lib.hid (HNX.out hq)
     rw [decide_eq_true hq] at hnq
     clear hq
     unfold arr at hnq HF1 HF2
     generalize (A1.map (Value.int .i64)).toArray = B1 at hnq HF1
     generalize (A2.map (Value.int .i64)).toArray = B2 at hnq HF2
     replace hnq : ∀ w : World, Sem.run Tryz.prog (binOp .neq 235 (.agg B1) (.agg B2)) w = .ok (.bool false) w := hnq
     go_wp2
     refine Fam.region (by kernel_rfl) (by kernel_rfl) ?_
     repeat (go_big_quiet_step (first | (go_at_call 250; with_reducible refine Fam.calls (HF1.out _)) | (go_at_call 250; with_reducible refine Fam.calls (HF2.out _))))
     refine wpQuiet_nil ?_
     intro _ hw'
     obtain ⟨nq, hw''⟩ := hw'
     subst hw''
     have hbq := Fam.wld_below wr nq
     generalize Fam.wld wr nq = w9 at hbq ⊢
     have HB9 := Lib.hid (HBEL.out.trans (hbq.mono hsz))
     clear hbq
     go_wp2
     go_roundw
     case rel => exact ⟨i + 1, k + 8, by have := HK.out; omega, by have := HK.out; omega, by go_num, HB9.out, HN.out⟩
     case measure => simp [intOf]; omega
    ·have HN := Lib.hid (show decide (xs = ys) = false from decide_eq_false (HNE.out hq))
     rw [decide_eq_false hq] at hnq
     clear hq
     unfold arr at hnq HF1 HF2
     generalize (A1.map (Value.int .i64)).toArray = B1 at hnq HF1
     generalize (A2.map (Value.int .i64)).toArray = B2 at hnq HF2
     replace hnq : ∀ w : World, Sem.run Tryz.prog (binOp .neq 235 (.agg B1) (.agg B2)) w = .ok (.bool true) w := hnq
     go_wp2
     refine Fam.region (by kernel_rfl) (by kernel_rfl) ?_
     repeat (go_big_quiet_step (first | (go_at_call 250; with_reducible refine Fam.calls (HF1.out _)) | (go_at_call 250; with_reducible refine Fam.calls (HF2.out _))))
     refine wpQuiet_nil ?_
     intro _ hw'
     obtain ⟨nq, hw''⟩ := hw'
     subst hw''
     have hbq := Fam.wld_below wr nq
     generalize Fam.wld wr nq = w9 at hbq ⊢
     have HB9 := Lib.hid (HBEL.out.trans (hbq.mono hsz))
     clear hbq
     go_wp2
     go_ret
     exact ⟨ret_bool HN.out.symm, HB9.out⟩
   ·have HN := Lib.hid (show decide (xs = ys) = true from decide_eq_true (ext_getD HE.out (fun j hj => HQ.out j (by rw [<- HL.out] at hj; omega))))
    go_wp2
    go_ret
    exact ⟨ret_bool HN.out.symm, HBEL.out⟩
 ·have hd : decide (xs = ys) = false := decide_eq_false (fun h => hl (by rw [h]))
  rw [hd]
  clear ha hb hx hy
  generalize xs.length = L at *
  generalize ys.length = M at *
  go_enter Tryz.func231, Tryz.ntmps231
  go_wp2
  go_ret
  exact ⟨rfl, Below.refl _ _⟩
theorem eql_nums (n m : I) (w : World) : Sem.run Tryz.prog (binOp .eql 223 (.agg #[.int .i64 n.kind, .int .i64 n.mode, .int .i64 n.uid, .int .i64 n.gid, .int .i64 n.links, .int .i64 n.size, .int .i64 n.tick]) (.agg #[.int .i64 m.kind, .int .i64 m.mode, .int .i64 m.uid, .int .i64 m.gid, .int .i64 m.links, .int .i64 m.size, .int .i64 m.tick])) w = .ok (.bool (decide (nums n = nums m))) w :=
 ArrEq.run_eql_ints w 223 3 7 Tryz.underlying223 Tryz.underlying3 (fun w => by simp [go_sem, Tryz.sizeOf3]) (nums n) (nums m) rfl rfl
theorem guard_nums (o : BinOp) (x y : Operand) (xs ys : Array Value) (w : World) : Sem.run Tryz.prog (eqGuard o 223 x y (.agg xs) (.agg ys)) w = .ok () w := run_eqGuard_agg w o 223 x y xs ys (by kernel_rfl)
theorem same_impl (w : World) (va vb : Value) (n m : I) (hn : In.cost n <= 1073741824) (hm : In.cost m <= 1073741824) (hx : ∀ x ∈ n.blocks, Rg x) (hy : ∀ x ∈ m.blocks, Rg x) (h : In.Holds w va n) (h' : In.Holds w vb m) :
  Calls Tryz.prog 210 #[va, vb] w fun e w' => e = .returned (.bool (sameB n m)) /\ Below w.heap.size w w' := by
 have hn1 : n.blocks.length <= 1073741824 := Nat.le_trans (In.le_blocks n) hn
 have hn2 : n.acl.length <= 1073741824 := Nat.le_trans (In.le_acl n) hn
 have hn3 : n.dflt.length <= 1073741824 := Nat.le_trans (In.le_dflt n) hn
 have hm1 : m.blocks.length <= 1073741824 := Nat.le_trans (In.le_blocks m) hm
 have hm2 : m.acl.length <= 1073741824 := Nat.le_trans (In.le_acl m) hm
 have hm3 : m.dflt.length <= 1073741824 := Nat.le_trans (In.le_dflt m) hm
 have HX1 := Lib.hid hx
 have HY1 := Lib.hid hy
 clear hx hy hn hm
 obtain ⟨r0, r1, r2, rfl, g0, g1, g2⟩ := h
 obtain ⟨s0, s1, s2, rfl, k0, k1, k2⟩ := h'
 have H0 := Lib.hid g0
 have H1 := Lib.hid g1
 have H2 := Lib.hid g2
 have K0 := Lib.hid k0
 have K1 := Lib.hid k1
 have K2 := Lib.hid k2
 clear g0 g1 g2 k0 k1 k2
 have HS := Lib.hid (same_eq n m)
 have hql := eql_nums n m
 have hgd := guard_nums
 have HB := Lib.hid (((Below.refl w.heap.size w).alloc (Nat.le_refl _) (.cells #[.int .i64 n.kind, .int .i64 n.mode, .int .i64 n.uid, .int .i64 n.gid, .int .i64 n.links, .int .i64 n.size, .int .i64 n.tick, r0, r1, r2] 89)).alloc (by simp) (.cells #[.int .i64 m.kind, .int .i64 m.mode, .int .i64 m.uid, .int .i64 m.gid, .int .i64 m.links, .int .i64 m.size, .int .i64 m.tick, s0, s1, s2] 89))
 have HX := Lib.hid ((new w #[.int .i64 n.kind, .int .i64 n.mode, .int .i64 n.uid, .int .i64 n.gid, .int .i64 n.links, .int .i64 n.size, .int .i64 n.tick, r0, r1, r2] 89).alloc (.cells #[.int .i64 m.kind, .int .i64 m.mode, .int .i64 m.uid, .int .i64 m.gid, .int .i64 m.links, .int .i64 m.size, .int .i64 m.tick, s0, s1, s2] 89))
 have HY := Lib.hid (new_at (w.alloc (.cells #[.int .i64 n.kind, .int .i64 n.mode, .int .i64 n.uid, .int .i64 n.gid, .int .i64 n.links, .int .i64 n.size, .int .i64 n.tick, r0, r1, r2] 89)) #[.int .i64 m.kind, .int .i64 m.mode, .int .i64 m.uid, .int .i64 m.gid, .int .i64 m.links, .int .i64 m.size, .int .i64 m.tick, s0, s1, s2] 89 (w.heap.size + 1) (by simp))
 by_cases ha : n.acl = m.acl
 ·have HA := Lib.hid (show decide (n.acl = m.acl) = true from decide_eq_true ha)
  clear ha
  replace HS := Lib.hid (show sameB n m = (decide (nums n = nums m) && decide (n.blocks = m.blocks) && decide (n.dflt = m.dflt)) by rw [HS.out, HA.out]; cases decide (nums n = nums m) <;> cases decide (n.blocks = m.blocks) <;> simp)
  by_cases hnm : nums n = nums m
  ·have HN := Lib.hid (show decide (nums n = nums m) = true from decide_eq_true hnm)
   rw [HN.out] at hql
   replace HS := Lib.hid (HS.out.trans (by rw [HN.out]))
   clear hnm
   go_enter Tryz.func210, Tryz.ntmps210
   go_wp2_with fail
   refine (InEq.equal_ents _ r1 s1 n.acl m.acl hn2 hm2 (Ae.holds_below H1.out HB.out) (Ae.holds_below K1.out HB.out)).mono ?_
   rintro e w1 ⟨rfl, hb⟩
   rw [HA.out]
   replace HX := Lib.hid (HX.out.all hb)
   replace HY := Lib.hid (HY.out.all hb)
   replace HB := Lib.hid (HB.out.trans (hb.mono HB.out.size))
   clear hb
   obtain ⟨x0, x1, x2, x3, x4, x5, x6, x7, x8, x9⟩ := Bk.c10 HX.out
   obtain ⟨y0, y1, y2, y3, y4, y5, y6, y7, y8, y9⟩ := Bk.c10 HY.out
   go_wp2_with fail
   refine (InEq.equal_ents _ r2 s2 n.dflt m.dflt hn3 hm3 (Ae.holds_below H2.out HB.out) (Ae.holds_below K2.out HB.out)).mono ?_
   rintro e w2 ⟨rfl, hb⟩
   replace HX := Lib.hid (HX.out.all hb)
   replace HY := Lib.hid (HY.out.all hb)
   replace HB := Lib.hid (HB.out.trans (hb.mono HB.out.size))
   clear hb x0 y0 x1 y1 x2 y2 x3 y3 x4 y4 x5 y5 x6 y6 x7 y7 x8 y8 x9 y9
   obtain ⟨x0, x1, x2, x3, x4, x5, x6, x7, x8, x9⟩ := Bk.c10 HX.out
   obtain ⟨y0, y1, y2, y3, y4, y5, y6, y7, y8, y9⟩ := Bk.c10 HY.out
   generalize decide (n.dflt = m.dflt) = D at HS ⊢
   by_cases hbl : n.blocks = m.blocks
   ·have HBL := Lib.hid (show decide (n.blocks = m.blocks) = true from decide_eq_true hbl)
    have HV := Lib.hid (show sameB n m = D by rw [HS.out, HBL.out]; simp)
    clear hbl
    go_wp2
    have hs9 : w.heap.size + 1 < w2.heap.size := HY.out.lt
    have hs8 : w.heap.size < w2.heap.size := by omega
    have u0 := Fam.cell (W := w2) (p := ⟨w.heap.size, 0, none⟩) hs8 x0
    have v0 := Fam.cell (W := w2) (p := ⟨w.heap.size + 1, 0, none⟩) hs9 y0
    have u1 := Fam.cell (W := w2) (p := ⟨w.heap.size, 1, none⟩) hs8 x1
    have v1 := Fam.cell (W := w2) (p := ⟨w.heap.size + 1, 1, none⟩) hs9 y1
    have u2 := Fam.cell (W := w2) (p := ⟨w.heap.size, 2, none⟩) hs8 x2
    have v2 := Fam.cell (W := w2) (p := ⟨w.heap.size + 1, 2, none⟩) hs9 y2
    have u3 := Fam.cell (W := w2) (p := ⟨w.heap.size, 3, none⟩) hs8 x3
    have v3 := Fam.cell (W := w2) (p := ⟨w.heap.size + 1, 3, none⟩) hs9 y3
    have u4 := Fam.cell (W := w2) (p := ⟨w.heap.size, 4, none⟩) hs8 x4
    have v4 := Fam.cell (W := w2) (p := ⟨w.heap.size + 1, 4, none⟩) hs9 y4
    have u5 := Fam.cell (W := w2) (p := ⟨w.heap.size, 5, none⟩) hs8 x5
    have v5 := Fam.cell (W := w2) (p := ⟨w.heap.size + 1, 5, none⟩) hs9 y5
    have u6 := Fam.cell (W := w2) (p := ⟨w.heap.size, 6, none⟩) hs8 x6
    have v6 := Fam.cell (W := w2) (p := ⟨w.heap.size + 1, 6, none⟩) hs9 y6
    have u7 := Fam.cell (W := w2) (p := ⟨w.heap.size, 7, none⟩) hs8 x7
    have v7 := Fam.cell (W := w2) (p := ⟨w.heap.size + 1, 7, none⟩) hs9 y7
    have u8 := Fam.cell (W := w2) (p := ⟨w.heap.size, 8, none⟩) hs8 x8
    have v8 := Fam.cell (W := w2) (p := ⟨w.heap.size + 1, 8, none⟩) hs9 y8
    have u9 := Fam.cell (W := w2) (p := ⟨w.heap.size, 9, none⟩) hs8 x9
    have v9 := Fam.cell (W := w2) (p := ⟨w.heap.size + 1, 9, none⟩) hs9 y9
    have HSB := Lib.hid (fun k : Fam.Ix w2 => blocks_any (Fam.wld w2 k) r0 s0 n.blocks m.blocks hn1 hm1 HX1.out HY1.out (NiF.holds_below H0.out (HB.out.trans (Fam.wld_below w2 k |>.mono HB.out.size))) (NiF.holds_below K0.out (HB.out.trans (Fam.wld_below w2 k |>.mono HB.out.size))))
    rw [HBL.out] at HSB
    refine Fam.region (by kernel_rfl) (by kernel_rfl) ?_
    repeat (go_big_quiet_step (first | (go_at_call 230; with_reducible refine Fam.calls (numbers_any _ n r0 r1 r2)) | (go_at_call 230; with_reducible refine Fam.calls (numbers_any _ m s0 s1 s2)) | (go_at_call 231; with_reducible refine Fam.calls (HSB.out _))))
    refine wpQuiet_nil ?_
    intro _ hw'
    obtain ⟨nq, hw''⟩ := hw'
    subst hw''
    have hbq := Fam.wld_below w2 nq
    generalize Fam.wld w2 nq = w9 at hbq ⊢
    have HB9 := Lib.hid (HB.out.trans (hbq.mono HB.out.size))
    clear hbq
    go_wp2
    go_ret
    exact ⟨ret_bool HV.out.symm, HB9.out⟩
   ·have HBL := Lib.hid (show decide (n.blocks = m.blocks) = false from decide_eq_false hbl)
    have HV := Lib.hid (show sameB n m = false by rw [HS.out, HBL.out]; simp)
    clear hbl
    go_wp2
    have hs9 : w.heap.size + 1 < w2.heap.size := HY.out.lt
    have hs8 : w.heap.size < w2.heap.size := by omega
    have u0 := Fam.cell (W := w2) (p := ⟨w.heap.size, 0, none⟩) hs8 x0
    have v0 := Fam.cell (W := w2) (p := ⟨w.heap.size + 1, 0, none⟩) hs9 y0
    have u1 := Fam.cell (W := w2) (p := ⟨w.heap.size, 1, none⟩) hs8 x1
    have v1 := Fam.cell (W := w2) (p := ⟨w.heap.size + 1, 1, none⟩) hs9 y1
    have u2 := Fam.cell (W := w2) (p := ⟨w.heap.size, 2, none⟩) hs8 x2
    have v2 := Fam.cell (W := w2) (p := ⟨w.heap.size + 1, 2, none⟩) hs9 y2
    have u3 := Fam.cell (W := w2) (p := ⟨w.heap.size, 3, none⟩) hs8 x3
    have v3 := Fam.cell (W := w2) (p := ⟨w.heap.size + 1, 3, none⟩) hs9 y3
    have u4 := Fam.cell (W := w2) (p := ⟨w.heap.size, 4, none⟩) hs8 x4
    have v4 := Fam.cell (W := w2) (p := ⟨w.heap.size + 1, 4, none⟩) hs9 y4
    have u5 := Fam.cell (W := w2) (p := ⟨w.heap.size, 5, none⟩) hs8 x5
    have v5 := Fam.cell (W := w2) (p := ⟨w.heap.size + 1, 5, none⟩) hs9 y5
    have u6 := Fam.cell (W := w2) (p := ⟨w.heap.size, 6, none⟩) hs8 x6
    have v6 := Fam.cell (W := w2) (p := ⟨w.heap.size + 1, 6, none⟩) hs9 y6
    have u7 := Fam.cell (W := w2) (p := ⟨w.heap.size, 7, none⟩) hs8 x7
    have v7 := Fam.cell (W := w2) (p := ⟨w.heap.size + 1, 7, none⟩) hs9 y7
    have u8 := Fam.cell (W := w2) (p := ⟨w.heap.size, 8, none⟩) hs8 x8
    have v8 := Fam.cell (W := w2) (p := ⟨w.heap.size + 1, 8, none⟩) hs9 y8
    have u9 := Fam.cell (W := w2) (p := ⟨w.heap.size, 9, none⟩) hs8 x9
    have v9 := Fam.cell (W := w2) (p := ⟨w.heap.size + 1, 9, none⟩) hs9 y9
    have HSB := Lib.hid (fun k : Fam.Ix w2 => blocks_any (Fam.wld w2 k) r0 s0 n.blocks m.blocks hn1 hm1 HX1.out HY1.out (NiF.holds_below H0.out (HB.out.trans (Fam.wld_below w2 k |>.mono HB.out.size))) (NiF.holds_below K0.out (HB.out.trans (Fam.wld_below w2 k |>.mono HB.out.size))))
    rw [HBL.out] at HSB
    refine Fam.region (by kernel_rfl) (by kernel_rfl) ?_
    repeat (go_big_quiet_step (first | (go_at_call 230; with_reducible refine Fam.calls (numbers_any _ n r0 r1 r2)) | (go_at_call 230; with_reducible refine Fam.calls (numbers_any _ m s0 s1 s2)) | (go_at_call 231; with_reducible refine Fam.calls (HSB.out _))))
    refine wpQuiet_nil ?_
    intro _ hw'
    obtain ⟨nq, hw''⟩ := hw'
    subst hw''
    have hbq := Fam.wld_below w2 nq
    generalize Fam.wld w2 nq = w9 at hbq ⊢
    have HB9 := Lib.hid (HB.out.trans (hbq.mono HB.out.size))
    clear hbq
    go_wp2
    go_ret
    exact ⟨ret_bool HV.out.symm, HB9.out⟩
  ·have HN := Lib.hid (show decide (nums n = nums m) = false from decide_eq_false hnm)
   rw [HN.out] at hql
   have HV := Lib.hid (show sameB n m = false by rw [HS.out, HN.out]; simp)
   clear hnm
   go_enter Tryz.func210, Tryz.ntmps210
   go_wp2_with fail
   refine (InEq.equal_ents _ r1 s1 n.acl m.acl hn2 hm2 (Ae.holds_below H1.out HB.out) (Ae.holds_below K1.out HB.out)).mono ?_
   rintro e w1 ⟨rfl, hb⟩
   rw [HA.out]
   replace HX := Lib.hid (HX.out.all hb)
   replace HY := Lib.hid (HY.out.all hb)
   replace HB := Lib.hid (HB.out.trans (hb.mono HB.out.size))
   clear hb
   obtain ⟨x0, x1, x2, x3, x4, x5, x6, x7, x8, x9⟩ := Bk.c10 HX.out
   obtain ⟨y0, y1, y2, y3, y4, y5, y6, y7, y8, y9⟩ := Bk.c10 HY.out
   go_wp2_with fail
   refine (InEq.equal_ents _ r2 s2 n.dflt m.dflt hn3 hm3 (Ae.holds_below H2.out HB.out) (Ae.holds_below K2.out HB.out)).mono ?_
   rintro e w2 ⟨rfl, hb⟩
   replace HX := Lib.hid (HX.out.all hb)
   replace HY := Lib.hid (HY.out.all hb)
   replace HB := Lib.hid (HB.out.trans (hb.mono HB.out.size))
   clear hb x0 y0 x1 y1 x2 y2 x3 y3 x4 y4 x5 y5 x6 y6 x7 y7 x8 y8 x9 y9
   obtain ⟨x0, x1, x2, x3, x4, x5, x6, x7, x8, x9⟩ := Bk.c10 HX.out
   obtain ⟨y0, y1, y2, y3, y4, y5, y6, y7, y8, y9⟩ := Bk.c10 HY.out
   generalize decide (n.dflt = m.dflt) = D at HS ⊢
   go_wp2
   have hs9 : w.heap.size + 1 < w2.heap.size := HY.out.lt
   have hs8 : w.heap.size < w2.heap.size := by omega
   have u0 := Fam.cell (W := w2) (p := ⟨w.heap.size, 0, none⟩) hs8 x0
   have v0 := Fam.cell (W := w2) (p := ⟨w.heap.size + 1, 0, none⟩) hs9 y0
   have u1 := Fam.cell (W := w2) (p := ⟨w.heap.size, 1, none⟩) hs8 x1
   have v1 := Fam.cell (W := w2) (p := ⟨w.heap.size + 1, 1, none⟩) hs9 y1
   have u2 := Fam.cell (W := w2) (p := ⟨w.heap.size, 2, none⟩) hs8 x2
   have v2 := Fam.cell (W := w2) (p := ⟨w.heap.size + 1, 2, none⟩) hs9 y2
   have u3 := Fam.cell (W := w2) (p := ⟨w.heap.size, 3, none⟩) hs8 x3
   have v3 := Fam.cell (W := w2) (p := ⟨w.heap.size + 1, 3, none⟩) hs9 y3
   have u4 := Fam.cell (W := w2) (p := ⟨w.heap.size, 4, none⟩) hs8 x4
   have v4 := Fam.cell (W := w2) (p := ⟨w.heap.size + 1, 4, none⟩) hs9 y4
   have u5 := Fam.cell (W := w2) (p := ⟨w.heap.size, 5, none⟩) hs8 x5
   have v5 := Fam.cell (W := w2) (p := ⟨w.heap.size + 1, 5, none⟩) hs9 y5
   have u6 := Fam.cell (W := w2) (p := ⟨w.heap.size, 6, none⟩) hs8 x6
   have v6 := Fam.cell (W := w2) (p := ⟨w.heap.size + 1, 6, none⟩) hs9 y6
   have u7 := Fam.cell (W := w2) (p := ⟨w.heap.size, 7, none⟩) hs8 x7
   have v7 := Fam.cell (W := w2) (p := ⟨w.heap.size + 1, 7, none⟩) hs9 y7
   have u8 := Fam.cell (W := w2) (p := ⟨w.heap.size, 8, none⟩) hs8 x8
   have v8 := Fam.cell (W := w2) (p := ⟨w.heap.size + 1, 8, none⟩) hs9 y8
   have u9 := Fam.cell (W := w2) (p := ⟨w.heap.size, 9, none⟩) hs8 x9
   have v9 := Fam.cell (W := w2) (p := ⟨w.heap.size + 1, 9, none⟩) hs9 y9
   have HSB := Lib.hid (fun k : Fam.Ix w2 => blocks_any (Fam.wld w2 k) r0 s0 n.blocks m.blocks hn1 hm1 HX1.out HY1.out (NiF.holds_below H0.out (HB.out.trans (Fam.wld_below w2 k |>.mono HB.out.size))) (NiF.holds_below K0.out (HB.out.trans (Fam.wld_below w2 k |>.mono HB.out.size))))
   refine Fam.region (by kernel_rfl) (by kernel_rfl) ?_
   repeat (go_big_quiet_step (first | (go_at_call 230; with_reducible refine Fam.calls (numbers_any _ n r0 r1 r2)) | (go_at_call 230; with_reducible refine Fam.calls (numbers_any _ m s0 s1 s2)) | (go_at_call 231; with_reducible refine Fam.calls (HSB.out _))))
   refine wpQuiet_nil ?_
   intro _ hw'
   obtain ⟨nq, hw''⟩ := hw'
   subst hw''
   have hbq := Fam.wld_below w2 nq
   generalize Fam.wld w2 nq = w9 at hbq ⊢
   have HB9 := Lib.hid (HB.out.trans (hbq.mono HB.out.size))
   clear hbq
   go_wp2
   go_ret
   exact ⟨ret_bool HV.out.symm, HB9.out⟩
 ·have HA := Lib.hid (show decide (n.acl = m.acl) = false from decide_eq_false ha)
  clear ha
  replace HS := Lib.hid (show sameB n m = (decide (nums n = nums m) && decide (n.blocks = m.blocks) && false) by rw [HS.out, HA.out]; cases decide (nums n = nums m) <;> cases decide (n.blocks = m.blocks) <;> simp)
  by_cases hnm : nums n = nums m
  ·have HN := Lib.hid (show decide (nums n = nums m) = true from decide_eq_true hnm)
   rw [HN.out] at hql
   replace HS := Lib.hid (HS.out.trans (by rw [HN.out]))
   clear hnm
   go_enter Tryz.func210, Tryz.ntmps210
   go_wp2_with fail
   refine (InEq.equal_ents _ r1 s1 n.acl m.acl hn2 hm2 (Ae.holds_below H1.out HB.out) (Ae.holds_below K1.out HB.out)).mono ?_
   rintro e w1 ⟨rfl, hb⟩
   rw [HA.out]
   replace HX := Lib.hid (HX.out.all hb)
   replace HY := Lib.hid (HY.out.all hb)
   replace HB := Lib.hid (HB.out.trans (hb.mono HB.out.size))
   clear hb
   obtain ⟨x0, x1, x2, x3, x4, x5, x6, x7, x8, x9⟩ := Bk.c10 HX.out
   obtain ⟨y0, y1, y2, y3, y4, y5, y6, y7, y8, y9⟩ := Bk.c10 HY.out
   by_cases hbl : n.blocks = m.blocks
   ·have HBL := Lib.hid (show decide (n.blocks = m.blocks) = true from decide_eq_true hbl)
    have HV := Lib.hid (show sameB n m = false by rw [HS.out, HBL.out]; simp)
    clear hbl
    go_wp2
    have hs9 : w.heap.size + 1 < w1.heap.size := HY.out.lt
    have hs8 : w.heap.size < w1.heap.size := by omega
    have u0 := Fam.cell (W := w1) (p := ⟨w.heap.size, 0, none⟩) hs8 x0
    have v0 := Fam.cell (W := w1) (p := ⟨w.heap.size + 1, 0, none⟩) hs9 y0
    have u1 := Fam.cell (W := w1) (p := ⟨w.heap.size, 1, none⟩) hs8 x1
    have v1 := Fam.cell (W := w1) (p := ⟨w.heap.size + 1, 1, none⟩) hs9 y1
    have u2 := Fam.cell (W := w1) (p := ⟨w.heap.size, 2, none⟩) hs8 x2
    have v2 := Fam.cell (W := w1) (p := ⟨w.heap.size + 1, 2, none⟩) hs9 y2
    have u3 := Fam.cell (W := w1) (p := ⟨w.heap.size, 3, none⟩) hs8 x3
    have v3 := Fam.cell (W := w1) (p := ⟨w.heap.size + 1, 3, none⟩) hs9 y3
    have u4 := Fam.cell (W := w1) (p := ⟨w.heap.size, 4, none⟩) hs8 x4
    have v4 := Fam.cell (W := w1) (p := ⟨w.heap.size + 1, 4, none⟩) hs9 y4
    have u5 := Fam.cell (W := w1) (p := ⟨w.heap.size, 5, none⟩) hs8 x5
    have v5 := Fam.cell (W := w1) (p := ⟨w.heap.size + 1, 5, none⟩) hs9 y5
    have u6 := Fam.cell (W := w1) (p := ⟨w.heap.size, 6, none⟩) hs8 x6
    have v6 := Fam.cell (W := w1) (p := ⟨w.heap.size + 1, 6, none⟩) hs9 y6
    have u7 := Fam.cell (W := w1) (p := ⟨w.heap.size, 7, none⟩) hs8 x7
    have v7 := Fam.cell (W := w1) (p := ⟨w.heap.size + 1, 7, none⟩) hs9 y7
    have u8 := Fam.cell (W := w1) (p := ⟨w.heap.size, 8, none⟩) hs8 x8
    have v8 := Fam.cell (W := w1) (p := ⟨w.heap.size + 1, 8, none⟩) hs9 y8
    have u9 := Fam.cell (W := w1) (p := ⟨w.heap.size, 9, none⟩) hs8 x9
    have v9 := Fam.cell (W := w1) (p := ⟨w.heap.size + 1, 9, none⟩) hs9 y9
    have HSB := Lib.hid (fun k : Fam.Ix w1 => blocks_any (Fam.wld w1 k) r0 s0 n.blocks m.blocks hn1 hm1 HX1.out HY1.out (NiF.holds_below H0.out (HB.out.trans (Fam.wld_below w1 k |>.mono HB.out.size))) (NiF.holds_below K0.out (HB.out.trans (Fam.wld_below w1 k |>.mono HB.out.size))))
    rw [HBL.out] at HSB
    refine Fam.region (by kernel_rfl) (by kernel_rfl) ?_
    repeat (go_big_quiet_step (first | (go_at_call 230; with_reducible refine Fam.calls (numbers_any _ n r0 r1 r2)) | (go_at_call 230; with_reducible refine Fam.calls (numbers_any _ m s0 s1 s2)) | (go_at_call 231; with_reducible refine Fam.calls (HSB.out _))))
    refine wpQuiet_nil ?_
    intro _ hw'
    obtain ⟨nq, hw''⟩ := hw'
    subst hw''
    have hbq := Fam.wld_below w1 nq
    generalize Fam.wld w1 nq = w9 at hbq ⊢
    have HB9 := Lib.hid (HB.out.trans (hbq.mono HB.out.size))
    clear hbq
    go_wp2
    go_ret
    exact ⟨ret_bool HV.out.symm, HB9.out⟩
   ·have HBL := Lib.hid (show decide (n.blocks = m.blocks) = false from decide_eq_false hbl)
    have HV := Lib.hid (show sameB n m = false by rw [HS.out, HBL.out]; simp)
    clear hbl
    go_wp2
    have hs9 : w.heap.size + 1 < w1.heap.size := HY.out.lt
    have hs8 : w.heap.size < w1.heap.size := by omega
    have u0 := Fam.cell (W := w1) (p := ⟨w.heap.size, 0, none⟩) hs8 x0
    have v0 := Fam.cell (W := w1) (p := ⟨w.heap.size + 1, 0, none⟩) hs9 y0
    have u1 := Fam.cell (W := w1) (p := ⟨w.heap.size, 1, none⟩) hs8 x1
    have v1 := Fam.cell (W := w1) (p := ⟨w.heap.size + 1, 1, none⟩) hs9 y1
    have u2 := Fam.cell (W := w1) (p := ⟨w.heap.size, 2, none⟩) hs8 x2
    have v2 := Fam.cell (W := w1) (p := ⟨w.heap.size + 1, 2, none⟩) hs9 y2
    have u3 := Fam.cell (W := w1) (p := ⟨w.heap.size, 3, none⟩) hs8 x3
    have v3 := Fam.cell (W := w1) (p := ⟨w.heap.size + 1, 3, none⟩) hs9 y3
    have u4 := Fam.cell (W := w1) (p := ⟨w.heap.size, 4, none⟩) hs8 x4
    have v4 := Fam.cell (W := w1) (p := ⟨w.heap.size + 1, 4, none⟩) hs9 y4
    have u5 := Fam.cell (W := w1) (p := ⟨w.heap.size, 5, none⟩) hs8 x5
    have v5 := Fam.cell (W := w1) (p := ⟨w.heap.size + 1, 5, none⟩) hs9 y5
    have u6 := Fam.cell (W := w1) (p := ⟨w.heap.size, 6, none⟩) hs8 x6
    have v6 := Fam.cell (W := w1) (p := ⟨w.heap.size + 1, 6, none⟩) hs9 y6
    have u7 := Fam.cell (W := w1) (p := ⟨w.heap.size, 7, none⟩) hs8 x7
    have v7 := Fam.cell (W := w1) (p := ⟨w.heap.size + 1, 7, none⟩) hs9 y7
    have u8 := Fam.cell (W := w1) (p := ⟨w.heap.size, 8, none⟩) hs8 x8
    have v8 := Fam.cell (W := w1) (p := ⟨w.heap.size + 1, 8, none⟩) hs9 y8
    have u9 := Fam.cell (W := w1) (p := ⟨w.heap.size, 9, none⟩) hs8 x9
    have v9 := Fam.cell (W := w1) (p := ⟨w.heap.size + 1, 9, none⟩) hs9 y9
    have HSB := Lib.hid (fun k : Fam.Ix w1 => blocks_any (Fam.wld w1 k) r0 s0 n.blocks m.blocks hn1 hm1 HX1.out HY1.out (NiF.holds_below H0.out (HB.out.trans (Fam.wld_below w1 k |>.mono HB.out.size))) (NiF.holds_below K0.out (HB.out.trans (Fam.wld_below w1 k |>.mono HB.out.size))))
    rw [HBL.out] at HSB
    refine Fam.region (by kernel_rfl) (by kernel_rfl) ?_
    repeat (go_big_quiet_step (first | (go_at_call 230; with_reducible refine Fam.calls (numbers_any _ n r0 r1 r2)) | (go_at_call 230; with_reducible refine Fam.calls (numbers_any _ m s0 s1 s2)) | (go_at_call 231; with_reducible refine Fam.calls (HSB.out _))))
    refine wpQuiet_nil ?_
    intro _ hw'
    obtain ⟨nq, hw''⟩ := hw'
    subst hw''
    have hbq := Fam.wld_below w1 nq
    generalize Fam.wld w1 nq = w9 at hbq ⊢
    have HB9 := Lib.hid (HB.out.trans (hbq.mono HB.out.size))
    clear hbq
    go_wp2
    go_ret
    exact ⟨ret_bool HV.out.symm, HB9.out⟩
  ·have HN := Lib.hid (show decide (nums n = nums m) = false from decide_eq_false hnm)
   rw [HN.out] at hql
   have HV := Lib.hid (show sameB n m = false by rw [HS.out, HN.out]; simp)
   clear hnm
   go_enter Tryz.func210, Tryz.ntmps210
   go_wp2_with fail
   refine (InEq.equal_ents _ r1 s1 n.acl m.acl hn2 hm2 (Ae.holds_below H1.out HB.out) (Ae.holds_below K1.out HB.out)).mono ?_
   rintro e w1 ⟨rfl, hb⟩
   rw [HA.out]
   replace HX := Lib.hid (HX.out.all hb)
   replace HY := Lib.hid (HY.out.all hb)
   replace HB := Lib.hid (HB.out.trans (hb.mono HB.out.size))
   clear hb
   obtain ⟨x0, x1, x2, x3, x4, x5, x6, x7, x8, x9⟩ := Bk.c10 HX.out
   obtain ⟨y0, y1, y2, y3, y4, y5, y6, y7, y8, y9⟩ := Bk.c10 HY.out
   go_wp2
   have hs9 : w.heap.size + 1 < w1.heap.size := HY.out.lt
   have hs8 : w.heap.size < w1.heap.size := by omega
   have u0 := Fam.cell (W := w1) (p := ⟨w.heap.size, 0, none⟩) hs8 x0
   have v0 := Fam.cell (W := w1) (p := ⟨w.heap.size + 1, 0, none⟩) hs9 y0
   have u1 := Fam.cell (W := w1) (p := ⟨w.heap.size, 1, none⟩) hs8 x1
   have v1 := Fam.cell (W := w1) (p := ⟨w.heap.size + 1, 1, none⟩) hs9 y1
   have u2 := Fam.cell (W := w1) (p := ⟨w.heap.size, 2, none⟩) hs8 x2
   have v2 := Fam.cell (W := w1) (p := ⟨w.heap.size + 1, 2, none⟩) hs9 y2
   have u3 := Fam.cell (W := w1) (p := ⟨w.heap.size, 3, none⟩) hs8 x3
   have v3 := Fam.cell (W := w1) (p := ⟨w.heap.size + 1, 3, none⟩) hs9 y3
   have u4 := Fam.cell (W := w1) (p := ⟨w.heap.size, 4, none⟩) hs8 x4
   have v4 := Fam.cell (W := w1) (p := ⟨w.heap.size + 1, 4, none⟩) hs9 y4
   have u5 := Fam.cell (W := w1) (p := ⟨w.heap.size, 5, none⟩) hs8 x5
   have v5 := Fam.cell (W := w1) (p := ⟨w.heap.size + 1, 5, none⟩) hs9 y5
   have u6 := Fam.cell (W := w1) (p := ⟨w.heap.size, 6, none⟩) hs8 x6
   have v6 := Fam.cell (W := w1) (p := ⟨w.heap.size + 1, 6, none⟩) hs9 y6
   have u7 := Fam.cell (W := w1) (p := ⟨w.heap.size, 7, none⟩) hs8 x7
   have v7 := Fam.cell (W := w1) (p := ⟨w.heap.size + 1, 7, none⟩) hs9 y7
   have u8 := Fam.cell (W := w1) (p := ⟨w.heap.size, 8, none⟩) hs8 x8
   have v8 := Fam.cell (W := w1) (p := ⟨w.heap.size + 1, 8, none⟩) hs9 y8
   have u9 := Fam.cell (W := w1) (p := ⟨w.heap.size, 9, none⟩) hs8 x9
   have v9 := Fam.cell (W := w1) (p := ⟨w.heap.size + 1, 9, none⟩) hs9 y9
   have HSB := Lib.hid (fun k : Fam.Ix w1 => blocks_any (Fam.wld w1 k) r0 s0 n.blocks m.blocks hn1 hm1 HX1.out HY1.out (NiF.holds_below H0.out (HB.out.trans (Fam.wld_below w1 k |>.mono HB.out.size))) (NiF.holds_below K0.out (HB.out.trans (Fam.wld_below w1 k |>.mono HB.out.size))))
   refine Fam.region (by kernel_rfl) (by kernel_rfl) ?_
   repeat (go_big_quiet_step (first | (go_at_call 230; with_reducible refine Fam.calls (numbers_any _ n r0 r1 r2)) | (go_at_call 230; with_reducible refine Fam.calls (numbers_any _ m s0 s1 s2)) | (go_at_call 231; with_reducible refine Fam.calls (HSB.out _))))
   refine wpQuiet_nil ?_
   intro _ hw'
   obtain ⟨nq, hw''⟩ := hw'
   subst hw''
   have hbq := Fam.wld_below w1 nq
   generalize Fam.wld w1 nq = w9 at hbq ⊢
   have HB9 := Lib.hid (HB.out.trans (hbq.mono HB.out.size))
   clear hbq
   go_wp2
   go_ret
   exact ⟨ret_bool HV.out.symm, HB9.out⟩
end Go.Proofs.YthppbcnejapbiaaGreatDoor.InSm

-- YthppbcnejapbiaaGreatDoorPm
/- A part. -/
namespace Go.Proofs.YthppbcnejapbiaaGreatDoor.Pm
open Go.ChangeShapes Go.WideShapes Go.ChangeAt Go.RowKit
open ModeV CredV
open Dk (ret_bool)
open Strs (ret_int)
set_option linter.unusedVariables false
theorem user_impl (n : Int) (w : World) :
  Calls Tryz.prog 181 #[.int .i64 n] w fun e w' => e = .returned (.bool (userB n)) /\ w = w' := AclS.user_any n w
theorem user_spec (n : Int) (w : World) :
  Calls Tryz.prog 139 #[.int .i64 n] w fun e w' => e = .returned (.bool (userB n)) /\ w = w' := by
 go_enter Tryz.func139, Tryz.ntmps139
 go_wp2_with fail
 refine (AclS.in_any n 0 3 _).mono ?_
 rintro e w' ⟨rfl, rfl⟩
 go_wp2
 go_ret
 exact ⟨rfl, rfl⟩
theorem mode_spec (n : Int) (w : World) :
  Calls Tryz.prog 167 #[.int .i64 n] w fun e w' => e = .returned (.bool (modeB n)) /\ w = w' := by
 go_enter Tryz.func167, Tryz.ntmps167
 go_wp2_with fail
 refine (AclS.in_any n 0 2047 _).mono ?_
 rintro e w' ⟨rfl, rfl⟩
 go_wp2
 go_ret
 exact ⟨rfl, rfl⟩
end Go.Proofs.YthppbcnejapbiaaGreatDoor.Pm

-- YthppbcnejapbiaaGreatDoorCr
/- A part. -/
namespace Go.Proofs.YthppbcnejapbiaaGreatDoor.Cr
open Go.ChangeShapes Go.WideShapes Go.ChangeAt Go.RowKit Go.Deep
open Bx
open CredV (Cr)
open Strs (ret_int own_below)
open Ni (HoldsN)
set_option linter.unusedVariables false
structure In (w : World) (gv : Value) (l : List Int) : Prop where
 len : l.length <= maxLen
 holds : HoldsN w gv l
end Go.Proofs.YthppbcnejapbiaaGreatDoor.Cr

-- YthppbcnejapbiaaGreatDoorCrI
/- A part. -/
namespace Go.Proofs.YthppbcnejapbiaaGreatDoor.CrI
set_option maxHeartbeats 1600000
set_option maxRecDepth 100000
open Go.ChangeShapes Go.WideShapes Go.ChangeAt Go.RowKit
open Bx CredV
open Ni (HoldsN)
open Dk (ret_bool)
open Strs (ret_int)
set_option linter.unusedVariables false
theorem no_cred {u g : Int} {l : List Int} {k : Nat} (hk : k < l.length) (h : ascB l (k + 1) = false) : credB (u, g, l) = false := by
 cases h2 : ascB l l.length
 ·simp [credB, h2]
 ·have := ascB_mono h2 (show k + 1 <= l.length from hk)
  rw [h] at this; cases this
def hasB (l : List Int) (x : Int) : Bool := l.any fun y => decide (y = x)
def NoneTo (l : List Int) (x : Int) (k : Nat) : Prop := ∀ i, i < k -> l.getD i 0 ≠ x
theorem none_zero (l : List Int) (x : Int) : NoneTo l x 0 := fun i h => absurd h (Nat.not_lt_zero _)
theorem none_succ {l : List Int} {x : Int} {k : Nat} (h : NoneTo l x k) (hk : l.getD k 0 ≠ x) : NoneTo l x (k + 1) := fun i hi => by
 rcases Nat.lt_or_ge i k with hji | hji
 ·exact h i hji
 ·rw [show i = k from by omega]; exact hk
theorem getD_get {l : List Int} {i : Nat} (h : i < l.length) : l.getD i 0 = l[i] := by
 rw [List.getD_eq_getElem?_getD, List.getElem?_eq_getElem h]; rfl
def idxV (l : List Int) (x : Int) : Int := if hasB l x = true then ((l.findIdx fun y => decide (y = x) : Nat) : Int) else -1
theorem has_at {l : List Int} {x : Int} {k : Nat} (hk : k < l.length) (h : NoneTo l x k) (he : l.getD k 0 = x) : hasB l x = true /\ idxV l x = (k : Int) := by
 have h1 : hasB l x = true := by
  rw [hasB, List.any_eq_true]
  exact ⟨l[k], List.getElem_mem hk, by rw [<- getD_get hk, he]; simp⟩
 refine ⟨h1, ?_⟩
 rw [idxV, if_pos h1]
 congr 1
 rw [List.findIdx_eq hk]
 refine ⟨by rw [<- getD_get hk, he]; simp, fun j hj => ?_⟩
 have := h j hj
 rw [getD_get (by omega)] at this
 simpa using this
theorem has_none {l : List Int} {x : Int} (h : NoneTo l x l.length) : hasB l x = false /\ idxV l x = -1 := by
 have h1 : hasB l x = false := by
  rw [hasB, List.any_eq_false]
  intro y hy
  obtain ⟨i, hi, rfl⟩ := List.mem_iff_getElem.1 hy
  have := h i hi
  rw [getD_get hi] at this
  simpa using this
 exact ⟨h1, by rw [idxV, if_neg (by rw [h1]; simp)]⟩
theorem idx_sign (l : List Int) (x : Int) : decide (0 <= idxV l x) = hasB l x := by
 unfold idxV
 cases h : hasB l x
 ·rfl
 ·rw [if_pos rfl]; exact decide_eq_true (by omega)
theorem cred_impl (w : World) (u g : Int) (gv : Value) (l : List Int) (hn : l.length <= 1073741824) (h : HoldsN w gv l) :
  Calls Tryz.prog 140 #[.agg #[.int .i64 u, .int .i64 g, gv]] w fun e w' => e = .returned (.bool (credB (u, g, l))) /\ Below w.heap.size w w' := by
 obtain ⟨a, c, rfl, hc⟩ := h
 have HC := Lib.hid hc
 clear hc
 obtain ⟨N, hN⟩ : ∃ N, N = l.length := ⟨_, rfl⟩
 rw [<- hN] at hn ⊢
 have HN := Lib.hid hN
 clear hN
 have HB := Lib.hid ((Below.refl w.heap.size w).alloc (Nat.le_refl _) (.cells #[.int .i64 u, .int .i64 g, .slice a N c] 54))
 go_enter Tryz.func140, Tryz.ntmps140
 go_wp2_with fail
 have hx := new w #[.int .i64 u, .int .i64 g, .slice a N c] 54
 generalize w.alloc (.cells #[.int .i64 u, .int .i64 g, .slice a N c] 54) = w0 at HB hx ⊢
 obtain ⟨b0, b1, b2⟩ := Bk.three hx
 clear hx
 have HU := Lib.hid (fun n => Pm.user_impl n w0)
 go_loop [8] (fun iv => ∃ k : Nat, k <= N /\ iv = .int .i64 k /\ ascB l k = true) (fun iv => N - (intOf iv).toNat)
 case atStart => exact ⟨0, Nat.zero_le _, rfl, rfl⟩
 case round =>
  obtain ⟨k, hk, rfl, hasc⟩ := hrel
  have HASC := Lib.hid hasc
  clear hasc
  by_cases hlt : k < N
  ·have hlx : k < l.length := by rw [<- HN.out]; exact hlt
   obtain ⟨b, o, rfl, hb, g0⟩ := HC.out k hlx
   rw [<- HB.out.cell (p := ⟨b, _, none⟩) hb] at g0
   have HS := Lib.hid (ascB_succ l k)
   have HNO := Lib.hid (fun h : ascB l (k + 1) = false => no_cred (u := u) (g := g) hlx h)
   cases hu : userB (l.getD k 0)
   ·have HF := Lib.hid (HNO.out (by rw [HS.out, hu]; simp))
    have HUU := Lib.hid (HU.out (l.getD k 0))
    rw [hu] at HUU
    clear hu
    generalize l.getD k 0 = y at g0 HUU
    go_wp2_with fail
    refine HUU.out.mono ?_
    rintro e wq ⟨rfl, rfl⟩
    go_wp2
    go_ret
    exact ⟨ret_bool HF.out.symm, HB.out⟩
   ·by_cases hk0 : k = 0
    ·subst hk0
     have HY := Lib.hid (show ascB l (0 + 1) = true by rw [HS.out, hu]; simp [ascB])
     have HUU := Lib.hid (HU.out (l.getD 0 0))
     rw [hu] at HUU
     clear hu
     simp only [Nat.add_zero] at g0
     generalize l.getD 0 0 = y at g0 HUU
     go_wp2_with fail
     refine HUU.out.mono ?_
     rintro e wq ⟨rfl, rfl⟩
     go_wp2
     go_round
     case rel => exact ⟨1, by omega, by go_num, HY.out⟩
     case measure => simp [intOf]; omega
    ·obtain ⟨p, rfl⟩ : ∃ p, k = p + 1 := ⟨k - 1, by omega⟩
     obtain ⟨b', o', heq, _, f0⟩ := HC.out p (by omega)
     obtain ⟨e1, e2⟩ : b = b' /\ o = o' := by simpa using heq
     subst e1
     subst e2
     rw [<- HB.out.cell (p := ⟨b, _, none⟩) hb] at f0
     have HUU := Lib.hid (HU.out (l.getD (p + 1) 0))
     rw [hu] at HUU
     by_cases hlt2 : l.getD p 0 < l.getD (p + 1) 0
     ·have HY := Lib.hid (show ascB l (p + 1 + 1) = true by rw [HS.out, hu, HASC.out, Nat.add_sub_cancel, decide_eq_true hlt2]; simp)
      have hd : decide (l.getD (p + 1) 0 <= l.getD p 0) = false := decide_eq_false (by omega)
      clear hu heq
      generalize l.getD (p + 1) 0 = y at g0 HUU hlt2 hd
      generalize l.getD p 0 = x at f0 hlt2 hd
      go_wp2_with fail
      refine HUU.out.mono ?_
      rintro e wq ⟨rfl, rfl⟩
      go_wp2
      go_round
      case rel => exact ⟨p + 1 + 1, by omega, by go_num, HY.out⟩
      case measure => simp [intOf]; omega
     ·have HF := Lib.hid (HNO.out (by rw [HS.out, Nat.add_sub_cancel, decide_eq_false hlt2]; simp))
      have hd : l.getD (p + 1) 0 <= l.getD p 0 := by omega
      clear hu heq
      generalize l.getD (p + 1) 0 = y at g0 HUU hlt2 hd
      generalize l.getD p 0 = x at f0 hlt2 hd
      go_wp2_with fail
      refine HUU.out.mono ?_
      rintro e wq ⟨rfl, rfl⟩
      go_wp2
      go_ret
      exact ⟨ret_bool HF.out.symm, HB.out⟩
  ·obtain rfl : k = N := by omega
   have HV := Lib.hid (show credB (u, g, l) = (userB u && userB g) by rw [credB]; dsimp only; rw [<- HN.out, HASC.out, Bool.true_and])
   have HU1 := Lib.hid (HU.out u)
   have HU2 := Lib.hid (HU.out g)
   cases h1 : userB u
   ·rw [h1] at HU1
    rw [h1, Bool.false_and] at HV
    clear h1
    go_wp2_with fail
    refine HU1.out.mono ?_
    rintro e wq ⟨rfl, rfl⟩
    go_wp2
    go_ret
    exact ⟨ret_bool HV.out.symm, HB.out⟩
   ·rw [h1] at HU1
    rw [h1, Bool.true_and] at HV
    clear h1
    go_wp2_with fail
    refine HU1.out.mono ?_
    rintro e wq ⟨rfl, rfl⟩
    go_wp2_with fail
    refine HU2.out.mono ?_
    rintro e wq ⟨rfl, rfl⟩
    go_wp2
    go_ret
    exact ⟨ret_bool HV.out.symm, HB.out⟩
theorem has_spec (w : World) (gv : Value) (l : List Int) (x : Int) (hn : l.length <= 1073741824) (h : HoldsN w gv l) :
  Calls Tryz.prog 168 #[gv, .int .i64 x] w fun e w' => e = .returned (.bool (hasB l x)) /\ w = w' := by
 obtain ⟨a, c, rfl, hc⟩ := h
 have HC := Lib.hid hc
 clear hc
 obtain ⟨N, hN⟩ : ∃ N, N = l.length := ⟨_, rfl⟩
 rw [<- hN] at hn ⊢
 have HN := Lib.hid hN
 clear hN
 go_enter Tryz.func168, Tryz.ntmps168
 go_wp2_with fail
 go_loop [9] (fun iv => ∃ k : Nat, k <= N /\ iv = .int .i64 k /\ NoneTo l x k) (fun iv => N - (intOf iv).toNat)
 case atStart => exact ⟨0, Nat.zero_le _, rfl, none_zero l x⟩
 case round =>
  obtain ⟨k, hk, rfl, hno⟩ := hrel
  have HNO := Lib.hid hno
  clear hno
  by_cases hlt : k < N
  ·have hlx : k < l.length := by rw [<- HN.out]; exact hlt
   obtain ⟨b, o, rfl, hb, g0⟩ := HC.out k hlx
   by_cases he : l.getD k 0 = x
   ·have HV := Lib.hid (has_at hlx HNO.out he)
    rw [he] at g0
    clear he
    go_wp2
    go_ret
    exact ⟨ret_bool HV.out.1.symm, rfl⟩
   ·have HS := Lib.hid (none_succ HNO.out he)
    have h1 : (l.getD k 0 == x) = false := beq_eq_false_iff_ne.2 he
    have h2 : (x == l.getD k 0) = false := beq_eq_false_iff_ne.2 (Ne.symm he)
    clear he
    generalize l.getD k 0 = y at g0 h1 h2
    go_wp2
    go_round
    case rel => exact ⟨k + 1, by omega, by go_num, HS.out⟩
    case measure => simp [intOf]; omega
  ·obtain rfl : k = N := by omega
   have HV := Lib.hid (has_none (l := l) (by rw [<- HN.out]; exact HNO.out))
   go_wp2
   go_ret
   exact ⟨ret_bool HV.out.1.symm, rfl⟩
theorem index_any (w : World) (gv : Value) (l : List Int) (x : Int) (hn : l.length <= 1073741824) (h : HoldsN w gv l) :
  Calls Tryz.prog 252 #[gv, .int .i64 x] w fun e w' => e = .returned (.int .i64 (idxV l x)) /\ w = w' := by
 obtain ⟨a, c, rfl, hc⟩ := h
 have HC := Lib.hid hc
 clear hc
 obtain ⟨N, hN⟩ : ∃ N, N = l.length := ⟨_, rfl⟩
 rw [<- hN] at hn ⊢
 have HN := Lib.hid hN
 clear hN
 go_enter Tryz.func252, Tryz.ntmps252
 go_wp2_with fail
 go_loop [8] (fun iv => ∃ k : Nat, k <= N /\ iv = .int .i64 k /\ NoneTo l x k) (fun iv => N - (intOf iv).toNat)
 case atStart => exact ⟨0, Nat.zero_le _, rfl, none_zero l x⟩
 case round =>
  obtain ⟨k, hk, rfl, hno⟩ := hrel
  have HNO := Lib.hid hno
  clear hno
  by_cases hlt : k < N
  ·have hlx : k < l.length := by rw [<- HN.out]; exact hlt
   obtain ⟨b, o, rfl, hb, g0⟩ := HC.out k hlx
   by_cases he : l.getD k 0 = x
   ·have HV := Lib.hid (has_at hlx HNO.out he)
    rw [he] at g0
    clear he
    go_wp2
    go_ret
    exact ⟨ret_int HV.out.2.symm, rfl⟩
   ·have HS := Lib.hid (none_succ HNO.out he)
    have h1 : (l.getD k 0 == x) = false := beq_eq_false_iff_ne.2 he
    have h2 : (x == l.getD k 0) = false := beq_eq_false_iff_ne.2 (Ne.symm he)
    clear he
    generalize l.getD k 0 = y at g0 h1 h2
    go_wp2
    go_round
    case rel => exact ⟨k + 1, by omega, by go_num, HS.out⟩
    case measure => simp [intOf]; omega
  ·obtain rfl : k = N := by omega
   have HV := Lib.hid (has_none (l := l) (by rw [<- HN.out]; exact HNO.out))
   go_wp2
   go_ret
   exact ⟨ret_int HV.out.2.symm, rfl⟩
theorem contains_any (w : World) (gv : Value) (l : List Int) (x : Int) (hn : l.length <= 1073741824) (h : HoldsN w gv l) :
  Calls Tryz.prog 240 #[gv, .int .i64 x] w fun e w' => e = .returned (.bool (hasB l x)) /\ w = w' := by
 have HI := Lib.hid (index_any w gv l x hn h)
 have HV := Lib.hid (idx_sign l x)
 obtain ⟨a, c, rfl, _⟩ := h
 generalize idxV l x = y at HI HV
 go_enter Tryz.func240, Tryz.ntmps240
 go_wp2_with fail
 refine HI.out.mono ?_
 rintro e wq ⟨rfl, rfl⟩
 go_wp2
 go_ret
 exact ⟨ret_bool HV.out, rfl⟩
end Go.Proofs.YthppbcnejapbiaaGreatDoor.CrI

-- YthppbcnejapbiaaGreatDoorMd
/- A part. -/
namespace Go.Proofs.YthppbcnejapbiaaGreatDoor.Md
open Go.ChangeShapes Go.WideShapes Go.ChangeAt Go.RowKit
open Bx CredV ModeV RowG
open Dk (ret_bool)
open Strs (ret_int)
set_option linter.unusedVariables false
theorem i64_and_nat (a b : Nat) (ha : a < 2048) (hb : b < 2048) : bits .and .i64 ((a : Nat) : Int) ((b : Nat) : Int) = ((a &&& b : Nat) : Int) := by
 have h1 : (BitVec.ofInt 64 (a : Int)).toNat = a := by rw [BitVec.toNat_ofInt]; omega
 have h2 : (BitVec.ofInt 64 (b : Int)).toNat = b := by rw [BitVec.toNat_ofInt]; omega
 have h3 : a &&& b <= a := Nat.and_le_left
 show IntKind.i64.wrap ((BitVec.ofInt 64 (a : Int) &&& BitVec.ofInt 64 (b : Int)).toNat : Nat) = _
 rw [BitVec.toNat_and, h1, h2, IntKind.wrap_i64]
 omega
theorem and_pow_one {n i : Nat} (h : n / 2 ^ i % 2 = 1) : n &&& 2 ^ i ≠ 0 := by
 intro he
 have h1 : (n &&& 2 ^ i).testBit i = true := by rw [Nat.testBit_and, Nat.testBit_two_pow_self, Nat.testBit_eq_decide_div_mod_eq, decide_eq_true h]; rfl
 rw [he, Nat.zero_testBit] at h1
 cases h1
theorem and_pow_none {n i : Nat} (h : ¬ n / 2 ^ i % 2 = 1) : n &&& 2 ^ i = 0 := by
 refine Nat.eq_of_testBit_eq fun j => ?_
 rw [Nat.testBit_and, Nat.testBit_two_pow, Nat.zero_testBit]
 by_cases hj : i = j
 ·subst hj
  rw [Nat.testBit_eq_decide_div_mod_eq, decide_eq_false h]; rfl
 ·rw [decide_eq_false hj, Bool.and_false]
theorem bit_in {m : Int} (h0 : 0 <= m) (h : m <= 2047) (i : Nat) (hi : i < 11) (c : Int) (hc : c = ((2 ^ i : Nat) : Int)) : (bits .and .i64 m c != 0) = decide (m.toNat / 2 ^ i % 2 = 1) := by
 obtain ⟨n, rfl⟩ := Int.eq_ofNat_of_zero_le h0
 subst hc
 have hp : 2 ^ i < 2048 := by
  have := Nat.pow_lt_pow_right (show 1 < 2 by omega) hi
  exact this
 rw [i64_and_nat n (2 ^ i) (by omega) hp, Int.toNat_natCast]
 by_cases hb : n / 2 ^ i % 2 = 1
 ·rw [decide_eq_true hb]
  have := and_pow_one hb
  simp; omega
 ·rw [decide_eq_false hb, and_pow_none hb]; rfl
end Go.Proofs.YthppbcnejapbiaaGreatDoor.Md
