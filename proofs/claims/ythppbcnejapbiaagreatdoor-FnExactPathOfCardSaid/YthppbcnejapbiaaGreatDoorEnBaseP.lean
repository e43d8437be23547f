/- Helper texts joined, one behind another (a claim has at most 60 files): what each proves, its own head says: YthppbcnejapbiaaGreatDoorPrS, YthppbcnejapbiaaGreatDoorPrI. -/
import Derived.Test.YthppbcnejapbiaaGreatDoorEnBaseF
import Derived.Test.YthppbcnejapbiaaGreatDoorEnBaseO
import Derived.Test.YthppbcnejapbiaaGreatDoorFam
import Derived.Test.YthppbcnejapbiaaGreatDoorFsBaseC
import Derived.RangeFuncNested
import Derived.RangeFuncBound
import Derived.RangeFuncCalls
import Derived.RangeFuncLeaves
import Derived.RangeFuncBox
import Derived.Shelf.Abstract
import Derived.Shelf.RegionOpen
import Derived.WalkKit
import Derived.OwnWalkIn
import Derived.TacticsInMore
import Derived.LoopNIn
import Derived.LoopIn
import Derived.Test.YthppbcnejapbiaaGreatDoorEnBaseA

-- YthppbcnejapbiaaGreatDoorPrS
/- Contracts: the model's l10Parent and ParentOf; plain facts on the first directory with an inode's entry. Conditions: as each theorem types them. -/
namespace Go.Proofs.YthppbcnejapbiaaGreatDoor.PrS
open Go.ChangeShapes Go.WideShapes Go.ChangeAt Go.RowKit
open Foot Bx
open InoV (I)
open FsV (F okF)
open FsY (ino)
open FsZ (GoodF)
open EnV OpF
open De (ecells ecells_length ecells_at)
set_option linter.unusedVariables false

def findI (l : List (ByteArray × Int)) (i : Int) : Option (ByteArray × Int) := l.find? fun e => decide (e.2 = i)
/-- A directory's first entry with an inode. -/
def stepP (f : F) (i : Int) (k : Nat) : Option (Nat × ByteArray) := if (ino f k).kind = 2 then (findI (entsV f k) i).map fun e => (k, e.1) else none
def parV (f : F) (i : Int) : Option (Nat × ByteArray) := (List.range 20).findSome? (stepP f i)
def parT : Option (Nat × ByteArray) → Int × ByteArray × Bool
  | none => (0, ⟨#[]⟩, false)
  | some p => (p.1, p.2, true)
def parentV (f : F) (i : Int) : Int × ByteArray × Bool := if okF f = true then parT (parV f i) else (0, ⟨#[]⟩, false)
theorem some_first {α : Type} {g : Nat → Option α} {n j : Nat} {x : α} (hj : j < n) (h : ∀ k, k < j → g k = none) (hx : g j = some x) : (List.range n).findSome? g = some x := by
  have e : List.range n = List.range j ++ j :: (List.range' (j + 1) (n - j - 1)) := by
    rw [List.range_eq_range', List.range_eq_range', show n = j + (n - j - 1 + 1) from by omega, ← List.range'_append_1, List.range'_succ, Nat.zero_add, show j + (n - j - 1 + 1) - j - 1 = n - j - 1 from by omega]
  rw [e, List.findSome?_append, List.findSome?_eq_none_iff.2 (fun k hk => h k (by simpa using hk)), Option.none_or, List.findSome?_cons, hx]
theorem none_all {α : Type} {g : Nat → Option α} {n : Nat} (h : ∀ k, k < n → g k = none) : (List.range n).findSome? g = none := List.findSome?_eq_none_iff.2 fun k hk => h k (by simpa using hk)
theorem findI_none {l : List (ByteArray × Int)} {i : Int} (h : ∀ m, m < l.length → (l.getD m De.d0).2 ≠ i) : findI l i = none := by
  refine List.find?_eq_none.2 fun e he => ?_
  obtain ⟨m, hm, rfl⟩ := List.mem_iff_getElem.1 he
  have := h m hm
  rw [List.getD_eq_getElem?_getD, List.getElem?_eq_getElem hm] at this
  simpa using this
theorem findI_at {l : List (ByteArray × Int)} {i : Int} {m : Nat} {x : ByteArray × Int} (hm : m < l.length) (hx : l.getD m De.d0 = x) (h : ∀ k, k < m → (l.getD k De.d0).2 ≠ i) (he : x.2 = i) : findI l i = some x := by
  have e : l = l.take m ++ x :: l.drop (m + 1) := by
    have : l.getD m De.d0 = l[m] := by rw [List.getD_eq_getElem?_getD, List.getElem?_eq_getElem hm]; rfl
    rw [← hx, this, ← List.drop_eq_getElem_cons hm, List.take_append_drop]
  unfold findI
  rw [e, List.find?_append]
  have h0 : (l.take m).find? (fun e => decide (e.2 = i)) = none := by
    refine List.find?_eq_none.2 fun y hy => ?_
    obtain ⟨k, hk, rfl⟩ := List.mem_iff_getElem.1 hy
    rw [List.length_take] at hk
    rw [List.getElem_take]
    have := h k (by omega)
    rw [List.getD_eq_getElem?_getD, List.getElem?_eq_getElem (by omega)] at this
    simpa using this
  rw [h0, Option.none_or, List.find?_cons, decide_eq_true he]
theorem step_no {f : F} {i : Int} {k : Nat} (h : (ino f k).kind ≠ 2) : stepP f i k = none := by unfold stepP; rw [if_neg h]
theorem step_none {f : F} {i : Int} {k : Nat} (h : findI (entsV f k) i = none) : stepP f i k = none := by
  unfold stepP
  split
  · rw [h]; rfl
  · rfl
theorem step_some {f : F} {i : Int} {k : Nat} {x : ByteArray × Int} (hk : (ino f k).kind = 2) (h : findI (entsV f k) i = some x) : stepP f i k = some (k, x.1) := by unfold stepP; rw [if_pos hk, h]; rfl
theorem ret_isb {a b : Int} {s t : ByteArray} {c d : Bool} (h : a = b) (h1 : s = t) (h2 : c = d) : Ending.returned (.tuple #[.int .i64 a, .string s, .bool c]) = .returned (.tuple #[.int .i64 b, .string t, .bool d]) := by rw [h, h1, h2]

set_option maxRecDepth 100000 in
set_option maxHeartbeats 6400000 in
theorem l10parent (w : World) (v : Value) (f : F) (i : Int) (hok : okF f = true) (h : FsF.Holds w v f) :
    Calls Tryz.prog 74 #[v, .int .i64 i] w fun e w' => e = .returned (.tuple #[.int .i64 (parT (parV f i)).1, .string (parT (parV f i)).2.1, .bool (parT (parV f i)).2.2]) ∧ Below w.heap.size w w' := by
  obtain ⟨T, qa, Q, qc, b, o, ic, da, D, dc, rfl, hb, hic, hat⟩ := open_fs hok h
  have HFS := Lib.hid h
  have HAT := Lib.hid hat
  have HHB := Lib.hid hb
  clear h hat hb
  obtain ⟨w0, hw0⟩ : ∃ w0, w.alloc (.cells #[.int .i64 T, .slice qa Q qc, .slice (some ⟨b, o, none⟩) 20 ic, .slice da D dc] 33) = w0 := ⟨_, rfl⟩
  have hB : Below w.heap.size w w0 := by rw [← hw0]; exact (Below.refl _ w).alloc (Nat.le_refl _) _
  have bF : Bk w0 w.heap.size #[.int .i64 T, .slice qa Q qc, .slice (some ⟨b, o, none⟩) 20 ic, .slice da D dc] 33 := by rw [← hw0]; exact new w _ _
  have HB := Lib.hid hB
  have HBF := Lib.hid bF
  have HES := Lib.hid (fun (W : World) (hb : Below w.heap.size w W) (k : Nat) (hk : k < 20) => EnS.ents_spec W _ f k ⟨hok, hk⟩ (FsF.holds_below HFS.out hb))
  have HLN := Lib.hid (fun (k : Nat) (hk : k < 20) => EnT.ents_len (f := f) (k := k) ⟨hok, hk⟩)
  obtain ⟨R, hR⟩ : ∃ R, R = parV f i := ⟨_, rfl⟩
  rw [← hR]
  have HR := Lib.hid hR
  obtain ⟨x0, x1, x2, x3⟩ := Bk.c4 bF
  clear hR hB bF hok
  go_enter Tryz.func74, Tryz.ntmps74
  go_wp2
  clear x0 x1 x2 x3
  go_loopw [14] (fun iv wr => ∃ j : Nat, j ≤ 20 ∧ iv = .int .i64 j ∧ (∀ k, k < j → stepP f i k = none) ∧ Below w0.heap.size w0 wr) (fun iv _ => 20 - (intOf iv).toNat)
  case atStart => exact ⟨0, by omega, rfl, fun k hk => absurd hk (Nat.not_lt_zero k), Below.refl _ _⟩
  case round =>
    obtain ⟨j, hj, rfl, hne, hbel⟩ := hrel
    have HNE := Lib.hid hne
    have HBE := Lib.hid hbel
    have HBR := Lib.hid (HB.out.trans (hbel.mono HB.out.size))
    have hsr := hbel.size
    clear hne hbel
    by_cases hlt : j < 20
    · obtain ⟨r0, r1, r2, hCl, hP⟩ := HAT.out j hlt
      obtain ⟨p0, p1, p2⟩ := hP
      obtain ⟨b0, e0, rfl⟩ := NiF.form p0
      obtain ⟨b1, e1, rfl⟩ := AeF.form p1
      obtain ⟨b2, e2, rfl⟩ := AeF.form p2
      obtain ⟨d0, d1, d2, d3, d4, d5, d6, d7, d8, d9⟩ := hCl
      rw [← HBR.out.cell (p := ⟨b, _, none⟩) HHB.out] at d0 d1 d2 d3 d4 d5 d6 d7 d8 d9
      have h0 : (0 : Int) ≤ j := by omega
      have h1 : (j : Int) < 20 := by omega
      obtain ⟨N, hN⟩ : ∃ N, N = ino f j := ⟨_, rfl⟩
      rw [← hN] at d0 d1 d2 d3 d4 d5 d6 d7 d8 d9
      have HN := Lib.hid hN
      obtain ⟨m0, hm0⟩ : ∃ m, m = N.blocks.length := ⟨_, rfl⟩
      obtain ⟨m1, hm1⟩ : ∃ m, m = N.acl.length := ⟨_, rfl⟩
      obtain ⟨m2, hm2⟩ : ∃ m, m = N.dflt.length := ⟨_, rfl⟩
      rw [← hm0] at d7
      rw [← hm1] at d8
      rw [← hm2] at d9
      obtain ⟨K, M, U, G, L, S, TT, nb, acl, nd⟩ := N
      dsimp only at d0 d1 d2 d3 d4 d5 d6
      obtain ⟨wn, hwn⟩ : ∃ wn, wr.alloc (.cells #[.int .i64 K, .int .i64 M, .int .i64 U, .int .i64 G, .int .i64 L, .int .i64 S, .int .i64 TT, .slice b0 m0 e0, .slice b1 m1 e1, .slice b2 m2 e2] 89) = wn := ⟨_, rfl⟩
      have hbn : Below wr.heap.size wr wn := by rw [← hwn]; exact (Below.refl _ wr).alloc (Nat.le_refl _) _
      have bN : Bk wn wr.heap.size #[.int .i64 K, .int .i64 M, .int .i64 U, .int .i64 G, .int .i64 L, .int .i64 S, .int .i64 TT, .slice b0 m0 e0, .slice b1 m1 e1, .slice b2 m2 e2] 89 := by rw [← hwn]; exact new wr _ _
      have HBN := Lib.hid (HBE.out.trans (hbn.mono hsr))
      have HBW := Lib.hid (HBR.out.trans (hbn.mono HBR.out.size))
      have k0 : wn.cell? ⟨wr.heap.size, 0, none⟩ = some (.int .i64 K) := bN.cell 0
      obtain ⟨v0, v1, v2, v3⟩ := Bk.c4 (HBF.out.all HBE.out)
      obtain ⟨x0, x1, x2, x3⟩ := Bk.c4 (HBF.out.all HBN.out)
      clear p0 p1 p2 hN hm0 hm1 hm2 bN hbn
      by_cases hz : K = 2
      · obtain ⟨l, hl⟩ : ∃ l, l = entsV f j := ⟨_, rfl⟩
        have HL := Lib.hid hl
        have HE1 := Lib.hid (HES.out wn HBW.out j hlt)
        have hln := HLN.out j hlt
        rw [← hl] at HE1 hln
        obtain ⟨n, hn⟩ : ∃ n, n = l.length := ⟨_, rfl⟩
        have HNL := Lib.hid hn
        rw [← hn] at HE1 hln
        have HKD := Lib.hid (show (ino f j).kind = 2 from by rw [← HN.out]; exact hz)
        have HLEN := Lib.hid (show (ecells l).length = n * 2 from by rw [ecells_length, HNL.out])
        subst hz
        clear hl hn
        go_wp2_with fail
        refine (HE1.out).mono ?_
        rintro e w2 ⟨vo, rfl, hown, hb2⟩
        obtain ⟨ao, co, rfl⟩ := Dk.slice_of hown
        have HO2 := Lib.hid hown
        have HB2 := Lib.hid (HBN.out.trans (hb2.mono HBN.out.size))
        clear hown hb2 v0 v1 v2 v3 x0 x1 x2 x3 d0 d1 d2 d3 d4 d5 d6 d7 d8 d9 k0 hwn
        go_wp2
        go_loopw [26] (fun iv wx => ∃ m : Nat, m ≤ n ∧ iv = .int .i64 m ∧ (∀ k, k < m → (l.getD k De.d0).2 ≠ i) ∧ wx.ownsRow wn.heap.size 75 2 (.slice ao n co) n (ecells l) ∧ Below w0.heap.size w0 wx) (fun iv _ => n - (intOf iv).toNat)
        case atStart => exact ⟨0, Nat.zero_le _, rfl, fun k hk => absurd hk (Nat.not_lt_zero k), HO2.out, HB2.out⟩
        case round =>
          obtain ⟨m, hm, rfl, hni, how, hbx⟩ := hrel
          have HNI := Lib.hid hni
          have HBX := Lib.hid hbx
          have hsx := hbx.size
          clear hni hbx
          by_cases hlm : m < n
          · obtain ⟨gb, rfl, hgb⟩ : ∃ gb, ao = some ⟨gb, 0, none⟩ ∧ gb < wr.heap.size := by
              rcases how.2 with ⟨hv, h0⟩ | ⟨gb, cap, cur, hv, _, hg, _⟩
              · omega
              · rw [Value.slice.injEq] at hv
                exact ⟨gb, hv.1, (Array.getElem?_eq_some_iff.1 hg).1⟩
            have hc0 := how.cellAt (m * 2) (by omega)
            have hc1 := how.cellAt (m * 2 + 1) (by omega)
            obtain ⟨he0, he1⟩ := ecells_at l m (by rw [← HNL.out]; exact hlm)
            rw [he0] at hc0
            rw [he1] at hc1
            obtain ⟨x, hx⟩ : ∃ x, l.getD m De.d0 = x := ⟨_, rfl⟩
            rw [hx] at hc0 hc1
            have HX := Lib.hid hx
            obtain ⟨y, z⟩ := x
            dsimp only at hc0 hc1
            have hbn := Below.alloc (Below.refl wr.heap.size wr) (Nat.le_refl _) (.cells #[.string y, .int .i64 z] 75)
            have HO3 := Lib.hid (row_below how hbn)
            have HB3 := Lib.hid (HBX.out.trans (hbn.mono hsx))
            obtain ⟨we, hwe⟩ : ∃ we, wr.alloc (.cells #[.string y, .int .i64 z] 75) = we := ⟨_, rfl⟩
            rw [hwe] at HO3 HB3
            have bY : Bk we wr.heap.size #[.string y, .int .i64 z] 75 := by rw [← hwe]; exact new wr _ _
            have q0 := bY.two.1
            have q1 := bY.two.2
            have hyl := bY.lt
            clear hx he0 he1 how hbn bY
            by_cases hy : z = i
            · have HF := Lib.hid (show R = some (j, y) from by
                rw [HR.out]
                refine some_first hlt HNE.out (step_some (x := (y, z)) HKD.out ?_)
                exact findI_at (by rw [← HL.out, ← HNL.out]; exact hlm) (by rw [← HL.out]; exact HX.out) (by rw [← HL.out]; exact HNI.out) hy)
              have z0 := Fam.cell (W := we) (p := ⟨wr.heap.size, 0, none⟩) hyl q0
              subst hy
              go_wp2
              refine Fam.region (by kernel_rfl) (by kernel_rfl) ?_
              repeat (go_big_quiet_step (fail))
              refine wpQuiet_nil ?_
              intro _ hw'
              obtain ⟨nq, hw''⟩ := hw'
              subst hw''
              have hbq := Fam.wld_below _ nq
              generalize Fam.wld _ nq = w9 at hbq ⊢
              have HB9 := Lib.hid (HB.out.trans ((HB3.out.trans (hbq.mono HB3.out.size)).mono HB.out.size))
              clear hbq z0 q0 q1 hc0 hc1
              go_wp2
              go_ret3
              exact ⟨ret_isb (by rw [HF.out]; rfl) (by rw [HF.out]; rfl) (by rw [HF.out]; rfl), HB9.out⟩
            · have hq : (z == i) = false := by simpa using hy
              have HNX := Lib.hid (show ∀ k, k < m + 1 → (l.getD k De.d0).2 ≠ i from fun k hk => by
                by_cases hkm : k = m
                · rw [hkm, HX.out]; exact hy
                · exact HNI.out k (by omega))
              clear hy
              go_wp2
              go_roundw
              case rel => exact ⟨m + 1, by omega, by go_num, HNX.out, HO3.out, HB3.out⟩
              case measure => simp [intOf]; omega
          · obtain rfl : m = n := by omega
            have HNX := Lib.hid (show ∀ k, k < j + 1 → stepP f i k = none from fun k hk => by
              by_cases hkj : k = j
              · rw [hkj]; exact step_none (findI_none (by rw [← HL.out, ← HNL.out]; exact HNI.out))
              · exact HNE.out k (by omega))
            clear how
            go_wp2
            go_roundw
            case rel => exact ⟨j + 1, by omega, by go_num, HNX.out, HBX.out⟩
            case measure => simp [intOf]; omega
      · have q1 : (K != 2) = true := by simpa using hz
        have q2 : (K == 2) = false := by simpa using hz
        have HNX := Lib.hid (show ∀ k, k < j + 1 → stepP f i k = none from fun k hk => by
          by_cases hkj : k = j
          · rw [hkj]; exact step_no (by rw [← HN.out]; exact hz)
          · exact HNE.out k (by omega))
        clear hz
        go_wp2
        go_roundw
        case rel => exact ⟨j + 1, by omega, by go_num, HNX.out, HBN.out⟩
        case measure => simp [intOf]; omega
    · obtain rfl : j = 20 := by omega
      have HF := Lib.hid (show R = none from by rw [HR.out]; exact none_all HNE.out)
      go_wp2
      go_ret3
      exact ⟨ret_isb (by rw [HF.out]; rfl) (by rw [HF.out]; rfl) (by rw [HF.out]; rfl), HBR.out⟩

set_option maxRecDepth 100000 in
set_option maxHeartbeats 3200000 in
theorem parent_spec (w : World) (v : Value) (f : F) (i : Int) (hc : FsF.cost f ≤ 1073741824) (hl : FsF.Lim f) (h : FsF.Holds w v f) :
    Calls Tryz.prog 28 #[v, .int .i64 i] w fun e w' => e = .returned (.tuple #[.int .i64 (parentV f i).1, .string (parentV f i).2.1, .bool (parentV f i).2.2]) ∧ Below w.heap.size w w' := by
  have HFS := Lib.hid h
  obtain ⟨T, qa, Q, qc, ia, M, ic, da, D, dc, rfl⟩ := form_fs h
  obtain ⟨w0, hw0⟩ : ∃ w0, w.alloc (.cells #[.int .i64 T, .slice qa Q qc, .slice ia M ic, .slice da D dc] 33) = w0 := ⟨_, rfl⟩
  have hB : Below w.heap.size w w0 := by rw [← hw0]; exact (Below.refl _ w).alloc (Nat.le_refl _) _
  have bF : Bk w0 w.heap.size #[.int .i64 T, .slice qa Q qc, .slice ia M ic, .slice da D dc] 33 := by rw [← hw0]; exact new w _ _
  have HB := Lib.hid hB
  have HBF := Lib.hid bF
  obtain ⟨x0, x1, x2, x3⟩ := Bk.c4 bF
  obtain ⟨B, hBe⟩ : ∃ B, B = okF f := ⟨_, rfl⟩
  have HIS := Lib.hid (show Calls Tryz.prog 73 #[.agg #[.int .i64 T, .slice qa Q qc, .slice ia M ic, .slice da D dc]] w0 fun e w' => e = .returned (.bool B) ∧ Below w0.heap.size w0 w' from by rw [hBe]; exact FsS.is_spec w0 _ f hc hl (FsF.holds_below HFS.out hB))
  cases B
  · have HV := Lib.hid (show parentV f i = (0, ⟨#[]⟩, false) from if_neg (by rw [← hBe]; simp))
    clear hBe h hB bF hc hl
    go_enter Tryz.func28, Tryz.ntmps28
    go_wp2_with fail
    refine (HIS.out).mono ?_
    rintro e w2 ⟨rfl, hb2⟩
    go_wp2
    go_ret3
    exact ⟨ret_isb (by rw [HV.out]) (by rw [HV.out]) (by rw [HV.out]), HB.out.trans (hb2.mono HB.out.size)⟩
  · have HV := Lib.hid (show parentV f i = parT (parV f i) from if_pos hBe.symm)
    have HPA := Lib.hid (fun (W : World) (hb : Below w.heap.size w W) => l10parent W _ f i hBe.symm (FsF.holds_below HFS.out hb))
    generalize parT (parV f i) = R at HV HPA
    clear hBe h hB bF hc hl
    go_enter Tryz.func28, Tryz.ntmps28
    go_wp2_with fail
    refine (HIS.out).mono ?_
    rintro e w2 ⟨rfl, hb2⟩
    have HB2 := Lib.hid (HB.out.trans (hb2.mono HB.out.size))
    obtain ⟨v0, v1, v2, v3⟩ := Bk.c4 (HBF.out.all hb2)
    clear x0 x1 x2 x3 hb2
    go_wp2_with fail
    refine (HPA.out _ HB2.out).mono ?_
    rintro e w3 ⟨rfl, hb3⟩
    go_wp2
    go_ret3
    exact ⟨ret_isb (by rw [HV.out]) (by rw [HV.out]) (by rw [HV.out]), HB2.out.trans (hb3.mono HB2.out.size)⟩
end Go.Proofs.YthppbcnejapbiaaGreatDoor.PrS

-- YthppbcnejapbiaaGreatDoorPrI
/- Contract: the program's ParentOf: the first directory with an inode's entry; the marks that several ranges over functions leave. Conditions: as each theorem types them. -/
namespace Go.Proofs.YthppbcnejapbiaaGreatDoor.PrI
open Go.ChangeShapes Go.WideShapes Go.ChangeAt Go.RowKit Go.Shelf
open Foot Bx
open InoV (I usedV needV)
open FsV (F okF e0 z32 usersB)
open FsY FsZ FoB CoN CoFr
open EnV EnP EnI EnD EnF OpF PrS
set_option linter.unusedVariables false
attribute [local go_sem] Oper.semAt_some

/-- The mark that a range over a function leaves. -/
def mk (D : Nat) : Deferred := { target := .collected D, args := #[] }
def Marks (lo : Nat) (Ds : List Nat) (W : World) : Prop := Ds.Nodup ∧ ∀ D ∈ Ds, lo ≤ D ∧ W.heap[D]? = some (.deferred (some []))
theorem Marks.below {lo : Nat} {Ds : List Nat} {W W' : World} (h : Marks lo Ds W) (hb : Below W.heap.size W W') : Marks lo Ds W' :=
  ⟨h.1, fun D hD => ⟨(h.2 D hD).1, (hb.block D (Array.getElem?_eq_some_iff.1 (h.2 D hD).2).1).trans (h.2 D hD).2⟩⟩
theorem Marks.lt {lo : Nat} {Ds : List Nat} {W : World} (h : Marks lo Ds W) : ∀ D ∈ Ds, D < W.heap.size := fun D hD => (Array.getElem?_eq_some_iff.1 (h.2 D hD).2).1
theorem Marks.cons {lo D : Nat} {Ds : List Nat} {W : World} (h : Marks lo Ds W) (hlo : lo ≤ D) (hD : W.heap[D]? = some (.deferred (some []))) (hne : ∀ E ∈ Ds, E < D) : Marks lo (D :: Ds) W :=
  ⟨List.nodup_cons.2 ⟨fun hh => by have := hne D hh; omega, h.1⟩, fun E hE => by
    rcases List.mem_cons.1 hE with rfl | hE
    · exact ⟨hlo, hD⟩
    · exact h.2 E hE⟩
/-- The marks' blocks are shut. -/
def shut : List Nat → World → World
  | [], W => W
  | D :: Ds, W => shut Ds (W.putObj D (.deferred none))
theorem shut_step {lo D : Nat} {Ds : List Nat} {W : World} (h : Marks lo (D :: Ds) W) : Marks lo Ds (W.putObj D (.deferred none)) := by
  obtain ⟨hn, hm⟩ := h
  rw [List.nodup_cons] at hn
  refine ⟨hn.2, fun E hE => ⟨(hm E (List.mem_cons_of_mem _ hE)).1, ?_⟩⟩
  have := hm E (List.mem_cons_of_mem _ hE)
  exact ((grownBy_putObj' W D _).block E (Array.getElem?_eq_some_iff.1 this.2).1 (fun e => by cases e; exact hn.1 hE)).trans this.2
theorem shut_cell {lo : Nat} : ∀ {Ds : List Nat} {W : World} {p : Addr} {x : Value}, Marks lo Ds W → W.cell? p = some x → (shut Ds W).cell? p = some x
  | [], _, _, _, _, h => h
  | D :: Ds, W, p, x, hm, h => by
    have h2 : (W.putObj D (.deferred none)).cell? p = some x := cell_kept h (grownBy_putObj' W D _) (fun r e => by cases e; exact ⟨_, (hm.2 D (by simp)).2, rfl⟩)
    exact shut_cell (Ds := Ds) (shut_step hm) h2
theorem shut_below {lo : Nat} : ∀ {Ds : List Nat} {W : World}, Marks lo Ds W → Below lo W (shut Ds W)
  | [], _, _ => Below.refl _ _
  | D :: Ds, W, hm => ((Below.refl lo W).grown (grownBy_putObj' W D _) (by have := (hm.2 D (by simp)).1; have := Marks.lt hm D (by simp); omega) (fun k e => by cases e; exact (hm.2 D (by simp)).1)).trans (shut_below (shut_step hm))
theorem leaves_marks {F : Fence} {n : Nat} {P : Program} {fn : Func} {tmps : Array Value} {R : Ending → World → Prop} {lo : Nat} : ∀ (Ds : List Nat) (W : World), Marks lo Ds W → LeavesIn F n P fn tmps R [] .returning (shut Ds W) → LeavesInM F n P fn tmps R (Ds.map mk) .returning W
  | [], _, _, h => h
  | D :: Ds, W, hm, h => ⟨by simp, .inl ⟨D, _, rfl, run_takeDeferred (hm.2 D (by simp)).2, leaves_marks Ds _ (shut_step hm) h⟩⟩
/-- The three results are stored. -/
def put3 (W : World) (n : Nat) (a b c : Value) : World := ((W.setCell ⟨n + 1 + 1, 0, none⟩ a).setCell ⟨n + 1 + 1 + 1, 0, none⟩ b).setCell ⟨n + 1 + 1 + 1 + 1, 0, none⟩ c
theorem put3_cells {W : World} {n : Nat} {a0 b0 c0 : Value} {ta tb tc : TypeId} (hA : Bk W (n + 1 + 1) #[a0] ta) (hS : Bk W (n + 1 + 1 + 1) #[b0] tb) (hB : Bk W (n + 1 + 1 + 1 + 1) #[c0] tc) (a b c : Value) :
    (put3 W n a b c).cell? ⟨n + 1 + 1, 0, none⟩ = some a ∧ (put3 W n a b c).cell? ⟨n + 1 + 1 + 1, 0, none⟩ = some b ∧ (put3 W n a b c).cell? ⟨n + 1 + 1 + 1 + 1, 0, none⟩ = some c :=
  ⟨(((hA.set 0 a).far (p := ⟨n + 1 + 1 + 1, 0, none⟩) (by show _ ≠ n + 1 + 1 + 1; omega) b).far (p := ⟨n + 1 + 1 + 1 + 1, 0, none⟩) (by show _ ≠ n + 1 + 1 + 1 + 1; omega) c).cell 0,
   (((hS.far (p := ⟨n + 1 + 1, 0, none⟩) (by show _ ≠ n + 1 + 1; omega) a).set 0 b).far (p := ⟨n + 1 + 1 + 1 + 1, 0, none⟩) (by show _ ≠ n + 1 + 1 + 1 + 1; omega) c).cell 0,
   (((hB.far (p := ⟨n + 1 + 1, 0, none⟩) (by show _ ≠ n + 1 + 1; omega) a).far (p := ⟨n + 1 + 1 + 1, 0, none⟩) (by show _ ≠ n + 1 + 1 + 1; omega) b).set 0 c).cell 0⟩
theorem put3_marks {lo n : Nat} {Ds : List Nat} {W : World} (h : Marks lo Ds W) (hn : n + 5 ≤ lo) (a b c : Value) : Marks lo Ds (put3 W n a b c) :=
  ⟨h.1, fun D hD => ⟨(h.2 D hD).1, by
    have := (h.2 D hD).1
    unfold put3
    rw [Below.heap_setCell _ _ _ D (by show D ≠ n + 1 + 1 + 1 + 1; omega), Below.heap_setCell _ _ _ D (by show D ≠ n + 1 + 1 + 1; omega), Below.heap_setCell _ _ _ D (by show D ≠ n + 1 + 1; omega)]
    exact (h.2 D hD).2⟩⟩
theorem put3_below {w W : World} {n : Nat} (h : Below n w W) (a b c : Value) : Below n w (put3 W n a b c) := by
  unfold put3
  exact ((h.setCell (p := ⟨n + 1 + 1, 0, none⟩) (by show n ≤ n + 1 + 1; omega) _).setCell (p := ⟨n + 1 + 1 + 1, 0, none⟩) (by show n ≤ n + 1 + 1 + 1; omega) _).setCell (p := ⟨n + 1 + 1 + 1 + 1, 0, none⟩) (by show n ≤ n + 1 + 1 + 1 + 1; omega) _
theorem put3_keeps (W : World) (n B : Nat) (a b c : Value) : KeepsFrom B W (put3 W n a b c) := ((((KeepsOthers.setCell W ⟨n + 1 + 1, 0, none⟩ a).trans (KeepsOthers.setCell _ ⟨n + 1 + 1 + 1, 0, none⟩ b)).trans (KeepsOthers.setCell _ ⟨n + 1 + 1 + 1 + 1, 0, none⟩ c))).from B
/-- The entry that the loop stops at. -/
theorem stop_findI {f : F} {k K : Nat} {ini : List (ByteArray × Int)} {x : ByteArray × Int} {i : Int} (hK : K = (ino f k).size.toNat / 16) (h : Stops f k K (ini ++ [x])) (h1 : ∀ e ∈ ini, e.2 ≠ i) (hx : x.2 = i) : findI (entsV f k) i = some x := by
  obtain ⟨j, y, hj, hy, he⟩ := h
  obtain ⟨rfl, e2⟩ := List.append_inj' he rfl
  cases e2
  obtain ⟨r, hr⟩ := ents_split hj hy
  unfold entsV
  rw [← hK, hr]
  unfold findI
  have h0 : (entsL (content f.data (ino f k).blocks) j).find? (fun e => decide (e.2 = i)) = none := List.find?_eq_none.2 fun e he => by simpa using h1 e he
  rw [List.append_assoc, List.find?_append, h0]
  simp [hx]
theorem findI_no {l : List (ByteArray × Int)} {i : Int} (h : ∀ e ∈ l, e.2 ≠ i) : findI l i = none := List.find?_eq_none.2 fun e he => by simpa using h e he
theorem own_marks {β : Type} {lo B : Nat} {Ds : List Nat} (hB : ∀ D ∈ Ds, D < B) : OwnFrom B (fun (_ : β) W => Marks lo Ds W) := fun _ W W' row hs hg hr =>
  ⟨hs.1, fun D hD => ⟨(hs.2 D hD).1, (hg.block D (Marks.lt hs D hD) (fun e => by have := (hr D e.symm).1; have := hB D hD; omega)).trans (hs.2 D hD).2⟩⟩

set_option maxRecDepth 100000 in
set_option maxHeartbeats 12800000 in
theorem parent_impl (w : World) (v : Value) (f : F) (i : Int) (hc : FsF.cost f ≤ 1073741824) (hl : FsF.Lim f) (hv : InOk.Vars w) (hok : okF f = true) (h : FsF.Holds w v f) :
    Calls Tryz.prog 29 #[v, .int .i64 i] w fun e w' => e = .returned (.tuple #[.int .i64 (parT (parV f i)).1, .string (parT (parV f i)).2.1, .bool (parT (parV f i)).2.2]) ∧ Below w.heap.size w w' := by
  obtain ⟨T, qa, Q, qc, b, o, ic, da, D, dc, rfl, hb, hic, hat⟩ := open_fs hok h
  have HFS := Lib.hid h
  have HAT := Lib.hid hat
  have HHB := Lib.hid hb
  obtain ⟨w0, hw0⟩ : ∃ w0, ((((w.alloc (.cells #[.int .i64 T, .slice qa Q qc, .slice (some ⟨b, o, none⟩) 20 ic, .slice da D dc] 33)).alloc (.cells #[.int .i64 i] 3)).alloc (.cells #[.int .i64 0] 3)).alloc (.cells #[.string ⟨#[]⟩] 9)).alloc (.cells #[.bool false] 4) = w0 := ⟨_, rfl⟩
  have hB0 : Below w.heap.size w w0 := by rw [← hw0]; exact (((((Below.refl _ w).alloc (Nat.le_refl _) _).alloc (by simp) _).alloc (by simp; omega) _).alloc (by simp; omega) _).alloc (by simp; omega) _
  have hs0 : w0.heap.size = w.heap.size + 5 := by rw [← hw0]; simp
  have bF : Bk w0 w.heap.size #[.int .i64 T, .slice qa Q qc, .slice (some ⟨b, o, none⟩) 20 ic, .slice da D dc] 33 := by rw [← hw0]; exact ((((new w _ _).alloc _).alloc _).alloc _).alloc _
  have bI : Bk w0 (w.heap.size + 1) #[.int .i64 i] 3 := by
    rw [← hw0]; exact (((new_at (w.alloc (.cells #[.int .i64 T, .slice qa Q qc, .slice (some ⟨b, o, none⟩) 20 ic, .slice da D dc] 33)) #[.int .i64 i] 3 (w.heap.size + 1) (by simp)).alloc _).alloc _).alloc _
  have bA : Bk w0 (w.heap.size + 1 + 1) #[.int .i64 0] 3 := by
    rw [← hw0]; exact ((new_at _ #[.int .i64 0] 3 (w.heap.size + 1 + 1) (by simp)).alloc _).alloc _
  have bS : Bk w0 (w.heap.size + 1 + 1 + 1) #[.string ⟨#[]⟩] 9 := by
    rw [← hw0]; exact (new_at _ #[.string ⟨#[]⟩] 9 (w.heap.size + 1 + 1 + 1) (by simp)).alloc _
  have bB : Bk w0 (w.heap.size + 1 + 1 + 1 + 1) #[.bool false] 4 := by
    rw [← hw0]; exact new_at _ #[.bool false] 4 (w.heap.size + 1 + 1 + 1 + 1) (by simp)
  have HIS := Lib.hid (show Calls Tryz.prog 75 #[.agg #[.int .i64 T, .slice qa Q qc, .slice (some ⟨b, o, none⟩) 20 ic, .slice da D dc]] w0 fun e w' => e = .returned (.bool true) ∧ Below w0.heap.size w0 w' from by
    have := FsE.is_impl w0 _ f hc hl (hv.all hB0) (FsF.holds_below h hB0)
    rwa [hok] at this)
  obtain ⟨R, hR⟩ : ∃ R, R = parV f i := ⟨_, rfl⟩
  rw [← hR]
  have HR := Lib.hid hR
  have HOK := Lib.hid hok
  have HBF := Lib.hid bF
  have HBI := Lib.hid bI
  have HBA := Lib.hid bA
  have HBS := Lib.hid bS
  have HBB := Lib.hid bB
  have HB0 := Lib.hid hB0
  have HS0 := Lib.hid hs0
  obtain ⟨x0, x1, x2, x3⟩ := Bk.c4 bF
  clear hR hok h hat hb bF bI bA bS bB hB0 hs0 hc hl hv
  refine (callsIn_wide (n := 3)).1 ?_
  refine callsIn_of_wp_marks Tryz.func29 rfl trivial ?_ rfl
  simp only [Tryz.ntmps29, List.size_toArray, List.length_cons, List.length_nil, Nat.reduceAdd, Nat.reduceSub, Array.replicate_succ, Array.replicate_zero, List.push_toArray, List.append_toArray, List.nil_append, List.cons_append]
  gi_wp2_with fail
  refine ⟨trivial, (callsIn_wide.2 (HIS.out)).mono ?_⟩
  rintro e w5 ⟨rfl, hb5⟩
  have HB5 := Lib.hid (HB0.out.trans (hb5.mono HB0.out.size))
  have HS5 := Lib.hid (show w.heap.size + 5 ≤ w5.heap.size from by have := HS0.out; have := hb5.size; omega)
  replace HBF := Lib.hid (HBF.out.all hb5)
  replace HBI := Lib.hid (HBI.out.all hb5)
  replace HBA := Lib.hid (HBA.out.all hb5)
  replace HBS := Lib.hid (HBS.out.all hb5)
  replace HBB := Lib.hid (HBB.out.all hb5)
  clear x0 x1 x2 x3 hb5 hw0 HB0 HS0
  obtain ⟨x0, x1, x2, x3⟩ := Bk.c4 HBF.out
  gi_wp2
  clear x0 x1 x2 x3
  refine wpIn_loop (fun a' W => ∃ (u7 u8 u9 u17 u18 u19 u20 u21 u22 u23 u24 u25 u26 u27 u28 u29 u30 u31 u32 u33 u34 u35 iv : Value) (j : Nat) (Ds : List Nat), j ≤ 20 ∧ iv = .int .i64 j ∧ (∀ k, k < j → stepP f i k = none) ∧ Below w5.heap.size w5 W ∧ Marks w5.heap.size Ds W ∧ a' = { tmps := #[.agg #[.int .i64 T, .slice qa Q qc, .slice (some ⟨b, o, none⟩) 20 ic, .slice da D dc], .int .i64 i, .pointer (some ⟨w.heap.size, 0, none⟩), .pointer (some ⟨w.heap.size + 1, 0, none⟩), .pointer (some ⟨w.heap.size + 1 + 1, 0, none⟩), .pointer (some ⟨w.heap.size + 1 + 1 + 1, 0, none⟩), .pointer (some ⟨w.heap.size + 1 + 1 + 1 + 1, 0, none⟩), u7, u8, u9, .agg #[.int .i64 T, .slice qa Q qc, .slice (some ⟨b, o, none⟩) 20 ic, .slice da D dc], .bool true, .bool false, .pointer (some ⟨w.heap.size, 2, none⟩), .slice (some ⟨b, o, none⟩) 20 ic, .int .i64 20, iv, u17, u18, u19, u20, u21, u22, u23, u24, u25, u26, u27, u28, u29, u30, u31, u32, u33, u34, u35], defers := Ds.map mk })
    (fun a' _ => 20 - (intOf (a'.tmps.getD 16 undef)).toNat) ?_ ?_
  · exact ⟨_, _, _, _, _, _, _, _, _, _, _, _, _, _, _, _, _, _, _, _, _, _, _, 0, [], by omega, rfl, fun k hk => absurd hk (Nat.not_lt_zero k), Below.refl _ _, ⟨List.nodup_nil, fun D hD => by cases hD⟩, rfl⟩
  · rintro a' wr ⟨u7, u8, u9, u17, u18, u19, u20, u21, u22, u23, u24, u25, u26, u27, u28, u29, u30, u31, u32, u33, u34, u35, iv, j, Ds, hj, rfl, hne, hbel, hmk, rfl⟩
    have HNE := Lib.hid hne
    have HBE := Lib.hid hbel
    have HMK := Lib.hid hmk
    have HBR := Lib.hid (HB5.out.trans (hbel.mono HB5.out.size))
    have hsr := hbel.size
    clear hne hbel hmk
    by_cases hlt : j < 20
    · obtain ⟨r0, r1, r2, hCl, hP⟩ := HAT.out j hlt
      obtain ⟨p0, p1, p2⟩ := hP
      obtain ⟨b0, e0, rfl⟩ := NiF.form p0
      obtain ⟨b1, e1, rfl⟩ := AeF.form p1
      obtain ⟨b2, e2, rfl⟩ := AeF.form p2
      obtain ⟨d0, d1, d2, d3, d4, d5, d6, d7, d8, d9⟩ := hCl
      rw [← HBR.out.cell (p := ⟨b, _, none⟩) HHB.out] at d0 d1 d2 d3 d4 d5 d6 d7 d8 d9
      have h0 : (0 : Int) ≤ j := by omega
      have h1 : (j : Int) < 20 := by omega
      obtain ⟨N, hN⟩ : ∃ N, N = ino f j := ⟨_, rfl⟩
      rw [← hN] at d0 d1 d2 d3 d4 d5 d6 d7 d8 d9
      have HN := Lib.hid hN
      obtain ⟨m0, hm0⟩ : ∃ m, m = N.blocks.length := ⟨_, rfl⟩
      obtain ⟨m1, hm1⟩ : ∃ m, m = N.acl.length := ⟨_, rfl⟩
      obtain ⟨m2, hm2⟩ : ∃ m, m = N.dflt.length := ⟨_, rfl⟩
      rw [← hm0] at d7
      rw [← hm1] at d8
      rw [← hm2] at d9
      obtain ⟨K, M, U, G, L, S, TT, nb, acl, nd⟩ := N
      dsimp only at d0 d1 d2 d3 d4 d5 d6
      have hbw : b < wr.heap.size := Nat.lt_of_lt_of_le HHB.out HBR.out.size
      obtain ⟨wn, hwn⟩ : ∃ wn, (wr.alloc (.cells #[.int .i64 j] 3)).alloc (.cells #[.int .i64 K, .int .i64 M, .int .i64 U, .int .i64 G, .int .i64 L, .int .i64 S, .int .i64 TT, .slice b0 m0 e0, .slice b1 m1 e1, .slice b2 m2 e2] 89) = wn := ⟨_, rfl⟩
      have hbn : Below wr.heap.size wr wn := by rw [← hwn]; exact ((Below.refl _ wr).alloc (Nat.le_refl _) _).alloc (by simp) _
      have bJ : Bk wn wr.heap.size #[.int .i64 j] 3 := by rw [← hwn]; exact (new wr _ _).alloc _
      have bN : Bk wn (wr.heap.size + 1) #[.int .i64 K, .int .i64 M, .int .i64 U, .int .i64 G, .int .i64 L, .int .i64 S, .int .i64 TT, .slice b0 m0 e0, .slice b1 m1 e1, .slice b2 m2 e2] 89 := by rw [← hwn]; exact new_at _ _ _ _ (by simp)
      have HBN := Lib.hid (HBE.out.trans (hbn.mono hsr))
      have HMN := Lib.hid (HMK.out.below hbn)
      have HBW := Lib.hid (HBR.out.trans (hbn.mono HBR.out.size))
      have HBJ := Lib.hid bJ
      have k0 : wn.cell? ⟨wr.heap.size + 1, 0, none⟩ = some (.int .i64 K) := bN.cell 0
      have j0 : wn.cell? ⟨wr.heap.size, 0, none⟩ = some (.int .i64 j) := bJ.cell 0
      obtain ⟨v0, v1, v2, v3⟩ := Bk.c4 (HBF.out.all HBE.out)
      obtain ⟨x0, x1, x2, x3⟩ := Bk.c4 (HBF.out.all HBN.out)
      clear p0 p1 p2 hN hm0 hm1 hm2 bN hbn bJ
      by_cases hz : K = 2
      · have HG := Lib.hid (show GoodF f j from ⟨HOK.out, hlt⟩)
        have HKD := Lib.hid (show (ino f j).kind = 2 from by rw [← HN.out]; exact hz)
        subst hz
        gi_wp2_with fail
        refine ⟨trivial, (callsIn_wide.2 (in_impl wn T Q 20 D qa qc (some ⟨b, o, none⟩) ic da dc j)).mono ?_⟩
        rintro e wq ⟨rfl, hwq⟩
        have hbq : Below wn.heap.size wn wq := by rw [hwq]; exact ((Below.refl _ wn).alloc (Nat.le_refl _) _).alloc (by simp) _
        have bE : Bk wq wn.heap.size #[.int .i64 T, .slice qa Q qc, .slice (some ⟨b, o, none⟩) 20 ic, .slice da D dc] 33 := by rw [hwq]; exact (new wn _ _).alloc _
        have bK : Bk wq (wn.heap.size + 1) #[.int .i64 j] 3 := by
          have := new (wn.alloc (.cells #[.int .i64 T, .slice qa Q qc, .slice (some ⟨b, o, none⟩) 20 ic, .slice da D dc] 33)) #[.int .i64 j] 3
          rw [World.size_alloc] at this
          rw [hwq]; exact this
        have HBQ := Lib.hid (HBN.out.trans (hbq.mono HBN.out.size))
        have HMQ := Lib.hid (HMN.out.below hbq)
        have HBX := Lib.hid (HBW.out.trans (hbq.mono HBW.out.size))
        have HJQ := Lib.hid (HBJ.out.all hbq)
        have hsq := HBQ.out.size
        have hs5 := HS5.out
        obtain ⟨KK, hKK⟩ : ∃ KK, KK = (ino f j).size.toNat / 16 := ⟨_, rfl⟩
        have HKK := Lib.hid hKK
        have HML := Lib.hid (Marks.lt HMQ.out)
        have HE := Lib.hid (ents_stops 2 (by decide) w.heap.size wn.heap.size (wn.heap.size + 1) KK (fun _ => []) w wq f j KK T Q 20 D qa qc (some ⟨b, o, none⟩) ic da dc (Nat.le_refl _) HG.out hKK HFS.out rfl HBX.out bE bK (fun _ _ _ _ => rfl) (fun x hx => by cases hx))
        have HBIq := Lib.hid (HBI.out.all HBQ.out)
        have HBAq := Lib.hid (HBA.out.all HBQ.out)
        have HBSq := Lib.hid (HBS.out.all HBQ.out)
        have HBBq := Lib.hid (HBB.out.all HBQ.out)
        clear x0 x1 x2 x3 v0 v1 v2 v3 d0 d1 d2 d3 d4 d5 d6 d7 d8 d9 k0 j0 hwn hwq hbq bE bK hKK
        gi_wp2_with fail
        refine wpIn_rangeFunc_ownH rfl (by decide) (gf := 95) (lb := #[.pointer (some ⟨wn.heap.size, 0, none⟩), .pointer (some ⟨wn.heap.size + 1, 0, none⟩)]) rfl trivial (enters_of Tryz.func95 (by kernel_rfl) rfl)
          HE.out kp_t (kp_b (by omega) (fun _ _ _ _ _ _ => rfl)) (Below.refl _ _) (fun _ => rfl)
          (fun pre W => (∀ e ∈ pre, e.2 ≠ i) ∧ Below wq.heap.size wq W)
          (fun c pre W => ((c = .ret ∧ ∃ ini x, pre = ini ++ [x] ∧ (∀ e ∈ ini, e.2 ≠ i) ∧ x.2 = i ∧ W.cell? ⟨w.heap.size + 1 + 1, 0, none⟩ = some (.int .i64 j) ∧ W.cell? ⟨w.heap.size + 1 + 1 + 1, 0, none⟩ = some (.string x.1) ∧ W.cell? ⟨w.heap.size + 1 + 1 + 1 + 1, 0, none⟩ = some (.bool true)) ∧ Marks w5.heap.size Ds W) ∧ Below w.heap.size w W)
          (OwnFrom.and (ownFrom_pure _ _) (ownFrom_below (Nat.le_refl _) (Nat.le_refl _)))
          (fun c => OwnFrom.and (OwnFrom.and (Own.from (fun s' A B row hs hg hr => by obtain ⟨hc, ini, x, e1, e2, e3, e4, e5, e6⟩ := hs; exact ⟨hc, ini, x, e1, e2, e3, cell_kept e4 hg hr, cell_kept e5 hg hr, cell_kept e6 hg hr⟩) _) (own_marks HML.out)) (ownFrom_below (Nat.le_refl _) HBX.out.size))
          ⟨by simp, Below.refl _ _⟩
          (fun x a' W => ∃ Bx, wq.heap.size ≤ Bx ∧ Bk W Bx #[.string x.1, .int .i64 x.2] 75 ∧ a' =
            { tmps := #[.agg #[.int .i64 T, .slice qa Q qc, .slice (some ⟨b, o, none⟩) 20 ic, .slice da D dc], .int .i64 i, .pointer (some ⟨w.heap.size, 0, none⟩), .pointer (some ⟨w.heap.size + 1, 0, none⟩), .pointer (some ⟨w.heap.size + 1 + 1, 0, none⟩), .pointer (some ⟨w.heap.size + 1 + 1 + 1, 0, none⟩), .pointer (some ⟨w.heap.size + 1 + 1 + 1 + 1, 0, none⟩), .pointer (some ⟨wr.heap.size, 0, none⟩), .pointer (some ⟨wr.heap.size + 1, 0, none⟩), .pointer (some ⟨Bx, 0, none⟩), .agg #[.int .i64 T, .slice qa Q qc, .slice (some ⟨b, o, none⟩) 20 ic, .slice da D dc], .bool true, .bool false, .pointer (some ⟨w.heap.size, 2, none⟩), .slice (some ⟨b, o, none⟩) 20 ic, .int .i64 20, .int .i64 j, .bool true, .int .i64 j, .pointer (some ⟨b, o + j * 10, none⟩), .agg #[.int .i64 2, .int .i64 M, .int .i64 U, .int .i64 G, .int .i64 L, .int .i64 S, .int .i64 TT, .slice b0 m0 e0, .slice b1 m1 e1, .slice b2 m2 e2], .pointer (some ⟨wr.heap.size + 1, 0, none⟩), .int .i64 2, .bool false, .agg #[.int .i64 T, .slice qa Q qc, .slice (some ⟨b, o, none⟩) 20 ic, .slice da D dc], .int .i64 j, .func (.func 95) #[] #[.pointer (some ⟨wn.heap.size, 0, none⟩), .pointer (some ⟨wn.heap.size + 1, 0, none⟩)], .agg #[.string x.1, .int .i64 x.2], u28, u29, u30, u31, u32, u33, u34, u35], defers := [] })
          (fun x a' _ X Y row hs hg hr => by obtain ⟨Bx, h1, h2, h3⟩ := hs; exact ⟨Bx, h1, h2.grown hg (fun e => by obtain ⟨_, o, ho, hc⟩ := hr Bx e.symm; rw [show X.heap[Bx]? = _ from h2] at ho; cases ho; cases hc), h3⟩)
          ?assign ?body ?done ?stop
        case assign =>
          rintro l pre x W KK2 ⟨hp, hB⟩ hKK2
          unfold ev
          generalize x.1 = x1 at hKK2 ⊢
          generalize x.2 = x2 at hKK2 ⊢
          gi_wp2
          exact hKK2 _ _ ((KeepsOthers.alloc _ _).from _) (kp_alloc (by have := hB.size; omega) _) ⟨hp, hB.alloc hB.size _⟩ ⟨W.heap.size, hB.size, new W _ _, rfl⟩
        case body =>
          rintro l pre x a' W hl ⟨r, hr⟩ ⟨hp, hB⟩ ⟨Bx, hBx, bX, rfl⟩ hlen
          have HP := Lib.hid hp
          have HB := Lib.hid hB
          clear hp
          have q0 := bX.two.1
          have q1 := bX.two.2
          have q2 := (HBIq.out.all hB).cell 0
          have HJW := Lib.hid (HJQ.out.all hB)
          have q3 := HJW.out.cell 0
          have HAW := Lib.hid (HBAq.out.all hB)
          have HSW := Lib.hid (HBSq.out.all hB)
          have HBW2 := Lib.hid (HBBq.out.all hB)
          have HMW := Lib.hid (HMQ.out.below hB)
          have hBw := HBX.out.trans (hB.mono HBX.out.size)
          have HBWW := Lib.hid hBw
          have hsW := hB.size
          obtain ⟨x1, hx1⟩ : ∃ q, q = x.1 := ⟨_, rfl⟩
          obtain ⟨x2, hx2⟩ : ∃ q, q = x.2 := ⟨_, rfl⟩
          rw [← hx1] at q0
          rw [← hx2] at q1
          have HX1 := Lib.hid hx1
          have HX2 := Lib.hid hx2
          clear hx1 hx2
          by_cases hx : x2 = i
          · have HX := Lib.hid (show x.2 = i from by rw [← HX2.out]; exact hx)
            subst hx
            have t0 := HAW.out.cell 0
            have t1 := HAW.out.free 0
            have t2 := HSW.out.cell 0
            have t3 := HSW.out.free 0
            have t4 := HBW2.out.cell 0
            have t5 := HBW2.out.free 0
            have hn1 : ¬ (w.heap.size + 1 + 1 = wr.heap.size) := by omega
            have hn2 : ¬ (w.heap.size + 1 + 1 = Bx) := by omega
            have hn3 : ¬ (w.heap.size + 1 + 1 + 1 = Bx) := by omega
            have hn4 : ¬ (w.heap.size + 1 + 1 + 1 = wr.heap.size) := by omega
            have hn5 : ¬ (w.heap.size + 1 + 1 + 1 + 1 = Bx) := by omega
            have hn6 : ¬ (w.heap.size + 1 + 1 + 1 + 1 = wr.heap.size) := by omega
            clear hB hBw
            gi_wp2
            gi_region
            all_goals
              gi_wp2
              obtain ⟨c1, c2, c3⟩ := put3_cells HAW.out HSW.out HBW2.out (.int .i64 j) (.string x1) (.bool true)
              have hk := put3_keeps W w.heap.size wq.heap.size (.int .i64 j) (.string x1) (.bool true)
              have hm := put3_marks (n := w.heap.size) HMW.out (by omega) (.int .i64 j) (.string x1) (.bool true)
              have hbl := put3_below HBWW.out (.int .i64 j) (.string x1) (.bool true)
              refine ⟨⟨hk.size, hk.same⟩, ⟨⟨rfl, pre, x, rfl, HP.out, HX.out, c1, by rw [← HX1.out]; exact c2, c3⟩, hm⟩, ?_⟩
              exact hbl.drew
          · have HX := Lib.hid (show x.2 ≠ i from by rw [← HX2.out]; exact hx)
            have hq : (x2 == i) = false := by simpa using hx
            clear hx hB hBw
            gi_wp2
            exact ⟨KeepsFrom.refl _ _, kp_refl _, fun y hy => (List.mem_append.1 hy).elim (HP.out y) (fun e => by simp at e; subst e; exact HX.out), HB.out⟩
        case done =>
          rintro Dd ys W hD rfl ⟨hni, hB⟩ hK'
          have HNX := Lib.hid (show ∀ k, k < j + 1 → stepP f i k = none from fun k hk => by
            by_cases hkj : k = j
            · rw [hkj]; exact step_none (findI_no hni)
            · exact HNE.out k (by omega))
          have HMD := Lib.hid ((HMQ.out.below hB).cons (D := Dd) (by omega) hK' (fun E hE => by have := HML.out E hE; omega))
          have HBD := Lib.hid (HBQ.out.trans (hB.mono HBQ.out.size))
          clear hni hB hK'
          gi_wp2
          exact ⟨⟨_, _, _, _, _, _, _, _, _, _, _, _, _, _, _, _, _, _, _, _, _, _, _, j + 1, Dd :: Ds, by omega, by go_num, HNX.out, HBD.out, HMD.out, rfl⟩, by simp [intOf]; omega⟩
        case stop =>
          rintro Dd c pre W hD hst ⟨⟨⟨rfl, ini, x, rfl, e2, e3, hcr, hcs, hco⟩, hmk⟩, hB⟩ hK'
          have HV := Lib.hid (show R = some (j, x.1) from by rw [HR.out]; exact some_first hlt HNE.out (step_some HKD.out (stop_findI HKK.out hst e2 e3)))
          have hmc : Marks w5.heap.size (Dd :: Ds) W := hmk.cons (by omega) hK' (fun E hE => by have := HML.out E hE; omega)
          have hc1 := shut_cell hmc hcr
          have hc2 := shut_cell hmc hcs
          have hc3 := shut_cell hmc hco
          have HSB := Lib.hid (hB.trans ((shut_below hmc).mono (by omega)))
          have HMC := Lib.hid hmc
          clear hmk hmc hB hcr hcs hco hK'
          gi_wp2
          refine leaves_marks (Dd :: Ds) W HMC.out ?_
          refine ⟨.tuple #[.int .i64 j, .string x.1, .bool true], ?_, ret_isb (by rw [HV.out]; rfl) (by rw [HV.out]; rfl) (by rw [HV.out]; rfl), HSB.out⟩
          simp [results, Tryz.results29, go_sem, hc1, hc2, hc3]
      · have q1 : (K != 2) = true := by simpa using hz
        have q2 : (K == 2) = false := by simpa using hz
        have HNX := Lib.hid (show ∀ k, k < j + 1 → stepP f i k = none from fun k hk => by
          by_cases hkj : k = j
          · rw [hkj]; exact step_no (by rw [← HN.out]; exact hz)
          · exact HNE.out k (by omega))
        clear hz
        gi_wp2
        exact ⟨⟨_, _, _, _, _, _, _, _, _, _, _, _, _, _, _, _, _, _, _, _, _, _, _, j + 1, Ds, by omega, by go_num, HNX.out, HBN.out, HMN.out, rfl⟩, by simp [intOf]; omega⟩
    · obtain rfl : j = 20 := by omega
      have HV := Lib.hid (show R = none from by rw [HR.out]; exact none_all HNE.out)
      have HAW := Lib.hid (HBA.out.all HBE.out)
      have HSW := Lib.hid (HBS.out.all HBE.out)
      have HBW2 := Lib.hid (HBB.out.all HBE.out)
      have t0 := HAW.out.cell 0
      have t1 := HAW.out.free 0
      have t2 := HSW.out.cell 0
      have t3 := HSW.out.free 0
      have t4 := HBW2.out.cell 0
      have t5 := HBW2.out.free 0
      have hs5 := HS5.out
      gi_wp2
      have hm9 := put3_marks (n := w.heap.size) HMK.out (by omega) (.int .i64 0) (.string ⟨#[]⟩) (.bool false)
      obtain ⟨c1, c2, c3⟩ := put3_cells HAW.out HSW.out HBW2.out (.int .i64 0) (.string ⟨#[]⟩) (.bool false)
      have hc1 := shut_cell hm9 c1
      have hc2 := shut_cell hm9 c2
      have hc3 := shut_cell hm9 c3
      have hbl := (put3_below HBR.out (.int .i64 0) (.string ⟨#[]⟩) (.bool false)).trans ((shut_below hm9).mono (by omega))
      unfold put3 at hm9 hc1 hc2 hc3 hbl
      refine leaves_marks Ds _ hm9 ?_
      refine ⟨.tuple #[.int .i64 0, .string ⟨#[]⟩, .bool false], ?_, ret_isb (by rw [HV.out]; rfl) (by rw [HV.out]; rfl) (by rw [HV.out]; rfl), hbl⟩
      simp [results, Tryz.results29, go_sem, hc1, hc2, hc3]
set_option maxRecDepth 100000 in
set_option maxHeartbeats 3200000 in
theorem parent_all (w : World) (v : Value) (f : F) (i : Int) (hc : FsF.cost f ≤ 1073741824) (hl : FsF.Lim f) (hv : InOk.Vars w) (h : FsF.Holds w v f) :
    Calls Tryz.prog 29 #[v, .int .i64 i] w fun e w' => e = .returned (.tuple #[.int .i64 (parentV f i).1, .string (parentV f i).2.1, .bool (parentV f i).2.2]) ∧ Below w.heap.size w w' := by
  by_cases hok : okF f = true
  · have hV : parentV f i = parT (parV f i) := if_pos hok
    rw [hV]
    exact parent_impl w v f i hc hl hv hok h
  · have hV : parentV f i = (0, ⟨#[]⟩, false) := if_neg hok
    rw [hV]
    have hof : okF f = false := by simpa using hok
    obtain ⟨T, qa, Q, qc, ia, M, ic, da, D, dc, rfl⟩ := form_fs h
    obtain ⟨w0, hw0⟩ : ∃ w0, ((((w.alloc (.cells #[.int .i64 T, .slice qa Q qc, .slice ia M ic, .slice da D dc] 33)).alloc (.cells #[.int .i64 i] 3)).alloc (.cells #[.int .i64 0] 3)).alloc (.cells #[.string ⟨#[]⟩] 9)).alloc (.cells #[.bool false] 4) = w0 := ⟨_, rfl⟩
    have hB0 : Below w.heap.size w w0 := by rw [← hw0]; exact (((((Below.refl _ w).alloc (Nat.le_refl _) _).alloc (by simp) _).alloc (by simp; omega) _).alloc (by simp; omega) _).alloc (by simp; omega) _
    have bF : Bk w0 w.heap.size #[.int .i64 T, .slice qa Q qc, .slice ia M ic, .slice da D dc] 33 := by rw [← hw0]; exact ((((new w _ _).alloc _).alloc _).alloc _).alloc _
    have bA : Bk w0 (w.heap.size + 1 + 1) #[.int .i64 0] 3 := by
      rw [← hw0]; exact ((new_at _ #[.int .i64 0] 3 (w.heap.size + 1 + 1) (by simp)).alloc _).alloc _
    have bS : Bk w0 (w.heap.size + 1 + 1 + 1) #[.string ⟨#[]⟩] 9 := by
      rw [← hw0]; exact (new_at _ #[.string ⟨#[]⟩] 9 (w.heap.size + 1 + 1 + 1) (by simp)).alloc _
    have bB : Bk w0 (w.heap.size + 1 + 1 + 1 + 1) #[.bool false] 4 := by
      rw [← hw0]; exact new_at _ #[.bool false] 4 (w.heap.size + 1 + 1 + 1 + 1) (by simp)
    have HIS := Lib.hid (show Calls Tryz.prog 75 #[.agg #[.int .i64 T, .slice qa Q qc, .slice ia M ic, .slice da D dc]] w0 fun e w' => e = .returned (.bool false) ∧ Below w0.heap.size w0 w' from by
      have := FsE.is_impl w0 _ f hc hl (hv.all hB0) (FsF.holds_below h hB0)
      rwa [hof] at this)
    have HB0 := Lib.hid hB0
    have HBA := Lib.hid bA
    have HBS := Lib.hid bS
    have HBB := Lib.hid bB
    obtain ⟨x0, x1, x2, x3⟩ := Bk.c4 bF
    clear hok hof h hB0 bF bA bS bB hc hl hv hV
    go_enter Tryz.func29, Tryz.ntmps29
    go_wp2_with fail
    refine (HIS.out).mono ?_
    rintro e w5 ⟨rfl, hb5⟩
    have HB5 := Lib.hid (HB0.out.trans (hb5.mono HB0.out.size))
    have HAW := Lib.hid (HBA.out.all hb5)
    have HSW := Lib.hid (HBS.out.all hb5)
    have HBW2 := Lib.hid (HBB.out.all hb5)
    have t0 := HAW.out.cell 0
    have t1 := HAW.out.free 0
    have t2 := HSW.out.cell 0
    have t3 := HSW.out.free 0
    have t4 := HBW2.out.cell 0
    have t5 := HBW2.out.free 0
    clear x0 x1 x2 x3 hb5 hw0
    go_wp2
    obtain ⟨c1, c2, c3⟩ := put3_cells HAW.out HSW.out HBW2.out (.int .i64 0) (.string ⟨#[]⟩) (.bool false)
    have hbl := put3_below HB5.out (.int .i64 0) (.string ⟨#[]⟩) (.bool false)
    unfold put3 at c1 c2 c3 hbl
    refine bodyPost_ret (v := .tuple #[.int .i64 0, .string ⟨#[]⟩, .bool false]) ?_ rfl ⟨rfl, hbl⟩
    simp [results, Tryz.results29, go_sem, c1, c2, c3]
end Go.Proofs.YthppbcnejapbiaaGreatDoor.PrI
