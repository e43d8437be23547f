/- Proved: for every slice of quotas the law FnExactNewFS returns true and leaves its argument as it was: the program's NewFS answers as the model's, in memory of its own. Condition: none beyond the row's own (a tied card: the table of an inode's fields, and two tables of package unicode/utf8 that the walk does not read, are as the program's text lays them). -/
import Derived.Test.YtmljjdglmlnbaaaGreatDoorFsBaseA
import Derived.Test.YtmljjdglmlnbaaaGreatDoorFlK
import Derived.Test.YtmljjdglmlnbaaaGreatDoorFsBaseC
import Derived.Test.YtmljjdglmlnbaaaGreatDoorFsBaseB
import Derived.Test.YtmljjdglmlnbaaaGreatDoorCards
import Derived.Test.YtmljjdglmlnbaaaGreatDoorTie
import Derived.SevenTiedAt
namespace Go.Proofs.YtmljjdglmlnbaaaGreatDoor.NewFSLaw
open Go.ChangeShapes Go.WideShapes Go.ChangeAt Go.RowKit
open Go.ChangeMaps (open_string shut_string)
open Foot
set_option linter.unusedVariables false

set_option maxRecDepth 100000 in
set_option maxHeartbeats 6400000 in
theorem law_any (v0 : Value) (n0 : QF.L) (w : World) (h0 : QF.Lim n0 ∧ QF.Holds w v0 n0) (hv : InOk.Vars w) :
    Calls Tryz.prog 3 #[v0] w fun e w' => e = .returned (.bool true) ∧ Below w.heap.size w w' := by
  have HV := Lib.hid hv
  clear hv
  have HN0 := Lib.hid h0.2
  have HM0 := Lib.hid h0.1
  clear h0
  by_cases hc0 : QF.cost n0 ≤ 1048576
  · obtain ⟨r0, hr0⟩ : ∃ r0 : Nat, r0 = 1048576 - QF.cost n0 := ⟨_, rfl⟩
    have HC0 := Lib.hid (show costOf (QF.cost n0) 1048576 = (r0 : Int) by rw [hr0]; exact cost_pos hc0)
    have hle0 : r0 ≤ 1048576 := by omega
    have hlen0 : QF.cost n0 ≤ 1048576 := by omega
    clear hr0 hc0
    have hs : ∀ (W : World) (q0 : Value), InOk.Vars W → QF.Holds W q0 n0 → Calls Tryz.prog 8 #[q0] W fun e w' => ∃ (y0 : Value) (S0 : List Nat), e = .returned y0 ∧ FsF.Own w' W.heap.size y0 (FsV.newV n0) S0 ∧ Below W.heap.size W w' := fun W q0 pv p0 => FsI.new_spec W q0 n0 (show QF.cost n0 ≤ 1048576 by omega) p0
    have hi : ∀ (W : World) (q0 : Value), InOk.Vars W → QF.Holds W q0 n0 → Calls Tryz.prog 10 #[q0] W fun e w' => ∃ (y0 : Value) (S0 : List Nat), e = .returned y0 ∧ FsF.Own w' W.heap.size y0 (FsV.newV n0) S0 ∧ Below W.heap.size W w' := fun W q0 pv p0 => FsN.new_impl W q0 n0 (show QF.cost n0 ≤ 1048576 by omega) pv p0
    have HU0 : FsF.cost (FsV.newV n0) ≤ 1073741824 ∧ 1 + FsF.wid (FsV.newV n0) ≤ 1073741824 := (FsI.cost_new (show QF.cost n0 ≤ 1048576 by omega))
    generalize (FsV.newV n0) = res0 at hs hi HU0
    obtain ⟨hu0, hw0⟩ := HU0
    have HS := Lib.hid hs
    have HI := Lib.hid hi
    clear hs hi
    obtain ⟨K, hK⟩ : ∃ K, K = 1 + FsF.wid res0 := ⟨_, rfl⟩
    have HK := Lib.hid hK
    clear hK
    have HWID0 := Lib.hid (show 1 + QF.wid n0 ≤ 1073741824 from QF.wid_le hlen0)
    go_enter Tryz.func3, Tryz.ntmps3
    have HB := Lib.hid (Below.refl w.heap.size w)
    go_wp2_with fail
    refine (QF.sz_any _ v0 n0 1048576 (by omega) HM0.out (QF.holds_below HN0.out HB.out)).mono ?_
    rintro e w1 ⟨rfl, hb⟩
    have s1 := hb.size
    rw [HC0.out]
    replace HB := Lib.hid (HB.out.trans (hb.mono HB.out.size))
    clear hb
    go_wp2_with fail
    refine (QF.to_any _ v0 n0 (by omega) (QF.holds_below HN0.out HB.out)).mono ?_
    rintro e w2 ⟨k0, Sk0, rfl, hown, hb⟩
    have s2 := hb.size
    have hlies := QF.own_lies hown
    obtain ⟨k0a, k0c, rfl⟩ := QF.own_form hown
    have Hk0 := Lib.hid hown
    have LHk0 := Lib.hid hlies
    clear hown hlies
    replace HB := Lib.hid (HB.out.trans (hb.mono HB.out.size))
    clear hb
    go_wp2_with fail
    refine (HS.out _ (.slice k0a n0.length k0c) (HV.out.all HB.out) (QF.own_holds Hk0.out)).mono ?_
    rintro e w3 ⟨w, SW, rfl, hown, hb⟩
    have s3 := hb.size
    have hlies := FsF.own_lies hown
    obtain ⟨w0, w1a, w1n, w1c, w2a, w2n, w2c, w3a, w3n, w3c, rfl⟩ := FsF.own_form hown
    have RW := Lib.hid hown
    have LRW := Lib.hid hlies
    clear hown hlies
    replace HB := Lib.hid (HB.out.trans (hb.mono HB.out.size))
    replace Hk0 := Lib.hid (QF.own_below Hk0.out hb)
    clear hb
    clear Hk0 LHk0
    have hb := Joins.below_alloc1 w3 (.cells #[.int .i64 w0, .slice w1a w1n w1c, .slice w2a w2n w2c, .slice w3a w3n w3c] 28)
    replace HB := Lib.hid (HB.out.trans (hb.mono HB.out.size))
    replace RW := Lib.hid (FsF.own_below RW.out hb)
    have BW := Lib.hid (Bx.new_at w3 #[.int .i64 w0, .slice w1a w1n w1c, .slice w2a w2n w2c, .slice w3a w3n w3c] 28 (w3.heap.size) (by simp))
    clear hb
    obtain ⟨vBW0, vBW1, vBW2, vBW3⟩ := Bx.Bk.c4 BW.out
    go_wp2_with fail
    refine (QF.to_any _ v0 n0 (by omega) (QF.holds_below HN0.out HB.out)).mono ?_
    rintro e w4 ⟨x0, Sx0, rfl, hown, hb⟩
    have s4 := hb.size
    simp only [World.size_alloc] at s4
    clear vBW0 vBW1 vBW2 vBW3
    have hlies := QF.own_lies hown
    simp only [World.size_alloc] at hlies
    obtain ⟨x0a, x0c, rfl⟩ := QF.own_form hown
    have Hx0 := Lib.hid hown
    have LHx0 := Lib.hid hlies
    clear hown hlies
    replace HB := Lib.hid (HB.out.trans (hb.mono HB.out.size))
    replace BW := Lib.hid (Bx.Bk.all BW.out hb)
    replace RW := Lib.hid (FsF.own_below RW.out hb)
    clear hb
    obtain ⟨vBW0, vBW1, vBW2, vBW3⟩ := Bx.Bk.c4 BW.out
    go_wp2_with fail
    refine (HI.out _ (.slice x0a n0.length x0c) (HV.out.all HB.out) (QF.own_holds Hx0.out)).mono ?_
    rintro e w5 ⟨g, SG, rfl, hown, hb⟩
    have s5 := hb.size
    clear vBW0 vBW1 vBW2 vBW3
    have hlies := FsF.own_lies hown
    obtain ⟨g0, g1a, g1n, g1c, g2a, g2n, g2c, g3a, g3n, g3c, rfl⟩ := FsF.own_form hown
    have RG := Lib.hid hown
    have LRG := Lib.hid hlies
    clear hown hlies
    replace HB := Lib.hid (HB.out.trans (hb.mono HB.out.size))
    replace BW := Lib.hid (Bx.Bk.all BW.out hb)
    replace RW := Lib.hid (FsF.own_below RW.out hb)
    replace Hx0 := Lib.hid (QF.own_below Hx0.out hb)
    clear hb
    obtain ⟨vBW0, vBW1, vBW2, vBW3⟩ := Bx.Bk.c4 BW.out
    clear vBW0 vBW1 vBW2 vBW3
    have hb := Joins.below_alloc1 w5 (.cells #[.int .i64 g0, .slice g1a g1n g1c, .slice g2a g2n g2c, .slice g3a g3n g3c] 28)
    replace HB := Lib.hid (HB.out.trans (hb.mono HB.out.size))
    replace BW := Lib.hid (Bx.Bk.all BW.out hb)
    replace RW := Lib.hid (FsF.own_below RW.out hb)
    replace Hx0 := Lib.hid (QF.own_below Hx0.out hb)
    replace RG := Lib.hid (FsF.own_below RG.out hb)
    have BG := Lib.hid (Bx.new_at w5 #[.int .i64 g0, .slice g1a g1n g1c, .slice g2a g2n g2c, .slice g3a g3n g3c] 28 (w5.heap.size) (by simp))
    clear hb
    obtain ⟨vBW0, vBW1, vBW2, vBW3⟩ := Bx.Bk.c4 BW.out
    obtain ⟨vBG0, vBG1, vBG2, vBG3⟩ := Bx.Bk.c4 BG.out
    go_wp2_with fail
    refine (FsF.eq_any _ (.agg #[.int .i64 g0, .slice g1a g1n g1c, .slice g2a g2n g2c, .slice g3a g3n g3c]) (.agg #[.int .i64 w0, .slice w1a w1n w1c, .slice w2a w2n w2c, .slice w3a w3n w3c]) res0 (by omega) (FsF.own_holds RG.out) (FsF.own_holds RW.out)).mono ?_
    rintro e w6 ⟨rfl, hb⟩
    have s6 := hb.size
    simp only [World.size_alloc] at s6
    clear vBW0 vBW1 vBW2 vBW3 vBG0 vBG1 vBG2 vBG3
    replace HB := Lib.hid (HB.out.trans (hb.mono HB.out.size))
    replace BW := Lib.hid (Bx.Bk.all BW.out hb)
    replace BG := Lib.hid (Bx.Bk.all BG.out hb)
    replace RW := Lib.hid (FsF.own_below RW.out hb)
    replace Hx0 := Lib.hid (QF.own_below Hx0.out hb)
    replace RG := Lib.hid (FsF.own_below RG.out hb)
    clear hb
    obtain ⟨vBW0, vBW1, vBW2, vBW3⟩ := Bx.Bk.c4 BW.out
    obtain ⟨vBG0, vBG1, vBG2, vBG3⟩ := Bx.Bk.c4 BG.out
    go_wp2_with fail
    refine (QF.to_any _ v0 n0 (by omega) (QF.holds_below HN0.out HB.out)).mono ?_
    rintro e w7 ⟨z0, Sz0, rfl, hown, hb⟩
    have s7 := hb.size
    clear vBW0 vBW1 vBW2 vBW3 vBG0 vBG1 vBG2 vBG3
    have hlies := QF.own_lies hown
    obtain ⟨z0a, z0c, rfl⟩ := QF.own_form hown
    have Hz0 := Lib.hid hown
    have LHz0 := Lib.hid hlies
    clear hown hlies
    replace HB := Lib.hid (HB.out.trans (hb.mono HB.out.size))
    replace BW := Lib.hid (Bx.Bk.all BW.out hb)
    replace BG := Lib.hid (Bx.Bk.all BG.out hb)
    replace RW := Lib.hid (FsF.own_below RW.out hb)
    replace Hx0 := Lib.hid (QF.own_below Hx0.out hb)
    replace RG := Lib.hid (FsF.own_below RG.out hb)
    clear hb
    obtain ⟨vBW0, vBW1, vBW2, vBW3⟩ := Bx.Bk.c4 BW.out
    obtain ⟨vBG0, vBG1, vBG2, vBG3⟩ := Bx.Bk.c4 BG.out
    go_wp2_with fail
    refine (QF.eq_any _ (.slice x0a n0.length x0c) (.slice z0a n0.length z0c) n0 (by omega) (QF.own_holds Hx0.out) (QF.own_holds Hz0.out)).mono ?_
    rintro e w8 ⟨rfl, hb⟩
    have s8 := hb.size
    clear vBW0 vBW1 vBW2 vBW3 vBG0 vBG1 vBG2 vBG3
    replace HB := Lib.hid (HB.out.trans (hb.mono HB.out.size))
    replace BW := Lib.hid (Bx.Bk.all BW.out hb)
    replace BG := Lib.hid (Bx.Bk.all BG.out hb)
    replace RW := Lib.hid (FsF.own_below RW.out hb)
    replace Hx0 := Lib.hid (QF.own_below Hx0.out hb)
    replace RG := Lib.hid (FsF.own_below RG.out hb)
    replace Hz0 := Lib.hid (QF.own_below Hz0.out hb)
    clear hb
    obtain ⟨vBW0, vBW1, vBW2, vBW3⟩ := Bx.Bk.c4 BW.out
    obtain ⟨vBG0, vBG1, vBG2, vBG3⟩ := Bx.Bk.c4 BG.out
    clear Hz0 LHz0
    go_wp2_with fail
    refine (QF.mark_any _ _ (.slice x0a n0.length x0c) n0 _ 1 (by omega) (HWID0.out) Hx0.out).mono ?_
    rintro e w9 ⟨rfl, hown, hc⟩
    have s9 := hc.size
    clear vBW0 vBW1 vBW2 vBW3 vBG0 vBG1 vBG2 vBG3
    replace HB := Lib.hid (FlK.below_chg HB.out hc (by (try simp only [World.size_alloc]); omega) LHx0.out (by omega))
    replace BW := Lib.hid (FlK.bk_chg BW.out hc (by first | exact FlK.not_in_low LHx0.out (by omega) | exact FlK.not_in_high LHx0.out (by omega)))
    replace BG := Lib.hid (FlK.bk_chg BG.out hc (by first | exact FlK.not_in_low LHx0.out (by omega) | exact FlK.not_in_high LHx0.out (by omega)))
    replace RW := Lib.hid (FsF.own_chg RW.out hc (Foot.Lies.apart LRW.out LHx0.out (by omega)))
    replace RG := Lib.hid (FsF.own_chg RG.out hc (FlK.lies_apart LHx0.out LRG.out (by omega)))
    replace Hx0 := Lib.hid hown
    clear hown hc
    generalize 1 + QF.wid n0 = K0
    obtain ⟨vBW0, vBW1, vBW2, vBW3⟩ := Bx.Bk.c4 BW.out
    obtain ⟨vBG0, vBG1, vBG2, vBG3⟩ := Bx.Bk.c4 BG.out
    clear Hx0 LHx0
    go_wp2_with fail
    refine (FsF.eq_any _ (.agg #[.int .i64 g0, .slice g1a g1n g1c, .slice g2a g2n g2c, .slice g3a g3n g3c]) (.agg #[.int .i64 w0, .slice w1a w1n w1c, .slice w2a w2n w2c, .slice w3a w3n w3c]) res0 (by omega) (FsF.own_holds RG.out) (FsF.own_holds RW.out)).mono ?_
    rintro e w10 ⟨rfl, hb⟩
    have s10 := hb.size
    clear vBW0 vBW1 vBW2 vBW3 vBG0 vBG1 vBG2 vBG3
    replace HB := Lib.hid (HB.out.trans (hb.mono HB.out.size))
    replace BW := Lib.hid (Bx.Bk.all BW.out hb)
    replace BG := Lib.hid (Bx.Bk.all BG.out hb)
    replace RW := Lib.hid (FsF.own_below RW.out hb)
    replace RG := Lib.hid (FsF.own_below RG.out hb)
    clear hb
    obtain ⟨vBW0, vBW1, vBW2, vBW3⟩ := Bx.Bk.c4 BW.out
    obtain ⟨vBG0, vBG1, vBG2, vBG3⟩ := Bx.Bk.c4 BG.out
    go_wp2_with fail
    refine (FsF.mark_any _ _ (.agg #[.int .i64 g0, .slice g1a g1n g1c, .slice g2a g2n g2c, .slice g3a g3n g3c]) res0 _ 1 (by omega) (by omega) RG.out).mono ?_
    rintro e w11 ⟨rfl, hown, hc⟩
    have s11 := hc.size
    clear vBW0 vBW1 vBW2 vBW3 vBG0 vBG1 vBG2 vBG3
    replace HB := Lib.hid (FlK.below_chg HB.out hc (by (try simp only [World.size_alloc]); omega) LRG.out (by omega))
    replace BW := Lib.hid (FlK.bk_chg BW.out hc (by first | exact FlK.not_in_low LRG.out (by omega) | exact FlK.not_in_high LRG.out (by omega)))
    replace BG := Lib.hid (FlK.bk_chg BG.out hc (by first | exact FlK.not_in_low LRG.out (by omega) | exact FlK.not_in_high LRG.out (by omega)))
    replace RW := Lib.hid (FsF.own_chg RW.out hc (Foot.Lies.apart LRW.out LRG.out (by omega)))
    replace RG := Lib.hid hown
    clear hown hc
    rw [← HK.out]
    obtain ⟨vBW0, vBW1, vBW2, vBW3⟩ := Bx.Bk.c4 BW.out
    obtain ⟨vBG0, vBG1, vBG2, vBG3⟩ := Bx.Bk.c4 BG.out
    go_wp2_with fail
    refine (FsF.held_any _ (.agg #[.int .i64 g0, .slice g1a g1n g1c, .slice g2a g2n g2c, .slice g3a g3n g3c]) res0 1 (by omega) (by omega) (FsF.own_holds RG.out)).mono ?_
    rintro e w12 ⟨rfl, hb⟩
    have s12 := hb.size
    clear vBW0 vBW1 vBW2 vBW3 vBG0 vBG1 vBG2 vBG3
    rw [← HK.out]
    replace HB := Lib.hid (HB.out.trans (hb.mono HB.out.size))
    replace BW := Lib.hid (Bx.Bk.all BW.out hb)
    replace BG := Lib.hid (Bx.Bk.all BG.out hb)
    replace RW := Lib.hid (FsF.own_below RW.out hb)
    replace RG := Lib.hid (FsF.own_below RG.out hb)
    clear hb
    obtain ⟨vBW0, vBW1, vBW2, vBW3⟩ := Bx.Bk.c4 BW.out
    obtain ⟨vBG0, vBG1, vBG2, vBG3⟩ := Bx.Bk.c4 BG.out
    go_wp2_with fail
    refine (QF.to_any _ v0 n0 (by omega) (QF.holds_below HN0.out HB.out)).mono ?_
    rintro e w13 ⟨z0, Sz0, rfl, hown, hb⟩
    have s13 := hb.size
    clear vBW0 vBW1 vBW2 vBW3 vBG0 vBG1 vBG2 vBG3
    have hlies := QF.own_lies hown
    obtain ⟨z0a, z0c, rfl⟩ := QF.own_form hown
    have Hz0 := Lib.hid hown
    have LHz0 := Lib.hid hlies
    clear hown hlies
    replace HB := Lib.hid (HB.out.trans (hb.mono HB.out.size))
    replace BW := Lib.hid (Bx.Bk.all BW.out hb)
    replace BG := Lib.hid (Bx.Bk.all BG.out hb)
    replace RW := Lib.hid (FsF.own_below RW.out hb)
    replace RG := Lib.hid (FsF.own_below RG.out hb)
    clear hb
    obtain ⟨vBW0, vBW1, vBW2, vBW3⟩ := Bx.Bk.c4 BW.out
    obtain ⟨vBG0, vBG1, vBG2, vBG3⟩ := Bx.Bk.c4 BG.out
    go_wp2_with fail
    refine (HI.out _ (.slice z0a n0.length z0c) (HV.out.all HB.out) (QF.own_holds Hz0.out)).mono ?_
    rintro e w14 ⟨h, SH, rfl, hown, hb⟩
    have s14 := hb.size
    clear vBW0 vBW1 vBW2 vBW3 vBG0 vBG1 vBG2 vBG3
    have hlies := FsF.own_lies hown
    obtain ⟨h0, h1a, h1n, h1c, h2a, h2n, h2c, h3a, h3n, h3c, rfl⟩ := FsF.own_form hown
    have RH := Lib.hid hown
    have LRH := Lib.hid hlies
    clear hown hlies
    replace HB := Lib.hid (HB.out.trans (hb.mono HB.out.size))
    replace BW := Lib.hid (Bx.Bk.all BW.out hb)
    replace BG := Lib.hid (Bx.Bk.all BG.out hb)
    replace RW := Lib.hid (FsF.own_below RW.out hb)
    replace RG := Lib.hid (FsF.own_below RG.out hb)
    replace Hz0 := Lib.hid (QF.own_below Hz0.out hb)
    clear hb
    obtain ⟨vBW0, vBW1, vBW2, vBW3⟩ := Bx.Bk.c4 BW.out
    obtain ⟨vBG0, vBG1, vBG2, vBG3⟩ := Bx.Bk.c4 BG.out
    clear Hz0 LHz0
    clear vBW0 vBW1 vBW2 vBW3 vBG0 vBG1 vBG2 vBG3
    have hb := Joins.below_alloc1 w14 (.cells #[.int .i64 h0, .slice h1a h1n h1c, .slice h2a h2n h2c, .slice h3a h3n h3c] 28)
    replace HB := Lib.hid (HB.out.trans (hb.mono HB.out.size))
    replace BW := Lib.hid (Bx.Bk.all BW.out hb)
    replace BG := Lib.hid (Bx.Bk.all BG.out hb)
    replace RW := Lib.hid (FsF.own_below RW.out hb)
    replace RG := Lib.hid (FsF.own_below RG.out hb)
    replace RH := Lib.hid (FsF.own_below RH.out hb)
    have BH := Lib.hid (Bx.new_at w14 #[.int .i64 h0, .slice h1a h1n h1c, .slice h2a h2n h2c, .slice h3a h3n h3c] 28 (w14.heap.size) (by simp))
    clear hb
    obtain ⟨vBW0, vBW1, vBW2, vBW3⟩ := Bx.Bk.c4 BW.out
    obtain ⟨vBG0, vBG1, vBG2, vBG3⟩ := Bx.Bk.c4 BG.out
    obtain ⟨vBH0, vBH1, vBH2, vBH3⟩ := Bx.Bk.c4 BH.out
    go_wp2_with fail
    refine (FsF.eq_any _ (.agg #[.int .i64 h0, .slice h1a h1n h1c, .slice h2a h2n h2c, .slice h3a h3n h3c]) (.agg #[.int .i64 w0, .slice w1a w1n w1c, .slice w2a w2n w2c, .slice w3a w3n w3c]) res0 (by omega) (FsF.own_holds RH.out) (FsF.own_holds RW.out)).mono ?_
    rintro e w15 ⟨rfl, hb⟩
    have s15 := hb.size
    simp only [World.size_alloc] at s15
    clear vBW0 vBW1 vBW2 vBW3 vBG0 vBG1 vBG2 vBG3 vBH0 vBH1 vBH2 vBH3
    replace HB := Lib.hid (HB.out.trans (hb.mono HB.out.size))
    replace BW := Lib.hid (Bx.Bk.all BW.out hb)
    replace BG := Lib.hid (Bx.Bk.all BG.out hb)
    replace BH := Lib.hid (Bx.Bk.all BH.out hb)
    replace RW := Lib.hid (FsF.own_below RW.out hb)
    replace RG := Lib.hid (FsF.own_below RG.out hb)
    replace RH := Lib.hid (FsF.own_below RH.out hb)
    clear hb
    obtain ⟨vBW0, vBW1, vBW2, vBW3⟩ := Bx.Bk.c4 BW.out
    obtain ⟨vBG0, vBG1, vBG2, vBG3⟩ := Bx.Bk.c4 BG.out
    obtain ⟨vBH0, vBH1, vBH2, vBH3⟩ := Bx.Bk.c4 BH.out
    go_wp2_with fail
    refine (FsF.held_any _ (.agg #[.int .i64 g0, .slice g1a g1n g1c, .slice g2a g2n g2c, .slice g3a g3n g3c]) res0 1 (by omega) (by omega) (FsF.own_holds RG.out)).mono ?_
    rintro e w16 ⟨rfl, hb⟩
    have s16 := hb.size
    clear vBW0 vBW1 vBW2 vBW3 vBG0 vBG1 vBG2 vBG3 vBH0 vBH1 vBH2 vBH3
    rw [← HK.out]
    replace HB := Lib.hid (HB.out.trans (hb.mono HB.out.size))
    replace BW := Lib.hid (Bx.Bk.all BW.out hb)
    replace BG := Lib.hid (Bx.Bk.all BG.out hb)
    replace BH := Lib.hid (Bx.Bk.all BH.out hb)
    replace RW := Lib.hid (FsF.own_below RW.out hb)
    replace RG := Lib.hid (FsF.own_below RG.out hb)
    replace RH := Lib.hid (FsF.own_below RH.out hb)
    clear hb
    obtain ⟨vBW0, vBW1, vBW2, vBW3⟩ := Bx.Bk.c4 BW.out
    obtain ⟨vBG0, vBG1, vBG2, vBG3⟩ := Bx.Bk.c4 BG.out
    obtain ⟨vBH0, vBH1, vBH2, vBH3⟩ := Bx.Bk.c4 BH.out
    go_wp2
    go_ret
    exact ⟨rfl, HB.out⟩
  · have HC0 := Lib.hid (show costOf (QF.cost n0) 1048576 = -1 from cost_neg hc0)
    clear hc0
    go_enter Tryz.func3, Tryz.ntmps3
    have HB := Lib.hid (Below.refl w.heap.size w)
    go_wp2_with fail
    refine (QF.sz_any _ v0 n0 1048576 (by omega) HM0.out (QF.holds_below HN0.out HB.out)).mono ?_
    rintro e w1 ⟨rfl, hb⟩
    have s1 := hb.size
    rw [HC0.out]
    replace HB := Lib.hid (HB.out.trans (hb.mono HB.out.size))
    clear hb
    go_wp2
    go_ret
    exact ⟨rfl, HB.out⟩
set_option maxRecDepth 100000 in
theorem lifted (os : Os) (started : os.Started) (H : Type) (enc : TypeId × Value → H) :
    ReturnsInHanded {} Tryz.checked os 3 .any (fun w args => (Rows.fnExactNewFSSpec.pre enc Tryz.prog Tryz.f3 [] false w args ∧ laidMetH Tryz.prog Rows.fnExactNewFSRow.laid w) ∧ sizedMet enc Tryz.prog Tryz.f3 (OpenSpec.ofChange Rows.fnExactNewFSSpec) false w args)
      (Rows.fnExactNewFSSpec.post enc Tryz.prog Tryz.f3 false true false false) := by
  refine returnsInHanded_of_change_and (C := Tryz.checked) (X := fun w _ => laidMetH Tryz.prog Rows.fnExactNewFSRow.laid w) (fun _ _ _ hh h => h.of_heap hh) Kit.own started (by kernel_rfl) Tryz.func3
    (ChangeSpec.witness_shaped (enc := enc) (C := Tryz.checked) (os := os) (X := fun w _ => laidMetH Tryz.prog Rows.fnExactNewFSRow.laid w) false (World.laidAll Tryz.prog os Rows.fnExactNewFSRow.laid) #[.slice none 0 0] 8 (World.laidAll_os _ _ _)
      (World.shaped_of_ZipB (by kernel_rfl) (by kernel_rfl)) (by kernel_rfl) (by kernel_rfl) (by kernel_rfl)
      (by rw [MakeChecks.laidMetH_plain _ _ _ (by kernel_rfl)]; exact laidMet_laidAll _ (by kernel_rfl) (by kernel_rfl))) ?_
  intro W base args ds gs before hval0 hW _ _ hL _
  have hval : ∀ (j : Nat) t v, Tryz.f3.params[j]? = some t → args[j]? = some v → Value.okWide Tryz.prog W .any base t v := hval0
  have hW' := hW
  obtain ⟨p, q, hA0, hV, rfl, hfz, hnd⟩ := hW
  have hA : DataW.TrodAll enc Tryz.prog W 0 (fun _ => true) true Tryz.f3.params.toList args.toList ds p := hA0
  rw [Tryz.params3] at hA hval
  obtain ⟨v0, d0, rfl, rfl, h0⟩ := trodAll_one hA
  obtain ⟨a0, w0⟩ := QF.in_any (hval 0 22 v0 rfl rfl) h0
  refine (law_any _ a0 W w0 (LaidM.vars_of hL)).mono fun e W' ⟨he, hb⟩ => ?_
  subst he
  exact ⟨_, rfl, KitV.law_post Kit.laidOut (by kernel_rfl) (by kernel_rfl) Tryz.underlying4 rfl (fun H ds gs hl hg => by match ds, gs, hl, hg with | [d0], [g0], _, _ => rfl) hW' hb⟩

theorem said : Rows.FnExactNewFSSaid :=
  OpenClaim.holds_of_wide 3 Tryz.f3 rfl rfl rfl rfl rfl rfl rfl ⟨rfl, rfl, rfl, rfl, rfl⟩ rfl rfl rfl rfl rfl (by kernel_rfl) Tryz.func3 (by kernel_rfl)
    (of_decide_eq_true (by kernel_rfl)) (by unfold Func.isWrapper; first | (rw [if_pos (by decide +kernel)]; kernel_rfl) | (rw [if_neg (by decide +kernel)]; exact ⟨rfl, rfl⟩))
    (fun os started H enc _ => lifted os started H enc)

theorem plain (f : FuncId) (fn : Func) (hf : Tryz.pinned.checked.prog.funcNamed "loop.example/g00817/laws.FnExactNewFS" = some f) (hfn : Tryz.pinned.checked.prog.funcs[f]? = some fn) :
    Rows.fnExactNewFSCard.stood.looks = Tryz.pinned.checked.prog.looks [] ∧ ∀ (j : Nat) t, fn.params[j]? = some t → Tryz.pinned.checked.prog.wantsStandIn t = false := by
  obtain rfl : f = 3 := Option.some.inj ((show Tryz.prog.funcNamed "loop.example/g00817/laws.FnExactNewFS" = some 3 by kernel_rfl).symm.trans hf) |>.symm
  obtain rfl : fn = Tryz.f3 := (Option.some.inj (Tryz.func3.symm.trans hfn)).symm
  refine ⟨by kernel_rfl, fun j t ht => ?_⟩
  rw [Tryz.params3] at ht
  have hm : t ∈ [22] := by simpa using Array.mem_of_getElem? ht
  have hall : ([22].all fun u => !Tryz.prog.wantsStandIn u) = true := by kernel_rfl
  exact (show Tryz.prog.wantsStandIn t = false by simpa using List.all_eq_true.1 hall t hm)

theorem holds : Rows.FnExactNewFSCardSaid :=
  Claim7.holds_tied_plain_at .later [] _ _ _ _ said (fun _ h => by cases h) (by kernel_rfl) (fun _ h => by cases h) fnExactNewFS_row_tie rfl ⟨rfl, rfl⟩ (by kernel_rfl) rfl plain (by kernel_rfl)
#print axioms holds
end Go.Proofs.YtmljjdglmlnbaaaGreatDoor.NewFSLaw