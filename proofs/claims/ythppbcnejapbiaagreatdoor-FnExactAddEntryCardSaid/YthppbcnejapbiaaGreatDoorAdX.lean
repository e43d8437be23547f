/- Helper texts joined, one behind another (a claim has at most 60 files): what each proves, its own head says: YthppbcnejapbiaaGreatDoorAddEntryLawA. -/
import Derived.Test.YthppbcnejapbiaaGreatDoorAdB
import Derived.Test.YthppbcnejapbiaaGreatDoorAdC
import Derived.Test.YthppbcnejapbiaaGreatDoorAdJ
import Derived.Test.YthppbcnejapbiaaGreatDoorAdQ
set_option linter.unusedSimpArgs false

-- YthppbcnejapbiaaGreatDoorAddEntryLawA
/- A part. -/
namespace Go.Proofs.YthppbcnejapbiaaGreatDoor.AddEntryLaw
open Go.ChangeShapes Go.WideShapes Go.ChangeAt Go.RowKit
open Go.ChangeMaps (open_string shut_string)
open Foot
set_option linter.unusedVariables false
set_option maxRecDepth 100000 in
set_option maxHeartbeats 6400000 in
theorem law_any (v0 : Value) (n0 : FsF.L) (d : Int) (s : ByteArray) (i : Int) (w : World) (h0 : FsF.Lim n0 /\ FsF.Holds w v0 n0) (hr1 : (Lit.int .i64 d).wf = true) (hz2 : s.size <= maxLen) (hr3 : (Lit.int .i64 i).wf = true) (hv : InOk.Vars w) :
  Calls Tryz.prog 5 #[v0, .int .i64 d, .string s, .int .i64 i] w fun e w' => e = .returned (.bool true) /\ Below w.heap.size w w' := by
 have HV := Lib.hid hv
 clear hv
 obtain ⟨v0x0, v0x1a, v0x1n, v0x1c, v0x2a, v0x2n, v0x2c, v0x3a, v0x3n, v0x3c, rfl⟩ := FsF.form h0.2
 have HN0 := Lib.hid h0.2
 have HM0 := Lib.hid h0.1
 clear h0
 unfold maxLen at hz2
 by_cases hsz2 : s.size <= 1048576
 rotate_left
 ·have q9 : decide (1048576 < (s.size : Int)) = true := decide_eq_true (by omega)
  go_enter Tryz.func5, Tryz.ntmps5
  have HB := Lib.hid (Below.refl w.heap.size w)
  have hb := Joins.below_alloc1 w (.cells #[.int .i64 v0x0, .slice v0x1a v0x1n v0x1c, .slice v0x2a v0x2n v0x2c, .slice v0x3a v0x3n v0x3c] 26)
  replace HB := Lib.hid (HB.out.trans (hb.mono HB.out.size))
  have BA0 := Lib.hid (Bx.new_at w #[.int .i64 v0x0, .slice v0x1a v0x1n v0x1c, .slice v0x2a v0x2n v0x2c, .slice v0x3a v0x3n v0x3c] 26 (w.heap.size) (by simp))
  clear hb
  obtain ⟨vBA00, vBA01, vBA02, vBA03⟩ := Bx.Bk.c4 BA0.out
  go_wp2
  go_ret
  exact ⟨rfl, HB.out⟩
 have q9_2 : decide (1048576 < (s.size : Int)) = false := decide_eq_false (by omega)
 by_cases hc0 : FsF.cost n0 <= 1048576
 ·obtain ⟨r0, hr0⟩ : ∃ r0 : Nat, r0 = 1048576 - FsF.cost n0 := ⟨_, rfl⟩
  have HC0 := Lib.hid (show costOf (FsF.cost n0) 1048576 = (r0 : Int) by rw [hr0]; exact cost_pos hc0)
  have hle0 : r0 <= 1048576 := by omega
  have hlen0 : FsF.cost n0 <= 1048576 := by omega
  clear hr0 hc0
  have hs : ∀ (W : World) (q0 : Value), InOk.Vars W -> FsF.Holds W q0 n0 -> Calls Tryz.prog 23 #[q0, .int .i64 d, .string s, .int .i64 i] W fun e w' => ∃ (y0 : Value) (S0 : List Nat), e = .returned (.tuple #[y0, (.int .i64 (EnA.addV n0 d s i).2)]) /\ FsF.Own w' W.heap.size y0 (EnA.addV n0 d s i).1 S0 /\ Below W.heap.size W w' := fun W q0 pv p0 => EnB.add_spec W q0 n0 d s i (by omega) HM0.out (by omega) p0
  have hi : ∀ (W : World) (q0 : Value), InOk.Vars W -> FsF.Holds W q0 n0 -> Calls Tryz.prog 24 #[q0, .int .i64 d, .string s, .int .i64 i] W fun e w' => ∃ (y0 : Value) (S0 : List Nat), e = .returned (.tuple #[y0, (.int .i64 (EnA.addV n0 d s i).2)]) /\ FsF.Own w' W.heap.size y0 (EnA.addV n0 d s i).1 S0 /\ Below W.heap.size W w' := fun W q0 pv p0 => EnA.add_impl W q0 n0 d s i (by omega) HM0.out pv (by omega) p0
  have HU0 : FsF.cost (EnA.addV n0 d s i).1 <= 1073741824 /\ 1 + FsF.wid (EnA.addV n0 d s i).1 <= 1073741824 := EnB.add_both hlen0
  generalize (EnA.addV n0 d s i).1 = res0 at hs hi HU0
  obtain ⟨hu0, hw0⟩ := HU0
  have HS := Lib.hid hs
  have HI := Lib.hid hi
  clear hs hi
  obtain ⟨K, hK⟩ : ∃ K, K = 1 + FsF.wid res0 := ⟨_, rfl⟩
  have HK := Lib.hid hK
  clear hK
  have HWID0 := Lib.hid (show 1 + FsF.wid n0 <= 1073741824 from FsF.wid_le hlen0)
  go_enter Tryz.func5, Tryz.ntmps5
  have HB := Lib.hid (Below.refl w.heap.size w)
  have hb := Joins.below_alloc1 w (.cells #[.int .i64 v0x0, .slice v0x1a v0x1n v0x1c, .slice v0x2a v0x2n v0x2c, .slice v0x3a v0x3n v0x3c] 26)
  replace HB := Lib.hid (HB.out.trans (hb.mono HB.out.size))
  have BA0 := Lib.hid (Bx.new_at w #[.int .i64 v0x0, .slice v0x1a v0x1n v0x1c, .slice v0x2a v0x2n v0x2c, .slice v0x3a v0x3n v0x3c] 26 (w.heap.size) (by simp))
  clear hb
  obtain ⟨vBA00, vBA01, vBA02, vBA03⟩ := Bx.Bk.c4 BA0.out
  go_wp2_with fail
  refine (FsF.sz_any _ (.agg #[.int .i64 v0x0, .slice v0x1a v0x1n v0x1c, .slice v0x2a v0x2n v0x2c, .slice v0x3a v0x3n v0x3c]) n0 1048576 (by omega) HM0.out (FsF.holds_below HN0.out HB.out)).mono ?_
  rintro e w1 ⟨rfl, hb⟩
  have s1 := hb.size
  simp only [World.size_alloc] at s1
  clear vBA00 vBA01 vBA02 vBA03
  rw [HC0.out]
  replace HB := Lib.hid (HB.out.trans (hb.mono HB.out.size))
  replace BA0 := Lib.hid (Bx.Bk.all BA0.out hb)
  clear hb
  obtain ⟨vBA00, vBA01, vBA02, vBA03⟩ := Bx.Bk.c4 BA0.out
  go_wp2_with fail
  refine (FsF.to_any _ (.agg #[.int .i64 v0x0, .slice v0x1a v0x1n v0x1c, .slice v0x2a v0x2n v0x2c, .slice v0x3a v0x3n v0x3c]) n0 (by omega) (FsF.holds_below HN0.out HB.out)).mono ?_
  rintro e w2 ⟨k0, Sk0, rfl, hown, hb⟩
  have s2 := hb.size
  clear vBA00 vBA01 vBA02 vBA03
  have hlies := FsF.own_lies hown
  obtain ⟨k00, k01a, k01n, k01c, k02a, k02n, k02c, k03a, k03n, k03c, rfl⟩ := FsF.own_form hown
  have Hk0 := Lib.hid hown
  have LHk0 := Lib.hid hlies
  clear hown hlies
  replace HB := Lib.hid (HB.out.trans (hb.mono HB.out.size))
  replace BA0 := Lib.hid (Bx.Bk.all BA0.out hb)
  clear hb
  obtain ⟨vBA00, vBA01, vBA02, vBA03⟩ := Bx.Bk.c4 BA0.out
  go_wp2_with fail
  refine (HS.out _ (.agg #[.int .i64 k00, .slice k01a k01n k01c, .slice k02a k02n k02c, .slice k03a k03n k03c]) (HV.out.all HB.out) (FsF.own_holds Hk0.out)).mono ?_
  rintro e w3 ⟨w, SW, rfl, hown, hb⟩
  have s3 := hb.size
  clear vBA00 vBA01 vBA02 vBA03
  have hlies := FsF.own_lies hown
  obtain ⟨w0, w1a, w1n, w1c, w2a, w2n, w2c, w3a, w3n, w3c, rfl⟩ := FsF.own_form hown
  have RW := Lib.hid hown
  have LRW := Lib.hid hlies
  clear hown hlies
  replace HB := Lib.hid (HB.out.trans (hb.mono HB.out.size))
  replace BA0 := Lib.hid (Bx.Bk.all BA0.out hb)
  replace Hk0 := Lib.hid (FsF.own_below Hk0.out hb)
  clear hb
  obtain ⟨vBA00, vBA01, vBA02, vBA03⟩ := Bx.Bk.c4 BA0.out
  clear Hk0 LHk0
  clear vBA00 vBA01 vBA02 vBA03
  have hb := Joins.below_alloc1 w3 (.cells #[.int .i64 w0, .slice w1a w1n w1c, .slice w2a w2n w2c, .slice w3a w3n w3c] 33)
  replace HB := Lib.hid (HB.out.trans (hb.mono HB.out.size))
  replace BA0 := Lib.hid (Bx.Bk.all BA0.out hb)
  replace RW := Lib.hid (FsF.own_below RW.out hb)
  have BW := Lib.hid (Bx.new_at w3 #[.int .i64 w0, .slice w1a w1n w1c, .slice w2a w2n w2c, .slice w3a w3n w3c] 33 (w3.heap.size) (by simp))
  clear hb
  obtain ⟨vBA00, vBA01, vBA02, vBA03⟩ := Bx.Bk.c4 BA0.out
  obtain ⟨vBW0, vBW1, vBW2, vBW3⟩ := Bx.Bk.c4 BW.out
  go_wp2_with fail
  refine (FsF.to_any _ (.agg #[.int .i64 v0x0, .slice v0x1a v0x1n v0x1c, .slice v0x2a v0x2n v0x2c, .slice v0x3a v0x3n v0x3c]) n0 (by omega) (FsF.holds_below HN0.out HB.out)).mono ?_
  rintro e w4 ⟨x0, Sx0, rfl, hown, hb⟩
  have s4 := hb.size
  simp only [World.size_alloc] at s4
  clear vBA00 vBA01 vBA02 vBA03 vBW0 vBW1 vBW2 vBW3
  have hlies := FsF.own_lies hown
  simp only [World.size_alloc] at hlies
  obtain ⟨x00, x01a, x01n, x01c, x02a, x02n, x02c, x03a, x03n, x03c, rfl⟩ := FsF.own_form hown
  have Hx0 := Lib.hid hown
  have LHx0 := Lib.hid hlies
  clear hown hlies
  replace HB := Lib.hid (HB.out.trans (hb.mono HB.out.size))
  replace BA0 := Lib.hid (Bx.Bk.all BA0.out hb)
  replace BW := Lib.hid (Bx.Bk.all BW.out hb)
  replace RW := Lib.hid (FsF.own_below RW.out hb)
  clear hb
  obtain ⟨vBA00, vBA01, vBA02, vBA03⟩ := Bx.Bk.c4 BA0.out
  obtain ⟨vBW0, vBW1, vBW2, vBW3⟩ := Bx.Bk.c4 BW.out
  clear vBA00 vBA01 vBA02 vBA03 vBW0 vBW1 vBW2 vBW3
  have hb := Joins.below_alloc1 w4 (.cells #[.int .i64 x00, .slice x01a x01n x01c, .slice x02a x02n x02c, .slice x03a x03n x03c] 33)
  replace HB := Lib.hid (HB.out.trans (hb.mono HB.out.size))
  replace BA0 := Lib.hid (Bx.Bk.all BA0.out hb)
  replace BW := Lib.hid (Bx.Bk.all BW.out hb)
  replace RW := Lib.hid (FsF.own_below RW.out hb)
  replace Hx0 := Lib.hid (FsF.own_below Hx0.out hb)
  have BX0 := Lib.hid (Bx.new_at w4 #[.int .i64 x00, .slice x01a x01n x01c, .slice x02a x02n x02c, .slice x03a x03n x03c] 33 (w4.heap.size) (by simp))
  clear hb
  obtain ⟨vBA00, vBA01, vBA02, vBA03⟩ := Bx.Bk.c4 BA0.out
  obtain ⟨vBW0, vBW1, vBW2, vBW3⟩ := Bx.Bk.c4 BW.out
  obtain ⟨vBX00, vBX01, vBX02, vBX03⟩ := Bx.Bk.c4 BX0.out
  go_wp2_with fail
  refine (HI.out _ (.agg #[.int .i64 x00, .slice x01a x01n x01c, .slice x02a x02n x02c, .slice x03a x03n x03c]) (HV.out.all HB.out) (FsF.own_holds Hx0.out)).mono ?_
  rintro e w5 ⟨g, SG, rfl, hown, hb⟩
  have s5 := hb.size
  simp only [World.size_alloc] at s5
  clear vBA00 vBA01 vBA02 vBA03 vBW0 vBW1 vBW2 vBW3 vBX00 vBX01 vBX02 vBX03
  have hlies := FsF.own_lies hown
  simp only [World.size_alloc] at hlies
  obtain ⟨g0, g1a, g1n, g1c, g2a, g2n, g2c, g3a, g3n, g3c, rfl⟩ := FsF.own_form hown
  have RG := Lib.hid hown
  have LRG := Lib.hid hlies
  clear hown hlies
  replace HB := Lib.hid (HB.out.trans (hb.mono HB.out.size))
  replace BA0 := Lib.hid (Bx.Bk.all BA0.out hb)
  replace BW := Lib.hid (Bx.Bk.all BW.out hb)
  replace BX0 := Lib.hid (Bx.Bk.all BX0.out hb)
  replace RW := Lib.hid (FsF.own_below RW.out hb)
  replace Hx0 := Lib.hid (FsF.own_below Hx0.out hb)
  clear hb
  obtain ⟨vBA00, vBA01, vBA02, vBA03⟩ := Bx.Bk.c4 BA0.out
  obtain ⟨vBW0, vBW1, vBW2, vBW3⟩ := Bx.Bk.c4 BW.out
  obtain ⟨vBX00, vBX01, vBX02, vBX03⟩ := Bx.Bk.c4 BX0.out
  clear vBA00 vBA01 vBA02 vBA03 vBW0 vBW1 vBW2 vBW3 vBX00 vBX01 vBX02 vBX03
  have hb := Joins.below_alloc1 w5 (.cells #[.int .i64 g0, .slice g1a g1n g1c, .slice g2a g2n g2c, .slice g3a g3n g3c] 33)
  replace HB := Lib.hid (HB.out.trans (hb.mono HB.out.size))
  replace BA0 := Lib.hid (Bx.Bk.all BA0.out hb)
  replace BW := Lib.hid (Bx.Bk.all BW.out hb)
  replace BX0 := Lib.hid (Bx.Bk.all BX0.out hb)
  replace RW := Lib.hid (FsF.own_below RW.out hb)
  replace Hx0 := Lib.hid (FsF.own_below Hx0.out hb)
  replace RG := Lib.hid (FsF.own_below RG.out hb)
  have BG := Lib.hid (Bx.new_at w5 #[.int .i64 g0, .slice g1a g1n g1c, .slice g2a g2n g2c, .slice g3a g3n g3c] 33 (w5.heap.size) (by simp))
  clear hb
  obtain ⟨vBA00, vBA01, vBA02, vBA03⟩ := Bx.Bk.c4 BA0.out
  obtain ⟨vBW0, vBW1, vBW2, vBW3⟩ := Bx.Bk.c4 BW.out
  obtain ⟨vBX00, vBX01, vBX02, vBX03⟩ := Bx.Bk.c4 BX0.out
  obtain ⟨vBG0, vBG1, vBG2, vBG3⟩ := Bx.Bk.c4 BG.out
  go_wp2_with fail
  refine (FsF.eq_any _ (.agg #[.int .i64 g0, .slice g1a g1n g1c, .slice g2a g2n g2c, .slice g3a g3n g3c]) (.agg #[.int .i64 w0, .slice w1a w1n w1c, .slice w2a w2n w2c, .slice w3a w3n w3c]) res0 (by omega) (FsF.own_holds RG.out) (FsF.own_holds RW.out)).mono ?_
  rintro e w6 ⟨rfl, hb⟩
  have s6 := hb.size
  simp only [World.size_alloc] at s6
  clear vBA00 vBA01 vBA02 vBA03 vBW0 vBW1 vBW2 vBW3 vBX00 vBX01 vBX02 vBX03 vBG0 vBG1 vBG2 vBG3
  replace HB := Lib.hid (HB.out.trans (hb.mono HB.out.size))
  replace BA0 := Lib.hid (Bx.Bk.all BA0.out hb)
  replace BW := Lib.hid (Bx.Bk.all BW.out hb)
  replace BX0 := Lib.hid (Bx.Bk.all BX0.out hb)
  replace BG := Lib.hid (Bx.Bk.all BG.out hb)
  replace RW := Lib.hid (FsF.own_below RW.out hb)
  replace Hx0 := Lib.hid (FsF.own_below Hx0.out hb)
  replace RG := Lib.hid (FsF.own_below RG.out hb)
  clear hb
  obtain ⟨vBA00, vBA01, vBA02, vBA03⟩ := Bx.Bk.c4 BA0.out
  obtain ⟨vBW0, vBW1, vBW2, vBW3⟩ := Bx.Bk.c4 BW.out
  obtain ⟨vBX00, vBX01, vBX02, vBX03⟩ := Bx.Bk.c4 BX0.out
  obtain ⟨vBG0, vBG1, vBG2, vBG3⟩ := Bx.Bk.c4 BG.out
  have TK := Lib.hid trivial
  go_wp2
  go_region_held3 (fun w' => (w'.cell? ⟨w.heap.size, 0, none⟩ = some (.int .i64 v0x0) /\ w'.cell? ⟨w.heap.size, 1, none⟩ = some (.slice v0x1a v0x1n v0x1c) /\ w'.cell? ⟨w.heap.size, 2, none⟩ = some (.slice v0x2a v0x2n v0x2c) /\ w'.cell? ⟨w.heap.size, 3, none⟩ = some (.slice v0x3a v0x3n v0x3c)) /\ (w'.cell? ⟨w4.heap.size, 0, none⟩ = some (.int .i64 x00) /\ w'.cell? ⟨w4.heap.size, 1, none⟩ = some (.slice x01a x01n x01c) /\ w'.cell? ⟨w4.heap.size, 2, none⟩ = some (.slice x02a x02n x02c) /\ w'.cell? ⟨w4.heap.size, 3, none⟩ = some (.slice x03a x03n x03c))) ((first | exact ⟨Bx.Bk.c4 BA0.out, Bx.Bk.c4 BX0.out⟩ | go_keep))
   (first
    | (go_at_call 14; (try (have _q := TK.out; clear _q TK; replace HB := Lib.hid HB.out.drew; replace BA0 := Lib.hid (Bx.Bk.drew BA0.out); replace BW := Lib.hid (Bx.Bk.drew BW.out); replace BX0 := Lib.hid (Bx.Bk.drew BX0.out); replace BG := Lib.hid (Bx.Bk.drew BG.out); replace RW := Lib.hid (FsF.own_below RW.out (Below.refl _ _).drew); replace Hx0 := Lib.hid (FsF.own_below Hx0.out (Below.refl _ _).drew); replace RG := Lib.hid (FsF.own_below RG.out (Below.refl _ _).drew))); with_reducible refine (FsF.to_any _ (.agg #[.int .i64 v0x0, .slice v0x1a v0x1n v0x1c, .slice v0x2a v0x2n v0x2c, .slice v0x3a v0x3n v0x3c]) n0 (by omega) (FsF.holds_below HN0.out HB.out)).mono ?_; rintro e w7 ⟨z0, Sz0, rfl, hown, hb⟩; have s7 := hb.size; (try simp only [World.size_alloc, World.size_drew] at s7); have hlies := FsF.own_lies hown; (try simp only [World.size_alloc, World.size_drew] at hlies); obtain ⟨z00, z01a, z01n, z01c, z02a, z02n, z02c, z03a, z03n, z03c, rfl⟩ := FsF.own_form hown; have Hz0 := Lib.hid hown; have LHz0 := Lib.hid hlies; clear hown hlies; replace HB := Lib.hid (HB.out.trans (hb.mono HB.out.size)); replace BA0 := Lib.hid (Bx.Bk.all BA0.out hb); replace BW := Lib.hid (Bx.Bk.all BW.out hb); replace BX0 := Lib.hid (Bx.Bk.all BX0.out hb); replace BG := Lib.hid (Bx.Bk.all BG.out hb); replace RW := Lib.hid (FsF.own_below RW.out hb); replace Hx0 := Lib.hid (FsF.own_below Hx0.out hb); replace RG := Lib.hid (FsF.own_below RG.out hb); clear hb)
    | (go_at_call 16; (try (have _q := TK.out; clear _q TK; replace HB := Lib.hid HB.out.drew; replace BA0 := Lib.hid (Bx.Bk.drew BA0.out); replace BW := Lib.hid (Bx.Bk.drew BW.out); replace BX0 := Lib.hid (Bx.Bk.drew BX0.out); replace BG := Lib.hid (Bx.Bk.drew BG.out); replace RW := Lib.hid (FsF.own_below RW.out (Below.refl _ _).drew); replace Hx0 := Lib.hid (FsF.own_below Hx0.out (Below.refl _ _).drew); replace RG := Lib.hid (FsF.own_below RG.out (Below.refl _ _).drew))); with_reducible refine (FsF.eq_any _ (.agg #[.int .i64 x00, .slice x01a x01n x01c, .slice x02a x02n x02c, .slice x03a x03n x03c]) (.agg #[.int .i64 z00, .slice z01a z01n z01c, .slice z02a z02n z02c, .slice z03a z03n z03c]) n0 (by omega) (FsF.own_holds Hx0.out) (FsF.own_holds Hz0.out)).mono ?_; rintro e w8 ⟨rfl, hb⟩; have s8 := hb.size; (try simp only [World.size_alloc, World.size_drew] at s8); replace HB := Lib.hid (HB.out.trans (hb.mono HB.out.size)); replace BA0 := Lib.hid (Bx.Bk.all BA0.out hb); replace BW := Lib.hid (Bx.Bk.all BW.out hb); replace BX0 := Lib.hid (Bx.Bk.all BX0.out hb); replace BG := Lib.hid (Bx.Bk.all BG.out hb); (try replace Hz0 := Lib.hid (FsF.own_below Hz0.out hb)); replace RW := Lib.hid (FsF.own_below RW.out hb); replace Hx0 := Lib.hid (FsF.own_below Hx0.out hb); replace RG := Lib.hid (FsF.own_below RG.out hb); clear hb))
  clear vBA00 vBA01 vBA02 vBA03 vBW0 vBW1 vBW2 vBW3 vBX00 vBX01 vBX02 vBX03 vBG0 vBG1 vBG2 vBG3
  obtain ⟨vBA00, vBA01, vBA02, vBA03⟩ := Bx.Bk.c4 BA0.out
  obtain ⟨vBW0, vBW1, vBW2, vBW3⟩ := Bx.Bk.c4 BW.out
  obtain ⟨vBX00, vBX01, vBX02, vBX03⟩ := Bx.Bk.c4 BX0.out
  obtain ⟨vBG0, vBG1, vBG2, vBG3⟩ := Bx.Bk.c4 BG.out
  clear Hz0 LHz0
  go_wp2_with fail
  refine (FsF.mark_any _ _ (.agg #[.int .i64 x00, .slice x01a x01n x01c, .slice x02a x02n x02c, .slice x03a x03n x03c]) n0 _ 1 (by omega) (HWID0.out) Hx0.out).mono ?_
  rintro e w9 ⟨rfl, hown, hc⟩
  have s9 := hc.size
  clear vBA00 vBA01 vBA02 vBA03 vBW0 vBW1 vBW2 vBW3 vBX00 vBX01 vBX02 vBX03 vBG0 vBG1 vBG2 vBG3
  replace HB := Lib.hid (FlK.below_chg HB.out hc (by (try simp only [World.size_alloc]); omega) LHx0.out (by omega))
  replace BA0 := Lib.hid (FlK.bk_chg BA0.out hc (by first | exact FlK.not_in_low LHx0.out (by omega) | exact FlK.not_in_high LHx0.out (by omega)))
  replace BW := Lib.hid (FlK.bk_chg BW.out hc (by first | exact FlK.not_in_low LHx0.out (by omega) | exact FlK.not_in_high LHx0.out (by omega)))
  replace BX0 := Lib.hid (FlK.bk_chg BX0.out hc (by first | exact FlK.not_in_low LHx0.out (by omega) | exact FlK.not_in_high LHx0.out (by omega)))
  replace BG := Lib.hid (FlK.bk_chg BG.out hc (by first | exact FlK.not_in_low LHx0.out (by omega) | exact FlK.not_in_high LHx0.out (by omega)))
  replace RW := Lib.hid (FsF.own_chg RW.out hc (Foot.Lies.apart LRW.out LHx0.out (by omega)))
  replace RG := Lib.hid (FsF.own_chg RG.out hc (FlK.lies_apart LHx0.out LRG.out (by omega)))
  replace Hx0 := Lib.hid hown
  clear hown hc
  generalize 1 + FsF.wid n0 = K0
  obtain ⟨vBA00, vBA01, vBA02, vBA03⟩ := Bx.Bk.c4 BA0.out
  obtain ⟨vBW0, vBW1, vBW2, vBW3⟩ := Bx.Bk.c4 BW.out
  obtain ⟨vBX00, vBX01, vBX02, vBX03⟩ := Bx.Bk.c4 BX0.out
  obtain ⟨vBG0, vBG1, vBG2, vBG3⟩ := Bx.Bk.c4 BG.out
  clear vBA00 vBA01 vBA02 vBA03 vBW0 vBW1 vBW2 vBW3 vBX00 vBX01 vBX02 vBX03 vBG0 vBG1 vBG2 vBG3
  clear Hx0 BX0 LHx0
  obtain ⟨vBA00, vBA01, vBA02, vBA03⟩ := Bx.Bk.c4 BA0.out
  obtain ⟨vBW0, vBW1, vBW2, vBW3⟩ := Bx.Bk.c4 BW.out
  obtain ⟨vBG0, vBG1, vBG2, vBG3⟩ := Bx.Bk.c4 BG.out
  go_wp2_with fail
  refine (FsF.eq_any _ (.agg #[.int .i64 g0, .slice g1a g1n g1c, .slice g2a g2n g2c, .slice g3a g3n g3c]) (.agg #[.int .i64 w0, .slice w1a w1n w1c, .slice w2a w2n w2c, .slice w3a w3n w3c]) res0 (by omega) (FsF.own_holds RG.out) (FsF.own_holds RW.out)).mono ?_
  rintro e w10 ⟨rfl, hb⟩
  have s10 := hb.size
  clear vBA00 vBA01 vBA02 vBA03 vBW0 vBW1 vBW2 vBW3 vBG0 vBG1 vBG2 vBG3
  replace HB := Lib.hid (HB.out.trans (hb.mono HB.out.size))
  replace BA0 := Lib.hid (Bx.Bk.all BA0.out hb)
  replace BW := Lib.hid (Bx.Bk.all BW.out hb)
  replace BG := Lib.hid (Bx.Bk.all BG.out hb)
  replace RW := Lib.hid (FsF.own_below RW.out hb)
  replace RG := Lib.hid (FsF.own_below RG.out hb)
  clear hb
  obtain ⟨vBA00, vBA01, vBA02, vBA03⟩ := Bx.Bk.c4 BA0.out
  obtain ⟨vBW0, vBW1, vBW2, vBW3⟩ := Bx.Bk.c4 BW.out
  obtain ⟨vBG0, vBG1, vBG2, vBG3⟩ := Bx.Bk.c4 BG.out
  go_wp2_with fail
  refine (FsF.mark_any _ _ (.agg #[.int .i64 g0, .slice g1a g1n g1c, .slice g2a g2n g2c, .slice g3a g3n g3c]) res0 _ 1 (by omega) (by omega) RG.out).mono ?_
  rintro e w11 ⟨rfl, hown, hc⟩
  have s11 := hc.size
  clear vBA00 vBA01 vBA02 vBA03 vBW0 vBW1 vBW2 vBW3 vBG0 vBG1 vBG2 vBG3
  replace HB := Lib.hid (FlK.below_chg HB.out hc (by (try simp only [World.size_alloc]); omega) LRG.out (by omega))
  replace BA0 := Lib.hid (FlK.bk_chg BA0.out hc (by first | exact FlK.not_in_low LRG.out (by omega) | exact FlK.not_in_high LRG.out (by omega)))
  replace BW := Lib.hid (FlK.bk_chg BW.out hc (by first | exact FlK.not_in_low LRG.out (by omega) | exact FlK.not_in_high LRG.out (by omega)))
  replace BG := Lib.hid (FlK.bk_chg BG.out hc (by first | exact FlK.not_in_low LRG.out (by omega) | exact FlK.not_in_high LRG.out (by omega)))
  replace RW := Lib.hid (FsF.own_chg RW.out hc (Foot.Lies.apart LRW.out LRG.out (by omega)))
  replace RG := Lib.hid hown
  clear hown hc
  rw [<- HK.out]
  obtain ⟨vBA00, vBA01, vBA02, vBA03⟩ := Bx.Bk.c4 BA0.out
  obtain ⟨vBW0, vBW1, vBW2, vBW3⟩ := Bx.Bk.c4 BW.out
  obtain ⟨vBG0, vBG1, vBG2, vBG3⟩ := Bx.Bk.c4 BG.out
  go_wp2_with fail
  refine (FsF.held_any _ (.agg #[.int .i64 g0, .slice g1a g1n g1c, .slice g2a g2n g2c, .slice g3a g3n g3c]) res0 1 (by omega) (by omega) (FsF.own_holds RG.out)).mono ?_
  rintro e w12 ⟨rfl, hb⟩
  have s12 := hb.size
  clear vBA00 vBA01 vBA02 vBA03 vBW0 vBW1 vBW2 vBW3 vBG0 vBG1 vBG2 vBG3
  rw [<- HK.out]
  replace HB := Lib.hid (HB.out.trans (hb.mono HB.out.size))
  replace BA0 := Lib.hid (Bx.Bk.all BA0.out hb)
  replace BW := Lib.hid (Bx.Bk.all BW.out hb)
  replace BG := Lib.hid (Bx.Bk.all BG.out hb)
  replace RW := Lib.hid (FsF.own_below RW.out hb)
  replace RG := Lib.hid (FsF.own_below RG.out hb)
  clear hb
  obtain ⟨vBA00, vBA01, vBA02, vBA03⟩ := Bx.Bk.c4 BA0.out
  obtain ⟨vBW0, vBW1, vBW2, vBW3⟩ := Bx.Bk.c4 BW.out
  obtain ⟨vBG0, vBG1, vBG2, vBG3⟩ := Bx.Bk.c4 BG.out
  go_wp2_with fail
  refine (FsF.to_any _ (.agg #[.int .i64 v0x0, .slice v0x1a v0x1n v0x1c, .slice v0x2a v0x2n v0x2c, .slice v0x3a v0x3n v0x3c]) n0 (by omega) (FsF.holds_below HN0.out HB.out)).mono ?_
  rintro e w13 ⟨z0, Sz0, rfl, hown, hb⟩
  have s13 := hb.size
  clear vBA00 vBA01 vBA02 vBA03 vBW0 vBW1 vBW2 vBW3 vBG0 vBG1 vBG2 vBG3
  have hlies := FsF.own_lies hown
  obtain ⟨z00, z01a, z01n, z01c, z02a, z02n, z02c, z03a, z03n, z03c, rfl⟩ := FsF.own_form hown
  have Hz0 := Lib.hid hown
  have LHz0 := Lib.hid hlies
  clear hown hlies
  replace HB := Lib.hid (HB.out.trans (hb.mono HB.out.size))
  replace BA0 := Lib.hid (Bx.Bk.all BA0.out hb)
  replace BW := Lib.hid (Bx.Bk.all BW.out hb)
  replace BG := Lib.hid (Bx.Bk.all BG.out hb)
  replace RW := Lib.hid (FsF.own_below RW.out hb)
  replace RG := Lib.hid (FsF.own_below RG.out hb)
  clear hb
  obtain ⟨vBA00, vBA01, vBA02, vBA03⟩ := Bx.Bk.c4 BA0.out
  obtain ⟨vBW0, vBW1, vBW2, vBW3⟩ := Bx.Bk.c4 BW.out
  obtain ⟨vBG0, vBG1, vBG2, vBG3⟩ := Bx.Bk.c4 BG.out
  go_wp2_with fail
  refine (HI.out _ (.agg #[.int .i64 z00, .slice z01a z01n z01c, .slice z02a z02n z02c, .slice z03a z03n z03c]) (HV.out.all HB.out) (FsF.own_holds Hz0.out)).mono ?_
  rintro e w14 ⟨h, SH, rfl, hown, hb⟩
  have s14 := hb.size
  clear vBA00 vBA01 vBA02 vBA03 vBW0 vBW1 vBW2 vBW3 vBG0 vBG1 vBG2 vBG3
  have hlies := FsF.own_lies hown
  obtain ⟨h0, h1a, h1n, h1c, h2a, h2n, h2c, h3a, h3n, h3c, rfl⟩ := FsF.own_form hown
  have RH := Lib.hid hown
  have LRH := Lib.hid hlies
  clear hown hlies
  replace HB := Lib.hid (HB.out.trans (hb.mono HB.out.size))
  replace BA0 := Lib.hid (Bx.Bk.all BA0.out hb)
  replace BW := Lib.hid (Bx.Bk.all BW.out hb)
  replace BG := Lib.hid (Bx.Bk.all BG.out hb)
  replace RW := Lib.hid (FsF.own_below RW.out hb)
  replace RG := Lib.hid (FsF.own_below RG.out hb)
  replace Hz0 := Lib.hid (FsF.own_below Hz0.out hb)
  clear hb
  obtain ⟨vBA00, vBA01, vBA02, vBA03⟩ := Bx.Bk.c4 BA0.out
  obtain ⟨vBW0, vBW1, vBW2, vBW3⟩ := Bx.Bk.c4 BW.out
  obtain ⟨vBG0, vBG1, vBG2, vBG3⟩ := Bx.Bk.c4 BG.out
  clear Hz0 LHz0
  clear vBA00 vBA01 vBA02 vBA03 vBW0 vBW1 vBW2 vBW3 vBG0 vBG1 vBG2 vBG3
  have hb := Joins.below_alloc1 w14 (.cells #[.int .i64 h0, .slice h1a h1n h1c, .slice h2a h2n h2c, .slice h3a h3n h3c] 33)
  replace HB := Lib.hid (HB.out.trans (hb.mono HB.out.size))
  replace BA0 := Lib.hid (Bx.Bk.all BA0.out hb)
  replace BW := Lib.hid (Bx.Bk.all BW.out hb)
  replace BG := Lib.hid (Bx.Bk.all BG.out hb)
  replace RW := Lib.hid (FsF.own_below RW.out hb)
  replace RG := Lib.hid (FsF.own_below RG.out hb)
  replace RH := Lib.hid (FsF.own_below RH.out hb)
  have BH := Lib.hid (Bx.new_at w14 #[.int .i64 h0, .slice h1a h1n h1c, .slice h2a h2n h2c, .slice h3a h3n h3c] 33 (w14.heap.size) (by simp))
  clear hb
  obtain ⟨vBA00, vBA01, vBA02, vBA03⟩ := Bx.Bk.c4 BA0.out
  obtain ⟨vBW0, vBW1, vBW2, vBW3⟩ := Bx.Bk.c4 BW.out
  obtain ⟨vBG0, vBG1, vBG2, vBG3⟩ := Bx.Bk.c4 BG.out
  obtain ⟨vBH0, vBH1, vBH2, vBH3⟩ := Bx.Bk.c4 BH.out
  go_wp2_with fail
  refine (FsF.eq_any _ (.agg #[.int .i64 h0, .slice h1a h1n h1c, .slice h2a h2n h2c, .slice h3a h3n h3c]) (.agg #[.int .i64 w0, .slice w1a w1n w1c, .slice w2a w2n w2c, .slice w3a w3n w3c]) res0 (by omega) (FsF.own_holds RH.out) (FsF.own_holds RW.out)).mono ?_
  rintro e w15 ⟨rfl, hb⟩
  have s15 := hb.size
  simp only [World.size_alloc] at s15
  clear vBA00 vBA01 vBA02 vBA03 vBW0 vBW1 vBW2 vBW3 vBG0 vBG1 vBG2 vBG3 vBH0 vBH1 vBH2 vBH3
  replace HB := Lib.hid (HB.out.trans (hb.mono HB.out.size))
  replace BA0 := Lib.hid (Bx.Bk.all BA0.out hb)
  replace BW := Lib.hid (Bx.Bk.all BW.out hb)
  replace BG := Lib.hid (Bx.Bk.all BG.out hb)
  replace BH := Lib.hid (Bx.Bk.all BH.out hb)
  replace RW := Lib.hid (FsF.own_below RW.out hb)
  replace RG := Lib.hid (FsF.own_below RG.out hb)
  replace RH := Lib.hid (FsF.own_below RH.out hb)
  clear hb
  obtain ⟨vBA00, vBA01, vBA02, vBA03⟩ := Bx.Bk.c4 BA0.out
  obtain ⟨vBW0, vBW1, vBW2, vBW3⟩ := Bx.Bk.c4 BW.out
  obtain ⟨vBG0, vBG1, vBG2, vBG3⟩ := Bx.Bk.c4 BG.out
  obtain ⟨vBH0, vBH1, vBH2, vBH3⟩ := Bx.Bk.c4 BH.out
  go_wp2_with fail
  refine (FsF.held_any _ (.agg #[.int .i64 g0, .slice g1a g1n g1c, .slice g2a g2n g2c, .slice g3a g3n g3c]) res0 1 (by omega) (by omega) (FsF.own_holds RG.out)).mono ?_
  rintro e w16 ⟨rfl, hb⟩
  have s16 := hb.size
  clear vBA00 vBA01 vBA02 vBA03 vBW0 vBW1 vBW2 vBW3 vBG0 vBG1 vBG2 vBG3 vBH0 vBH1 vBH2 vBH3
  rw [<- HK.out]
  replace HB := Lib.hid (HB.out.trans (hb.mono HB.out.size))
  replace BA0 := Lib.hid (Bx.Bk.all BA0.out hb)
  replace BW := Lib.hid (Bx.Bk.all BW.out hb)
  replace BG := Lib.hid (Bx.Bk.all BG.out hb)
  replace BH := Lib.hid (Bx.Bk.all BH.out hb)
  replace RW := Lib.hid (FsF.own_below RW.out hb)
  replace RG := Lib.hid (FsF.own_below RG.out hb)
  replace RH := Lib.hid (FsF.own_below RH.out hb)
  clear hb
  obtain ⟨vBA00, vBA01, vBA02, vBA03⟩ := Bx.Bk.c4 BA0.out
  obtain ⟨vBW0, vBW1, vBW2, vBW3⟩ := Bx.Bk.c4 BW.out
  obtain ⟨vBG0, vBG1, vBG2, vBG3⟩ := Bx.Bk.c4 BG.out
  obtain ⟨vBH0, vBH1, vBH2, vBH3⟩ := Bx.Bk.c4 BH.out
  go_wp2
  go_ret
  exact ⟨rfl, HB.out⟩
 ·have HC0 := Lib.hid (show costOf (FsF.cost n0) 1048576 = -1 from cost_neg hc0)
  clear hc0
  go_enter Tryz.func5, Tryz.ntmps5
  have HB := Lib.hid (Below.refl w.heap.size w)
  have hb := Joins.below_alloc1 w (.cells #[.int .i64 v0x0, .slice v0x1a v0x1n v0x1c, .slice v0x2a v0x2n v0x2c, .slice v0x3a v0x3n v0x3c] 26)
  replace HB := Lib.hid (HB.out.trans (hb.mono HB.out.size))
  have BA0 := Lib.hid (Bx.new_at w #[.int .i64 v0x0, .slice v0x1a v0x1n v0x1c, .slice v0x2a v0x2n v0x2c, .slice v0x3a v0x3n v0x3c] 26 (w.heap.size) (by simp))
  clear hb
  obtain ⟨vBA00, vBA01, vBA02, vBA03⟩ := Bx.Bk.c4 BA0.out
  go_wp2_with fail
  refine (FsF.sz_any _ (.agg #[.int .i64 v0x0, .slice v0x1a v0x1n v0x1c, .slice v0x2a v0x2n v0x2c, .slice v0x3a v0x3n v0x3c]) n0 1048576 (by omega) HM0.out (FsF.holds_below HN0.out HB.out)).mono ?_
  rintro e w1 ⟨rfl, hb⟩
  have s1 := hb.size
  simp only [World.size_alloc] at s1
  clear vBA00 vBA01 vBA02 vBA03
  rw [HC0.out]
  replace HB := Lib.hid (HB.out.trans (hb.mono HB.out.size))
  replace BA0 := Lib.hid (Bx.Bk.all BA0.out hb)
  clear hb
  obtain ⟨vBA00, vBA01, vBA02, vBA03⟩ := Bx.Bk.c4 BA0.out
  go_wp2
  go_ret
  exact ⟨rfl, HB.out⟩
end Go.Proofs.YthppbcnejapbiaaGreatDoor.AddEntryLaw
