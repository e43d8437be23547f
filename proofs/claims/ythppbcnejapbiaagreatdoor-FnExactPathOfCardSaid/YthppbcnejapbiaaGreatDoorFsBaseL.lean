/- Helper texts joined, one behind another (a claim has at most 60 files): what each proves, its own head says: YthppbcnejapbiaaGreatDoorPathOfLawA. -/
import Derived.Test.YthppbcnejapbiaaGreatDoorFsBaseA
import Derived.Test.YthppbcnejapbiaaGreatDoorFsBaseB
import Derived.Test.YthppbcnejapbiaaGreatDoorFsBaseC
import Derived.Test.YthppbcnejapbiaaGreatDoorEnBaseU

-- YthppbcnejapbiaaGreatDoorPathOfLawA
/- The walk of the law FnExactPathOf. Conditions: as the theorem types them. -/
namespace Go.Proofs.YthppbcnejapbiaaGreatDoor.PathOfLaw
open Go.ChangeShapes Go.WideShapes Go.ChangeAt Go.RowKit
open Go.ChangeMaps (open_string shut_string)
open Foot
set_option linter.unusedVariables false

set_option maxRecDepth 100000 in
set_option maxHeartbeats 6400000 in
theorem law_any (v0 : Value) (n0 : FsF.L) (i : Int) (w : World) (h0 : FsF.Lim n0 ∧ FsF.Holds w v0 n0) (hr1 : (Lit.int .i64 i).wf = true) (hv : InOk.Vars w) :
    Calls Tryz.prog 11 #[v0, .int .i64 i] w fun e w' => e = .returned (.bool true) ∧ Below w.heap.size w w' := by
  have HV := Lib.hid hv
  clear hv
  obtain ⟨v0x0, v0x1a, v0x1n, v0x1c, v0x2a, v0x2n, v0x2c, v0x3a, v0x3n, v0x3c, rfl⟩ := FsF.form h0.2
  have HN0 := Lib.hid h0.2
  have HM0 := Lib.hid h0.1
  clear h0
  by_cases hc0 : FsF.cost n0 ≤ 1048576
  · obtain ⟨r0, hr0⟩ : ∃ r0 : Nat, r0 = 1048576 - FsF.cost n0 := ⟨_, rfl⟩
    have HC0 := Lib.hid (show costOf (FsF.cost n0) 1048576 = (r0 : Int) by rw [hr0]; exact cost_pos hc0)
    have hle0 : r0 ≤ 1048576 := by omega
    have hlen0 : FsF.cost n0 ≤ 1048576 := by omega
    clear hr0 hc0
    have hs : ∀ (W : World) (q0 : Value), InOk.Vars W → FsF.Holds W q0 n0 → Calls Tryz.prog 39 #[q0, .int .i64 i] W fun e w' => e = .returned (.tuple #[(.string (PaO.pathOfV n0 i).1), (.bool (PaO.pathOfV n0 i).2)]) ∧ Below W.heap.size W w' := fun W q0 pv p0 => PaO.path_spec W q0 n0 i (by omega) HM0.out p0
    have hi : ∀ (W : World) (q0 : Value), InOk.Vars W → FsF.Holds W q0 n0 → Calls Tryz.prog 40 #[q0, .int .i64 i] W fun e w' => e = .returned (.tuple #[(.string (PaO.pathOfV n0 i).1), (.bool (PaO.pathOfV n0 i).2)]) ∧ Below W.heap.size W w' := fun W q0 pv p0 => PaP.path_impl W q0 n0 i (by omega) HM0.out pv p0
    generalize PaO.pathOfV n0 i = res at hs hi
    have HS := Lib.hid hs
    have HI := Lib.hid hi
    clear hs hi
    go_enter Tryz.func11, Tryz.ntmps11
    have HB := Lib.hid (Below.refl w.heap.size w)
    have hb := Joins.below_alloc1 w (.cells #[.int .i64 v0x0, .slice v0x1a v0x1n v0x1c, .slice v0x2a v0x2n v0x2c, .slice v0x3a v0x3n v0x3c] 26)
    replace HB := Lib.hid (HB.out.trans (hb.mono HB.out.size))
    have BA0 := Lib.hid (Bx.new_at w #[.int .i64 v0x0, .slice v0x1a v0x1n v0x1c, .slice v0x2a v0x2n v0x2c, .slice v0x3a v0x3n v0x3c] 26 (w.heap.size) (by simp))
    clear hb
    obtain ⟨vBA00, vBA01, vBA02, vBA03⟩ := Bx.Bk.c4 BA0.out
    go_wp2_with fail
    refine (FsF.sz_any _ (.agg #[.int .i64 v0x0, .slice v0x1a v0x1n v0x1c, .slice v0x2a v0x2n v0x2c, .slice v0x3a v0x3n v0x3c]) n0 1048576 (by omega) HM0.out (FsF.holds_below HN0.out HB.out)).mono ?_
    rintro e w1 ⟨rfl, hb⟩
    have s1 := hb.size
    simp only [World.size_alloc] at s1
    clear vBA00 vBA01 vBA02 vBA03
    rw [HC0.out]
    replace HB := Lib.hid (HB.out.trans (hb.mono HB.out.size))
    replace BA0 := Lib.hid (Bx.Bk.all BA0.out hb)
    clear hb
    obtain ⟨vBA00, vBA01, vBA02, vBA03⟩ := Bx.Bk.c4 BA0.out
    go_wp2_with fail
    refine (FsF.to_any _ (.agg #[.int .i64 v0x0, .slice v0x1a v0x1n v0x1c, .slice v0x2a v0x2n v0x2c, .slice v0x3a v0x3n v0x3c]) n0 (by omega) (FsF.holds_below HN0.out HB.out)).mono ?_
    rintro e w2 ⟨k0, Sk0, rfl, hown, hb⟩
    have s2 := hb.size
    clear vBA00 vBA01 vBA02 vBA03
    have hlies := FsF.own_lies hown
    obtain ⟨k00, k01a, k01n, k01c, k02a, k02n, k02c, k03a, k03n, k03c, rfl⟩ := FsF.own_form hown
    have Hk0 := Lib.hid hown
    have LHk0 := Lib.hid hlies
    clear hown hlies
    replace HB := Lib.hid (HB.out.trans (hb.mono HB.out.size))
    replace BA0 := Lib.hid (Bx.Bk.all BA0.out hb)
    clear hb
    obtain ⟨vBA00, vBA01, vBA02, vBA03⟩ := Bx.Bk.c4 BA0.out
    go_wp2_with fail
    refine (HS.out _ (.agg #[.int .i64 k00, .slice k01a k01n k01c, .slice k02a k02n k02c, .slice k03a k03n k03c]) (HV.out.all HB.out) (FsF.own_holds Hk0.out)).mono ?_
    rintro e w3 ⟨rfl, hb⟩
    have s3 := hb.size
    clear vBA00 vBA01 vBA02 vBA03
    replace HB := Lib.hid (HB.out.trans (hb.mono HB.out.size))
    replace BA0 := Lib.hid (Bx.Bk.all BA0.out hb)
    replace Hk0 := Lib.hid (FsF.own_below Hk0.out hb)
    clear hb
    obtain ⟨vBA00, vBA01, vBA02, vBA03⟩ := Bx.Bk.c4 BA0.out
    clear Hk0 LHk0
    go_wp2_with fail
    refine (FsF.to_any _ (.agg #[.int .i64 v0x0, .slice v0x1a v0x1n v0x1c, .slice v0x2a v0x2n v0x2c, .slice v0x3a v0x3n v0x3c]) n0 (by omega) (FsF.holds_below HN0.out HB.out)).mono ?_
    rintro e w4 ⟨x0, Sx0, rfl, hown, hb⟩
    have s4 := hb.size
    clear vBA00 vBA01 vBA02 vBA03
    have hlies := FsF.own_lies hown
    obtain ⟨x00, x01a, x01n, x01c, x02a, x02n, x02c, x03a, x03n, x03c, rfl⟩ := FsF.own_form hown
    have Hx0 := Lib.hid hown
    have LHx0 := Lib.hid hlies
    clear hown hlies
    replace HB := Lib.hid (HB.out.trans (hb.mono HB.out.size))
    replace BA0 := Lib.hid (Bx.Bk.all BA0.out hb)
    clear hb
    obtain ⟨vBA00, vBA01, vBA02, vBA03⟩ := Bx.Bk.c4 BA0.out
    clear vBA00 vBA01 vBA02 vBA03
    have hb := Joins.below_alloc1 w4 (.cells #[.int .i64 x00, .slice x01a x01n x01c, .slice x02a x02n x02c, .slice x03a x03n x03c] 33)
    replace HB := Lib.hid (HB.out.trans (hb.mono HB.out.size))
    replace BA0 := Lib.hid (Bx.Bk.all BA0.out hb)
    replace Hx0 := Lib.hid (FsF.own_below Hx0.out hb)
    have BX0 := Lib.hid (Bx.new_at w4 #[.int .i64 x00, .slice x01a x01n x01c, .slice x02a x02n x02c, .slice x03a x03n x03c] 33 (w4.heap.size) (by simp))
    clear hb
    obtain ⟨vBA00, vBA01, vBA02, vBA03⟩ := Bx.Bk.c4 BA0.out
    obtain ⟨vBX00, vBX01, vBX02, vBX03⟩ := Bx.Bk.c4 BX0.out
    go_wp2_with fail
    refine (HI.out _ (.agg #[.int .i64 x00, .slice x01a x01n x01c, .slice x02a x02n x02c, .slice x03a x03n x03c]) (HV.out.all HB.out) (FsF.own_holds Hx0.out)).mono ?_
    rintro e w5 ⟨rfl, hb⟩
    have s5 := hb.size
    simp only [World.size_alloc] at s5
    clear vBA00 vBA01 vBA02 vBA03 vBX00 vBX01 vBX02 vBX03
    replace HB := Lib.hid (HB.out.trans (hb.mono HB.out.size))
    replace BA0 := Lib.hid (Bx.Bk.all BA0.out hb)
    replace BX0 := Lib.hid (Bx.Bk.all BX0.out hb)
    replace Hx0 := Lib.hid (FsF.own_below Hx0.out hb)
    clear hb
    obtain ⟨vBA00, vBA01, vBA02, vBA03⟩ := Bx.Bk.c4 BA0.out
    obtain ⟨vBX00, vBX01, vBX02, vBX03⟩ := Bx.Bk.c4 BX0.out
    have TK := Lib.hid trivial
    go_wp2
    go_region_held3 (fun w' => (w'.cell? ⟨w.heap.size, 0, none⟩ = some (.int .i64 v0x0) ∧ w'.cell? ⟨w.heap.size, 1, none⟩ = some (.slice v0x1a v0x1n v0x1c) ∧ w'.cell? ⟨w.heap.size, 2, none⟩ = some (.slice v0x2a v0x2n v0x2c) ∧ w'.cell? ⟨w.heap.size, 3, none⟩ = some (.slice v0x3a v0x3n v0x3c)) ∧ (w'.cell? ⟨w4.heap.size, 0, none⟩ = some (.int .i64 x00) ∧ w'.cell? ⟨w4.heap.size, 1, none⟩ = some (.slice x01a x01n x01c) ∧ w'.cell? ⟨w4.heap.size, 2, none⟩ = some (.slice x02a x02n x02c) ∧ w'.cell? ⟨w4.heap.size, 3, none⟩ = some (.slice x03a x03n x03c))) ((first | exact ⟨Bx.Bk.c4 BA0.out, Bx.Bk.c4 BX0.out⟩ | go_keep))
      (first
        | (go_at_call 14; (try (have _q := TK.out; clear _q TK; replace HB := Lib.hid HB.out.drew; replace BA0 := Lib.hid (Bx.Bk.drew BA0.out); replace BX0 := Lib.hid (Bx.Bk.drew BX0.out); replace Hx0 := Lib.hid (FsF.own_below Hx0.out (Below.refl _ _).drew))); with_reducible refine (FsF.to_any _ (.agg #[.int .i64 v0x0, .slice v0x1a v0x1n v0x1c, .slice v0x2a v0x2n v0x2c, .slice v0x3a v0x3n v0x3c]) n0 (by omega) (FsF.holds_below HN0.out HB.out)).mono ?_; rintro e w6 ⟨z0, Sz0, rfl, hown, hb⟩; have s6 := hb.size; (try simp only [World.size_alloc, World.size_drew] at s6); have hlies := FsF.own_lies hown; (try simp only [World.size_alloc, World.size_drew] at hlies); obtain ⟨z00, z01a, z01n, z01c, z02a, z02n, z02c, z03a, z03n, z03c, rfl⟩ := FsF.own_form hown; have Hz0 := Lib.hid hown; have LHz0 := Lib.hid hlies; clear hown hlies; replace HB := Lib.hid (HB.out.trans (hb.mono HB.out.size)); replace BA0 := Lib.hid (Bx.Bk.all BA0.out hb); replace BX0 := Lib.hid (Bx.Bk.all BX0.out hb); replace Hx0 := Lib.hid (FsF.own_below Hx0.out hb); clear hb)
        | (go_at_call 16; (try (have _q := TK.out; clear _q TK; replace HB := Lib.hid HB.out.drew; replace BA0 := Lib.hid (Bx.Bk.drew BA0.out); replace BX0 := Lib.hid (Bx.Bk.drew BX0.out); replace Hx0 := Lib.hid (FsF.own_below Hx0.out (Below.refl _ _).drew))); with_reducible refine (FsF.eq_any _ (.agg #[.int .i64 x00, .slice x01a x01n x01c, .slice x02a x02n x02c, .slice x03a x03n x03c]) (.agg #[.int .i64 z00, .slice z01a z01n z01c, .slice z02a z02n z02c, .slice z03a z03n z03c]) n0 (by omega) (FsF.own_holds Hx0.out) (FsF.own_holds Hz0.out)).mono ?_; rintro e w7 ⟨rfl, hb⟩; have s7 := hb.size; (try simp only [World.size_alloc, World.size_drew] at s7); replace HB := Lib.hid (HB.out.trans (hb.mono HB.out.size)); replace BA0 := Lib.hid (Bx.Bk.all BA0.out hb); replace BX0 := Lib.hid (Bx.Bk.all BX0.out hb); (try replace Hz0 := Lib.hid (FsF.own_below Hz0.out hb)); replace Hx0 := Lib.hid (FsF.own_below Hx0.out hb); clear hb))
    clear vBA00 vBA01 vBA02 vBA03 vBX00 vBX01 vBX02 vBX03
    obtain ⟨vBA00, vBA01, vBA02, vBA03⟩ := Bx.Bk.c4 BA0.out
    obtain ⟨vBX00, vBX01, vBX02, vBX03⟩ := Bx.Bk.c4 BX0.out
    clear Hz0 LHz0
    go_wp2
    go_ret
    exact ⟨rfl, HB.out⟩
  · have HC0 := Lib.hid (show costOf (FsF.cost n0) 1048576 = -1 from cost_neg hc0)
    clear hc0
    go_enter Tryz.func11, Tryz.ntmps11
    have HB := Lib.hid (Below.refl w.heap.size w)
    have hb := Joins.below_alloc1 w (.cells #[.int .i64 v0x0, .slice v0x1a v0x1n v0x1c, .slice v0x2a v0x2n v0x2c, .slice v0x3a v0x3n v0x3c] 26)
    replace HB := Lib.hid (HB.out.trans (hb.mono HB.out.size))
    have BA0 := Lib.hid (Bx.new_at w #[.int .i64 v0x0, .slice v0x1a v0x1n v0x1c, .slice v0x2a v0x2n v0x2c, .slice v0x3a v0x3n v0x3c] 26 (w.heap.size) (by simp))
    clear hb
    obtain ⟨vBA00, vBA01, vBA02, vBA03⟩ := Bx.Bk.c4 BA0.out
    go_wp2_with fail
    refine (FsF.sz_any _ (.agg #[.int .i64 v0x0, .slice v0x1a v0x1n v0x1c, .slice v0x2a v0x2n v0x2c, .slice v0x3a v0x3n v0x3c]) n0 1048576 (by omega) HM0.out (FsF.holds_below HN0.out HB.out)).mono ?_
    rintro e w1 ⟨rfl, hb⟩
    have s1 := hb.size
    simp only [World.size_alloc] at s1
    clear vBA00 vBA01 vBA02 vBA03
    rw [HC0.out]
    replace HB := Lib.hid (HB.out.trans (hb.mono HB.out.size))
    replace BA0 := Lib.hid (Bx.Bk.all BA0.out hb)
    clear hb
    obtain ⟨vBA00, vBA01, vBA02, vBA03⟩ := Bx.Bk.c4 BA0.out
    go_wp2
    go_ret
    exact ⟨rfl, HB.out⟩
end Go.Proofs.YthppbcnejapbiaaGreatDoor.PathOfLaw
