/- Helper texts joined, one behind another (a claim has at most 60 files): what each proves, its own head says: YthppbcnejapbiaaGreatDoorEntriesOfLawA. -/
import Derived.Test.YthppbcnejapbiaaGreatDoorFsBaseA
import Derived.Test.YthppbcnejapbiaaGreatDoorFsBaseB
import Derived.Test.YthppbcnejapbiaaGreatDoorFsBaseC
import Derived.Test.YthppbcnejapbiaaGreatDoorEnBaseG

-- YthppbcnejapbiaaGreatDoorEntriesOfLawA
/- The walk of the law FnExactEntriesOf. Conditions: as the theorem types them. -/
namespace Go.Proofs.YthppbcnejapbiaaGreatDoor.EntriesOfLaw
open Go.ChangeShapes Go.WideShapes Go.ChangeAt Go.RowKit
open Go.ChangeMaps (open_string shut_string)
open Foot
set_option linter.unusedVariables false

set_option maxRecDepth 100000 in
set_option maxHeartbeats 6400000 in
theorem law_any (v0 : Value) (n0 : FsF.L) (d : Int) (w : World) (h0 : FsF.Lim n0 ∧ FsF.Holds w v0 n0) (hr1 : (Lit.int .i64 d).wf = true) (hv : InOk.Vars w) :
    Calls Tryz.prog 4 #[v0, .int .i64 d] w fun e w' => e = .returned (.bool true) ∧ Below w.heap.size w w' := by
  have HV := Lib.hid hv
  clear hv
  obtain ⟨v0x0, v0x1a, v0x1n, v0x1c, v0x2a, v0x2n, v0x2c, v0x3a, v0x3n, v0x3c, rfl⟩ := FsF.form h0.2
  have HN0 := Lib.hid h0.2
  have HM0 := Lib.hid h0.1
  clear h0
  by_cases hc0 : FsF.cost n0 ≤ 1048576
  · obtain ⟨r0, hr0⟩ : ∃ r0 : Nat, r0 = 1048576 - FsF.cost n0 := ⟨_, rfl⟩
    have HC0 := Lib.hid (show costOf (FsF.cost n0) 1048576 = (r0 : Int) by rw [hr0]; exact cost_pos hc0)
    have hle0 : r0 ≤ 1048576 := by omega
    have hlen0 : FsF.cost n0 ≤ 1048576 := by omega
    clear hr0 hc0
    have hs : ∀ (W : World) (q0 : Value), InOk.Vars W → FsF.Holds W q0 n0 → Calls Tryz.prog 17 #[q0, .int .i64 d] W fun e w' => ∃ (y0 : Value) (S0 : List Nat), e = .returned y0 ∧ De.Own w' W.heap.size y0 (EnG.entriesV n0 d) S0 ∧ Below W.heap.size W w' := fun W q0 pv p0 => EnG.entries_spec W q0 n0 d (by omega) HM0.out p0
    have hi : ∀ (W : World) (q0 : Value), InOk.Vars W → FsF.Holds W q0 n0 → Calls Tryz.prog 18 #[q0, .int .i64 d] W fun e w' => ∃ (y0 : Value) (S0 : List Nat), e = .returned y0 ∧ De.Own w' W.heap.size y0 (EnG.entriesV n0 d) S0 ∧ Below W.heap.size W w' := fun W q0 pv p0 => EnG.entries_impl W q0 n0 d (by omega) HM0.out pv p0
    have HU0 : De.cost (EnG.entriesV n0 d) ≤ 1073741824 ∧ 1 + De.wid (EnG.entriesV n0 d) ≤ 1073741824 := (EnG.entries_len n0 d)
    generalize (EnG.entriesV n0 d) = res0 at hs hi HU0
    obtain ⟨hu0, hw0⟩ := HU0
    have HS := Lib.hid hs
    have HI := Lib.hid hi
    clear hs hi
    obtain ⟨K, hK⟩ : ∃ K, K = 1 + De.wid res0 := ⟨_, rfl⟩
    have HK := Lib.hid hK
    clear hK
    have HWID0 := Lib.hid (show 1 + FsF.wid n0 ≤ 1073741824 from FsF.wid_le hlen0)
    go_enter Tryz.func4, Tryz.ntmps4
    have HB := Lib.hid (Below.refl w.heap.size w)
    have hb := Joins.below_alloc1 w (.cells #[.int .i64 v0x0, .slice v0x1a v0x1n v0x1c, .slice v0x2a v0x2n v0x2c, .slice v0x3a v0x3n v0x3c] 26)
    replace HB := Lib.hid (HB.out.trans (hb.mono HB.out.size))
    have BA0 := Lib.hid (Bx.new_at w #[.int .i64 v0x0, .slice v0x1a v0x1n v0x1c, .slice v0x2a v0x2n v0x2c, .slice v0x3a v0x3n v0x3c] 26 (w.heap.size) (by simp))
    clear hb
    obtain ⟨vBA00, vBA01, vBA02, vBA03⟩ := Bx.Bk.c4 BA0.out
    go_wp2_with fail
    refine (FsF.sz_any _ (.agg #[.int .i64 v0x0, .slice v0x1a v0x1n v0x1c, .slice v0x2a v0x2n v0x2c, .slice v0x3a v0x3n v0x3c]) n0 1048576 (by omega) HM0.out (FsF.holds_below HN0.out HB.out)).mono ?_
    rintro e w1 ⟨rfl, hb⟩
    have s1 := hb.size
    simp only [World.size_alloc] at s1
    clear vBA00 vBA01 vBA02 vBA03
    rw [HC0.out]
    replace HB := Lib.hid (HB.out.trans (hb.mono HB.out.size))
    replace BA0 := Lib.hid (Bx.Bk.all BA0.out hb)
    clear hb
    obtain ⟨vBA00, vBA01, vBA02, vBA03⟩ := Bx.Bk.c4 BA0.out
    go_wp2_with fail
    refine (FsF.to_any _ (.agg #[.int .i64 v0x0, .slice v0x1a v0x1n v0x1c, .slice v0x2a v0x2n v0x2c, .slice v0x3a v0x3n v0x3c]) n0 (by omega) (FsF.holds_below HN0.out HB.out)).mono ?_
    rintro e w2 ⟨k0, Sk0, rfl, hown, hb⟩
    have s2 := hb.size
    clear vBA00 vBA01 vBA02 vBA03
    have hlies := FsF.own_lies hown
    obtain ⟨k00, k01a, k01n, k01c, k02a, k02n, k02c, k03a, k03n, k03c, rfl⟩ := FsF.own_form hown
    have Hk0 := Lib.hid hown
    have LHk0 := Lib.hid hlies
    clear hown hlies
    replace HB := Lib.hid (HB.out.trans (hb.mono HB.out.size))
    replace BA0 := Lib.hid (Bx.Bk.all BA0.out hb)
    clear hb
    obtain ⟨vBA00, vBA01, vBA02, vBA03⟩ := Bx.Bk.c4 BA0.out
    go_wp2_with fail
    refine (HS.out _ (.agg #[.int .i64 k00, .slice k01a k01n k01c, .slice k02a k02n k02c, .slice k03a k03n k03c]) (HV.out.all HB.out) (FsF.own_holds Hk0.out)).mono ?_
    rintro e w3 ⟨w, SW, rfl, hown, hb⟩
    have s3 := hb.size
    clear vBA00 vBA01 vBA02 vBA03
    have hlies := De.own_lies hown
    obtain ⟨wa, wc, rfl⟩ := De.own_form hown
    have RW := Lib.hid hown
    have LRW := Lib.hid hlies
    clear hown hlies
    replace HB := Lib.hid (HB.out.trans (hb.mono HB.out.size))
    replace BA0 := Lib.hid (Bx.Bk.all BA0.out hb)
    replace Hk0 := Lib.hid (FsF.own_below Hk0.out hb)
    clear hb
    obtain ⟨vBA00, vBA01, vBA02, vBA03⟩ := Bx.Bk.c4 BA0.out
    clear Hk0 LHk0
    go_wp2_with fail
    refine (FsF.to_any _ (.agg #[.int .i64 v0x0, .slice v0x1a v0x1n v0x1c, .slice v0x2a v0x2n v0x2c, .slice v0x3a v0x3n v0x3c]) n0 (by omega) (FsF.holds_below HN0.out HB.out)).mono ?_
    rintro e w4 ⟨x0, Sx0, rfl, hown, hb⟩
    have s4 := hb.size
    clear vBA00 vBA01 vBA02 vBA03
    have hlies := FsF.own_lies hown
    obtain ⟨x00, x01a, x01n, x01c, x02a, x02n, x02c, x03a, x03n, x03c, rfl⟩ := FsF.own_form hown
    have Hx0 := Lib.hid hown
    have LHx0 := Lib.hid hlies
    clear hown hlies
    replace HB := Lib.hid (HB.out.trans (hb.mono HB.out.size))
    replace BA0 := Lib.hid (Bx.Bk.all BA0.out hb)
    replace RW := Lib.hid (De.own_below RW.out hb)
    clear hb
    obtain ⟨vBA00, vBA01, vBA02, vBA03⟩ := Bx.Bk.c4 BA0.out
    clear vBA00 vBA01 vBA02 vBA03
    have hb := Joins.below_alloc1 w4 (.cells #[.int .i64 x00, .slice x01a x01n x01c, .slice x02a x02n x02c, .slice x03a x03n x03c] 33)
    replace HB := Lib.hid (HB.out.trans (hb.mono HB.out.size))
    replace BA0 := Lib.hid (Bx.Bk.all BA0.out hb)
    replace RW := Lib.hid (De.own_below RW.out hb)
    replace Hx0 := Lib.hid (FsF.own_below Hx0.out hb)
    have BX0 := Lib.hid (Bx.new_at w4 #[.int .i64 x00, .slice x01a x01n x01c, .slice x02a x02n x02c, .slice x03a x03n x03c] 33 (w4.heap.size) (by simp))
    clear hb
    obtain ⟨vBA00, vBA01, vBA02, vBA03⟩ := Bx.Bk.c4 BA0.out
    obtain ⟨vBX00, vBX01, vBX02, vBX03⟩ := Bx.Bk.c4 BX0.out
    go_wp2_with fail
    refine (HI.out _ (.agg #[.int .i64 x00, .slice x01a x01n x01c, .slice x02a x02n x02c, .slice x03a x03n x03c]) (HV.out.all HB.out) (FsF.own_holds Hx0.out)).mono ?_
    rintro e w5 ⟨g, SG, rfl, hown, hb⟩
    have s5 := hb.size
    simp only [World.size_alloc] at s5
    clear vBA00 vBA01 vBA02 vBA03 vBX00 vBX01 vBX02 vBX03
    have hlies := De.own_lies hown
    simp only [World.size_alloc] at hlies
    obtain ⟨ga, gc, rfl⟩ := De.own_form hown
    have RG := Lib.hid hown
    have LRG := Lib.hid hlies
    clear hown hlies
    replace HB := Lib.hid (HB.out.trans (hb.mono HB.out.size))
    replace BA0 := Lib.hid (Bx.Bk.all BA0.out hb)
    replace BX0 := Lib.hid (Bx.Bk.all BX0.out hb)
    replace RW := Lib.hid (De.own_below RW.out hb)
    replace Hx0 := Lib.hid (FsF.own_below Hx0.out hb)
    clear hb
    obtain ⟨vBA00, vBA01, vBA02, vBA03⟩ := Bx.Bk.c4 BA0.out
    obtain ⟨vBX00, vBX01, vBX02, vBX03⟩ := Bx.Bk.c4 BX0.out
    go_wp2_with fail
    refine (De.eq_any _ (.slice ga res0.length gc) (.slice wa res0.length wc) res0 (by omega) (De.own_holds RG.out) (De.own_holds RW.out)).mono ?_
    rintro e w6 ⟨rfl, hb⟩
    have s6 := hb.size
    clear vBA00 vBA01 vBA02 vBA03 vBX00 vBX01 vBX02 vBX03
    replace HB := Lib.hid (HB.out.trans (hb.mono HB.out.size))
    replace BA0 := Lib.hid (Bx.Bk.all BA0.out hb)
    replace BX0 := Lib.hid (Bx.Bk.all BX0.out hb)
    replace RW := Lib.hid (De.own_below RW.out hb)
    replace Hx0 := Lib.hid (FsF.own_below Hx0.out hb)
    replace RG := Lib.hid (De.own_below RG.out hb)
    clear hb
    obtain ⟨vBA00, vBA01, vBA02, vBA03⟩ := Bx.Bk.c4 BA0.out
    obtain ⟨vBX00, vBX01, vBX02, vBX03⟩ := Bx.Bk.c4 BX0.out
    have TK := Lib.hid trivial
    go_wp2
    go_region_held3 (fun w' => (w'.cell? ⟨w.heap.size, 0, none⟩ = some (.int .i64 v0x0) ∧ w'.cell? ⟨w.heap.size, 1, none⟩ = some (.slice v0x1a v0x1n v0x1c) ∧ w'.cell? ⟨w.heap.size, 2, none⟩ = some (.slice v0x2a v0x2n v0x2c) ∧ w'.cell? ⟨w.heap.size, 3, none⟩ = some (.slice v0x3a v0x3n v0x3c)) ∧ (w'.cell? ⟨w4.heap.size, 0, none⟩ = some (.int .i64 x00) ∧ w'.cell? ⟨w4.heap.size, 1, none⟩ = some (.slice x01a x01n x01c) ∧ w'.cell? ⟨w4.heap.size, 2, none⟩ = some (.slice x02a x02n x02c) ∧ w'.cell? ⟨w4.heap.size, 3, none⟩ = some (.slice x03a x03n x03c))) ((first | exact ⟨Bx.Bk.c4 BA0.out, Bx.Bk.c4 BX0.out⟩ | go_keep))
      (first
        | (go_at_call 14; (try (have _q := TK.out; clear _q TK; replace HB := Lib.hid HB.out.drew; replace BA0 := Lib.hid (Bx.Bk.drew BA0.out); replace BX0 := Lib.hid (Bx.Bk.drew BX0.out); replace RW := Lib.hid (De.own_below RW.out (Below.refl _ _).drew); replace Hx0 := Lib.hid (FsF.own_below Hx0.out (Below.refl _ _).drew); replace RG := Lib.hid (De.own_below RG.out (Below.refl _ _).drew))); with_reducible refine (FsF.to_any _ (.agg #[.int .i64 v0x0, .slice v0x1a v0x1n v0x1c, .slice v0x2a v0x2n v0x2c, .slice v0x3a v0x3n v0x3c]) n0 (by omega) (FsF.holds_below HN0.out HB.out)).mono ?_; rintro e w7 ⟨z0, Sz0, rfl, hown, hb⟩; have s7 := hb.size; (try simp only [World.size_alloc, World.size_drew] at s7); have hlies := FsF.own_lies hown; (try simp only [World.size_alloc, World.size_drew] at hlies); obtain ⟨z00, z01a, z01n, z01c, z02a, z02n, z02c, z03a, z03n, z03c, rfl⟩ := FsF.own_form hown; have Hz0 := Lib.hid hown; have LHz0 := Lib.hid hlies; clear hown hlies; replace HB := Lib.hid (HB.out.trans (hb.mono HB.out.size)); replace BA0 := Lib.hid (Bx.Bk.all BA0.out hb); replace BX0 := Lib.hid (Bx.Bk.all BX0.out hb); replace RW := Lib.hid (De.own_below RW.out hb); replace Hx0 := Lib.hid (FsF.own_below Hx0.out hb); replace RG := Lib.hid (De.own_below RG.out hb); clear hb)
        | (go_at_call 16; (try (have _q := TK.out; clear _q TK; replace HB := Lib.hid HB.out.drew; replace BA0 := Lib.hid (Bx.Bk.drew BA0.out); replace BX0 := Lib.hid (Bx.Bk.drew BX0.out); replace RW := Lib.hid (De.own_below RW.out (Below.refl _ _).drew); replace Hx0 := Lib.hid (FsF.own_below Hx0.out (Below.refl _ _).drew); replace RG := Lib.hid (De.own_below RG.out (Below.refl _ _).drew))); with_reducible refine (FsF.eq_any _ (.agg #[.int .i64 x00, .slice x01a x01n x01c, .slice x02a x02n x02c, .slice x03a x03n x03c]) (.agg #[.int .i64 z00, .slice z01a z01n z01c, .slice z02a z02n z02c, .slice z03a z03n z03c]) n0 (by omega) (FsF.own_holds Hx0.out) (FsF.own_holds Hz0.out)).mono ?_; rintro e w8 ⟨rfl, hb⟩; have s8 := hb.size; (try simp only [World.size_alloc, World.size_drew] at s8); replace HB := Lib.hid (HB.out.trans (hb.mono HB.out.size)); replace BA0 := Lib.hid (Bx.Bk.all BA0.out hb); replace BX0 := Lib.hid (Bx.Bk.all BX0.out hb); (try replace Hz0 := Lib.hid (FsF.own_below Hz0.out hb)); replace RW := Lib.hid (De.own_below RW.out hb); replace Hx0 := Lib.hid (FsF.own_below Hx0.out hb); replace RG := Lib.hid (De.own_below RG.out hb); clear hb))
    clear vBA00 vBA01 vBA02 vBA03 vBX00 vBX01 vBX02 vBX03
    obtain ⟨vBA00, vBA01, vBA02, vBA03⟩ := Bx.Bk.c4 BA0.out
    obtain ⟨vBX00, vBX01, vBX02, vBX03⟩ := Bx.Bk.c4 BX0.out
    clear Hz0 LHz0
    go_wp2_with fail
    refine (FsF.mark_any _ _ (.agg #[.int .i64 x00, .slice x01a x01n x01c, .slice x02a x02n x02c, .slice x03a x03n x03c]) n0 _ 1 (by omega) (HWID0.out) Hx0.out).mono ?_
    rintro e w9 ⟨rfl, hown, hc⟩
    have s9 := hc.size
    clear vBA00 vBA01 vBA02 vBA03 vBX00 vBX01 vBX02 vBX03
    replace HB := Lib.hid (FlK.below_chg HB.out hc (by (try simp only [World.size_alloc]); omega) LHx0.out (by omega))
    replace BA0 := Lib.hid (FlK.bk_chg BA0.out hc (by first | exact FlK.not_in_low LHx0.out (by omega) | exact FlK.not_in_high LHx0.out (by omega)))
    replace BX0 := Lib.hid (FlK.bk_chg BX0.out hc (by first | exact FlK.not_in_low LHx0.out (by omega) | exact FlK.not_in_high LHx0.out (by omega)))
    replace RW := Lib.hid (De.own_chg RW.out hc (Foot.Lies.apart LRW.out LHx0.out (by omega)))
    replace RG := Lib.hid (De.own_chg RG.out hc (FlK.lies_apart LHx0.out LRG.out (by omega)))
    replace Hx0 := Lib.hid hown
    clear hown hc
    generalize 1 + FsF.wid n0 = K0
    obtain ⟨vBA00, vBA01, vBA02, vBA03⟩ := Bx.Bk.c4 BA0.out
    obtain ⟨vBX00, vBX01, vBX02, vBX03⟩ := Bx.Bk.c4 BX0.out
    clear vBA00 vBA01 vBA02 vBA03 vBX00 vBX01 vBX02 vBX03
    clear Hx0 BX0 LHx0
    obtain ⟨vBA00, vBA01, vBA02, vBA03⟩ := Bx.Bk.c4 BA0.out
    go_wp2_with fail
    refine (De.eq_any _ (.slice ga res0.length gc) (.slice wa res0.length wc) res0 (by omega) (De.own_holds RG.out) (De.own_holds RW.out)).mono ?_
    rintro e w10 ⟨rfl, hb⟩
    have s10 := hb.size
    clear vBA00 vBA01 vBA02 vBA03
    replace HB := Lib.hid (HB.out.trans (hb.mono HB.out.size))
    replace BA0 := Lib.hid (Bx.Bk.all BA0.out hb)
    replace RW := Lib.hid (De.own_below RW.out hb)
    replace RG := Lib.hid (De.own_below RG.out hb)
    clear hb
    obtain ⟨vBA00, vBA01, vBA02, vBA03⟩ := Bx.Bk.c4 BA0.out
    go_wp2_with fail
    refine (De.mark_any _ _ (.slice ga res0.length gc) res0 _ 1 (by omega) (by omega) RG.out).mono ?_
    rintro e w11 ⟨rfl, hown, hc⟩
    have s11 := hc.size
    clear vBA00 vBA01 vBA02 vBA03
    replace HB := Lib.hid (FlK.below_chg HB.out hc (by (try simp only [World.size_alloc]); omega) LRG.out (by omega))
    replace BA0 := Lib.hid (FlK.bk_chg BA0.out hc (by first | exact FlK.not_in_low LRG.out (by omega) | exact FlK.not_in_high LRG.out (by omega)))
    replace RW := Lib.hid (De.own_chg RW.out hc (Foot.Lies.apart LRW.out LRG.out (by omega)))
    replace RG := Lib.hid hown
    clear hown hc
    rw [← HK.out]
    obtain ⟨vBA00, vBA01, vBA02, vBA03⟩ := Bx.Bk.c4 BA0.out
    go_wp2_with fail
    refine (De.held_any _ (.slice ga res0.length gc) res0 1 (by omega) (by omega) (De.own_holds RG.out)).mono ?_
    rintro e w12 ⟨rfl, hb⟩
    have s12 := hb.size
    clear vBA00 vBA01 vBA02 vBA03
    rw [← HK.out]
    replace HB := Lib.hid (HB.out.trans (hb.mono HB.out.size))
    replace BA0 := Lib.hid (Bx.Bk.all BA0.out hb)
    replace RW := Lib.hid (De.own_below RW.out hb)
    replace RG := Lib.hid (De.own_below RG.out hb)
    clear hb
    obtain ⟨vBA00, vBA01, vBA02, vBA03⟩ := Bx.Bk.c4 BA0.out
    go_wp2_with fail
    refine (FsF.to_any _ (.agg #[.int .i64 v0x0, .slice v0x1a v0x1n v0x1c, .slice v0x2a v0x2n v0x2c, .slice v0x3a v0x3n v0x3c]) n0 (by omega) (FsF.holds_below HN0.out HB.out)).mono ?_
    rintro e w13 ⟨z0, Sz0, rfl, hown, hb⟩
    have s13 := hb.size
    clear vBA00 vBA01 vBA02 vBA03
    have hlies := FsF.own_lies hown
    obtain ⟨z00, z01a, z01n, z01c, z02a, z02n, z02c, z03a, z03n, z03c, rfl⟩ := FsF.own_form hown
    have Hz0 := Lib.hid hown
    have LHz0 := Lib.hid hlies
    clear hown hlies
    replace HB := Lib.hid (HB.out.trans (hb.mono HB.out.size))
    replace BA0 := Lib.hid (Bx.Bk.all BA0.out hb)
    replace RW := Lib.hid (De.own_below RW.out hb)
    replace RG := Lib.hid (De.own_below RG.out hb)
    clear hb
    obtain ⟨vBA00, vBA01, vBA02, vBA03⟩ := Bx.Bk.c4 BA0.out
    go_wp2_with fail
    refine (HI.out _ (.agg #[.int .i64 z00, .slice z01a z01n z01c, .slice z02a z02n z02c, .slice z03a z03n z03c]) (HV.out.all HB.out) (FsF.own_holds Hz0.out)).mono ?_
    rintro e w14 ⟨h, SH, rfl, hown, hb⟩
    have s14 := hb.size
    clear vBA00 vBA01 vBA02 vBA03
    have hlies := De.own_lies hown
    obtain ⟨ha, hc, rfl⟩ := De.own_form hown
    have RH := Lib.hid hown
    have LRH := Lib.hid hlies
    clear hown hlies
    replace HB := Lib.hid (HB.out.trans (hb.mono HB.out.size))
    replace BA0 := Lib.hid (Bx.Bk.all BA0.out hb)
    replace RW := Lib.hid (De.own_below RW.out hb)
    replace RG := Lib.hid (De.own_below RG.out hb)
    replace Hz0 := Lib.hid (FsF.own_below Hz0.out hb)
    clear hb
    obtain ⟨vBA00, vBA01, vBA02, vBA03⟩ := Bx.Bk.c4 BA0.out
    clear Hz0 LHz0
    go_wp2_with fail
    refine (De.eq_any _ (.slice ha res0.length hc) (.slice wa res0.length wc) res0 (by omega) (De.own_holds RH.out) (De.own_holds RW.out)).mono ?_
    rintro e w15 ⟨rfl, hb⟩
    have s15 := hb.size
    clear vBA00 vBA01 vBA02 vBA03
    replace HB := Lib.hid (HB.out.trans (hb.mono HB.out.size))
    replace BA0 := Lib.hid (Bx.Bk.all BA0.out hb)
    replace RW := Lib.hid (De.own_below RW.out hb)
    replace RG := Lib.hid (De.own_below RG.out hb)
    replace RH := Lib.hid (De.own_below RH.out hb)
    clear hb
    obtain ⟨vBA00, vBA01, vBA02, vBA03⟩ := Bx.Bk.c4 BA0.out
    go_wp2_with fail
    refine (De.held_any _ (.slice ga res0.length gc) res0 1 (by omega) (by omega) (De.own_holds RG.out)).mono ?_
    rintro e w16 ⟨rfl, hb⟩
    have s16 := hb.size
    clear vBA00 vBA01 vBA02 vBA03
    rw [← HK.out]
    replace HB := Lib.hid (HB.out.trans (hb.mono HB.out.size))
    replace BA0 := Lib.hid (Bx.Bk.all BA0.out hb)
    replace RW := Lib.hid (De.own_below RW.out hb)
    replace RG := Lib.hid (De.own_below RG.out hb)
    replace RH := Lib.hid (De.own_below RH.out hb)
    clear hb
    obtain ⟨vBA00, vBA01, vBA02, vBA03⟩ := Bx.Bk.c4 BA0.out
    go_wp2
    go_ret
    exact ⟨rfl, HB.out⟩
  · have HC0 := Lib.hid (show costOf (FsF.cost n0) 1048576 = -1 from cost_neg hc0)
    clear hc0
    go_enter Tryz.func4, Tryz.ntmps4
    have HB := Lib.hid (Below.refl w.heap.size w)
    have hb := Joins.below_alloc1 w (.cells #[.int .i64 v0x0, .slice v0x1a v0x1n v0x1c, .slice v0x2a v0x2n v0x2c, .slice v0x3a v0x3n v0x3c] 26)
    replace HB := Lib.hid (HB.out.trans (hb.mono HB.out.size))
    have BA0 := Lib.hid (Bx.new_at w #[.int .i64 v0x0, .slice v0x1a v0x1n v0x1c, .slice v0x2a v0x2n v0x2c, .slice v0x3a v0x3n v0x3c] 26 (w.heap.size) (by simp))
    clear hb
    obtain ⟨vBA00, vBA01, vBA02, vBA03⟩ := Bx.Bk.c4 BA0.out
    go_wp2_with fail
    refine (FsF.sz_any _ (.agg #[.int .i64 v0x0, .slice v0x1a v0x1n v0x1c, .slice v0x2a v0x2n v0x2c, .slice v0x3a v0x3n v0x3c]) n0 1048576 (by omega) HM0.out (FsF.holds_below HN0.out HB.out)).mono ?_
    rintro e w1 ⟨rfl, hb⟩
    have s1 := hb.size
    simp only [World.size_alloc] at s1
    clear vBA00 vBA01 vBA02 vBA03
    rw [HC0.out]
    replace HB := Lib.hid (HB.out.trans (hb.mono HB.out.size))
    replace BA0 := Lib.hid (Bx.Bk.all BA0.out hb)
    clear hb
    obtain ⟨vBA00, vBA01, vBA02, vBA03⟩ := Bx.Bk.c4 BA0.out
    go_wp2
    go_ret
    exact ⟨rfl, HB.out⟩
end Go.Proofs.YthppbcnejapbiaaGreatDoor.EntriesOfLaw
