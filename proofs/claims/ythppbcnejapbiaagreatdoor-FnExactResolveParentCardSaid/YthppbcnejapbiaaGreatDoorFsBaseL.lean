/- Helper texts joined, one behind another (a claim has at most 60 files): what each proves, its own head says: YthppbcnejapbiaaGreatDoorResolveParentLawA. -/
import Derived.Test.YthppbcnejapbiaaGreatDoorFsBaseA
import Derived.Test.YthppbcnejapbiaaGreatDoorFsBaseB
import Derived.Test.YthppbcnejapbiaaGreatDoorFsBaseC
import Derived.Test.YthppbcnejapbiaaGreatDoorEnBaseR

-- YthppbcnejapbiaaGreatDoorResolveParentLawA
/- The walk of the law FnExactResolveParent. Conditions: as the theorem types them. -/
namespace Go.Proofs.YthppbcnejapbiaaGreatDoor.ResolveParentLaw
open Go.ChangeShapes Go.WideShapes Go.ChangeAt Go.RowKit
open Go.ChangeMaps (open_string shut_string)
open Foot
set_option linter.unusedVariables false

set_option maxRecDepth 100000 in
set_option maxHeartbeats 6400000 in
theorem law_any (v0 : Value) (n0 : FsF.L) (v1 : Value) (n1 : CrF.L) (s : ByteArray) (w : World) (h0 : FsF.Lim n0 ∧ FsF.Holds w v0 n0) (h1 : CrF.Lim n1 ∧ CrF.Holds w v1 n1) (hz2 : s.size ≤ maxLen) (hv : InOk.Vars w) :
    Calls Tryz.prog 10 #[v0, v1, .string s] w fun e w' => e = .returned (.bool true) ∧ Below w.heap.size w w' := by
  have HV := Lib.hid hv
  clear hv
  obtain ⟨v0x0, v0x1a, v0x1n, v0x1c, v0x2a, v0x2n, v0x2c, v0x3a, v0x3n, v0x3c, rfl⟩ := FsF.form h0.2
  have HN0 := Lib.hid h0.2
  have HM0 := Lib.hid h0.1
  clear h0
  obtain ⟨v1x0, v1x1, v1x2a, v1x2n, v1x2c, rfl⟩ := CrF.form h1.2
  have HN1 := Lib.hid h1.2
  have HM1 := Lib.hid h1.1
  clear h1
  unfold maxLen at hz2
  by_cases hsz2 : s.size ≤ 1048576
  rotate_left
  · have q9 : decide (1048576 < (s.size : Int)) = true := decide_eq_true (by omega)
    go_enter Tryz.func10, Tryz.ntmps10
    have HB := Lib.hid (Below.refl w.heap.size w)
    have hb := Joins.below_alloc1 w (.cells #[.int .i64 v0x0, .slice v0x1a v0x1n v0x1c, .slice v0x2a v0x2n v0x2c, .slice v0x3a v0x3n v0x3c] 26)
    replace HB := Lib.hid (HB.out.trans (hb.mono HB.out.size))
    have BA0 := Lib.hid (Bx.new_at w #[.int .i64 v0x0, .slice v0x1a v0x1n v0x1c, .slice v0x2a v0x2n v0x2c, .slice v0x3a v0x3n v0x3c] 26 (w.heap.size) (by simp))
    clear hb
    obtain ⟨vBA00, vBA01, vBA02, vBA03⟩ := Bx.Bk.c4 BA0.out
    clear vBA00 vBA01 vBA02 vBA03
    have hb := Joins.below_alloc1 (w.alloc (.cells #[.int .i64 v0x0, .slice v0x1a v0x1n v0x1c, .slice v0x2a v0x2n v0x2c, .slice v0x3a v0x3n v0x3c] 26)) (.cells #[.int .i64 v1x0, .int .i64 v1x1, .slice v1x2a v1x2n v1x2c] 51)
    replace HB := Lib.hid (HB.out.trans (hb.mono HB.out.size))
    replace BA0 := Lib.hid (Bx.Bk.all BA0.out hb)
    have BA1 := Lib.hid (Bx.new_at (w.alloc (.cells #[.int .i64 v0x0, .slice v0x1a v0x1n v0x1c, .slice v0x2a v0x2n v0x2c, .slice v0x3a v0x3n v0x3c] 26)) #[.int .i64 v1x0, .int .i64 v1x1, .slice v1x2a v1x2n v1x2c] 51 (w.heap.size + 1) (by simp))
    clear hb
    obtain ⟨vBA00, vBA01, vBA02, vBA03⟩ := Bx.Bk.c4 BA0.out
    obtain ⟨vBA10, vBA11, vBA12⟩ := Bx.Bk.three BA1.out
    go_wp2
    go_ret
    exact ⟨rfl, HB.out⟩
  have q9_2 : decide (1048576 < (s.size : Int)) = false := decide_eq_false (by omega)
  by_cases hc0 : FsF.cost n0 ≤ 1048576
  · obtain ⟨r0, hr0⟩ : ∃ r0 : Nat, r0 = 1048576 - FsF.cost n0 := ⟨_, rfl⟩
    have HC0 := Lib.hid (show costOf (FsF.cost n0) 1048576 = (r0 : Int) by rw [hr0]; exact cost_pos hc0)
    have hle0 : r0 ≤ 1048576 := by omega
    have hlen0 : FsF.cost n0 ≤ 1048576 := by omega
    clear hr0 hc0
    by_cases hc1 : CrF.cost n1 ≤ r0
    · obtain ⟨r1, hr1⟩ : ∃ r1 : Nat, r1 = r0 - CrF.cost n1 := ⟨_, rfl⟩
      have HC1 := Lib.hid (show costOf (CrF.cost n1) r0 = (r1 : Int) by rw [hr1]; exact cost_pos hc1)
      have hle1 : r1 ≤ 1048576 := by omega
      have hlen1 : CrF.cost n1 ≤ 1048576 := by omega
      clear hr1 hc1
      have hs : ∀ (W : World) (q0 : Value) (q1 : Value), InOk.Vars W → FsF.Holds W q0 n0 → CrF.Holds W q1 n1 → Calls Tryz.prog 37 #[q0, q1, .string s] W fun e w' => e = .returned (.tuple #[(.int .i64 (PwV.parentV n0 n1 s).1), (.string (PwV.parentV n0 n1 s).2.1), (.int .i64 (PwV.parentV n0 n1 s).2.2)]) ∧ Below W.heap.size W w' := fun W q0 q1 pv p0 p1 => PwS.parent_spec W q0 q1 n0 n1 s (by omega) HM0.out (by have := CrF.le_groups n1; unfold NiF.cost at this; omega) (by omega) p0 p1
      have hi : ∀ (W : World) (q0 : Value) (q1 : Value), InOk.Vars W → FsF.Holds W q0 n0 → CrF.Holds W q1 n1 → Calls Tryz.prog 38 #[q0, q1, .string s] W fun e w' => e = .returned (.tuple #[(.int .i64 (PwV.parentV n0 n1 s).1), (.string (PwV.parentV n0 n1 s).2.1), (.int .i64 (PwV.parentV n0 n1 s).2.2)]) ∧ Below W.heap.size W w' := fun W q0 q1 pv p0 p1 => PwR.parent_impl W q0 q1 n0 n1 s (by omega) HM0.out pv (by have := CrF.le_groups n1; unfold NiF.cost at this; omega) (by omega) p0 p1
      generalize PwV.parentV n0 n1 s = res at hs hi
      have HS := Lib.hid hs
      have HI := Lib.hid hi
      clear hs hi
      go_enter Tryz.func10, Tryz.ntmps10
      have HB := Lib.hid (Below.refl w.heap.size w)
      have hb := Joins.below_alloc1 w (.cells #[.int .i64 v0x0, .slice v0x1a v0x1n v0x1c, .slice v0x2a v0x2n v0x2c, .slice v0x3a v0x3n v0x3c] 26)
      replace HB := Lib.hid (HB.out.trans (hb.mono HB.out.size))
      have BA0 := Lib.hid (Bx.new_at w #[.int .i64 v0x0, .slice v0x1a v0x1n v0x1c, .slice v0x2a v0x2n v0x2c, .slice v0x3a v0x3n v0x3c] 26 (w.heap.size) (by simp))
      clear hb
      obtain ⟨vBA00, vBA01, vBA02, vBA03⟩ := Bx.Bk.c4 BA0.out
      clear vBA00 vBA01 vBA02 vBA03
      have hb := Joins.below_alloc1 (w.alloc (.cells #[.int .i64 v0x0, .slice v0x1a v0x1n v0x1c, .slice v0x2a v0x2n v0x2c, .slice v0x3a v0x3n v0x3c] 26)) (.cells #[.int .i64 v1x0, .int .i64 v1x1, .slice v1x2a v1x2n v1x2c] 51)
      replace HB := Lib.hid (HB.out.trans (hb.mono HB.out.size))
      replace BA0 := Lib.hid (Bx.Bk.all BA0.out hb)
      have BA1 := Lib.hid (Bx.new_at (w.alloc (.cells #[.int .i64 v0x0, .slice v0x1a v0x1n v0x1c, .slice v0x2a v0x2n v0x2c, .slice v0x3a v0x3n v0x3c] 26)) #[.int .i64 v1x0, .int .i64 v1x1, .slice v1x2a v1x2n v1x2c] 51 (w.heap.size + 1) (by simp))
      clear hb
      obtain ⟨vBA00, vBA01, vBA02, vBA03⟩ := Bx.Bk.c4 BA0.out
      obtain ⟨vBA10, vBA11, vBA12⟩ := Bx.Bk.three BA1.out
      go_wp2_with fail
      refine (FsF.sz_any _ (.agg #[.int .i64 v0x0, .slice v0x1a v0x1n v0x1c, .slice v0x2a v0x2n v0x2c, .slice v0x3a v0x3n v0x3c]) n0 1048576 (by omega) HM0.out (FsF.holds_below HN0.out HB.out)).mono ?_
      rintro e w1 ⟨rfl, hb⟩
      have s1 := hb.size
      simp only [World.size_alloc] at s1
      clear vBA00 vBA01 vBA02 vBA03 vBA10 vBA11 vBA12
      rw [HC0.out]
      replace HB := Lib.hid (HB.out.trans (hb.mono HB.out.size))
      replace BA0 := Lib.hid (Bx.Bk.all BA0.out hb)
      replace BA1 := Lib.hid (Bx.Bk.all BA1.out hb)
      clear hb
      obtain ⟨vBA00, vBA01, vBA02, vBA03⟩ := Bx.Bk.c4 BA0.out
      obtain ⟨vBA10, vBA11, vBA12⟩ := Bx.Bk.three BA1.out
      go_wp2_with fail
      refine (CrF.sz_any _ (.agg #[.int .i64 v1x0, .int .i64 v1x1, .slice v1x2a v1x2n v1x2c]) n1 r0 (by omega) HM1.out (CrF.holds_below HN1.out HB.out)).mono ?_
      rintro e w2 ⟨rfl, hb⟩
      have s2 := hb.size
      clear vBA00 vBA01 vBA02 vBA03 vBA10 vBA11 vBA12
      rw [HC1.out]
      replace HB := Lib.hid (HB.out.trans (hb.mono HB.out.size))
      replace BA0 := Lib.hid (Bx.Bk.all BA0.out hb)
      replace BA1 := Lib.hid (Bx.Bk.all BA1.out hb)
      clear hb
      obtain ⟨vBA00, vBA01, vBA02, vBA03⟩ := Bx.Bk.c4 BA0.out
      obtain ⟨vBA10, vBA11, vBA12⟩ := Bx.Bk.three BA1.out
      have TK := Lib.hid trivial
      have TA0 := Lib.hid trivial
      have TA1 := Lib.hid trivial
      go_wp2
      go_region_held3 (fun w' => (w'.cell? ⟨w.heap.size, 0, none⟩ = some (.int .i64 v0x0) ∧ w'.cell? ⟨w.heap.size, 1, none⟩ = some (.slice v0x1a v0x1n v0x1c) ∧ w'.cell? ⟨w.heap.size, 2, none⟩ = some (.slice v0x2a v0x2n v0x2c) ∧ w'.cell? ⟨w.heap.size, 3, none⟩ = some (.slice v0x3a v0x3n v0x3c)) ∧ (w'.cell? ⟨w.heap.size + 1, 0, none⟩ = some (.int .i64 v1x0) ∧ w'.cell? ⟨w.heap.size + 1, 1, none⟩ = some (.int .i64 v1x1) ∧ w'.cell? ⟨w.heap.size + 1, 2, none⟩ = some (.slice v1x2a v1x2n v1x2c))) ((first | exact ⟨Bx.Bk.c4 BA0.out, Bx.Bk.three BA1.out⟩ | go_keep))
        (first
          | (go_at_call 14; have _q := TA0.out; clear _q TA0; (try (have _q := TK.out; clear _q TK; replace HB := Lib.hid HB.out.drew; replace BA0 := Lib.hid (Bx.Bk.drew BA0.out); replace BA1 := Lib.hid (Bx.Bk.drew BA1.out))); with_reducible refine (FsF.to_any _ (.agg #[.int .i64 v0x0, .slice v0x1a v0x1n v0x1c, .slice v0x2a v0x2n v0x2c, .slice v0x3a v0x3n v0x3c]) n0 (by omega) (FsF.holds_below HN0.out HB.out)).mono ?_; rintro e w3 ⟨k0, Sk0, rfl, hown, hb⟩; have s3 := hb.size; (try simp only [World.size_alloc, World.size_drew] at s3); have hlies := FsF.own_lies hown; (try simp only [World.size_alloc, World.size_drew] at hlies); obtain ⟨k00, k01a, k01n, k01c, k02a, k02n, k02c, k03a, k03n, k03c, rfl⟩ := FsF.own_form hown; have Hk0 := Lib.hid hown; have LHk0 := Lib.hid hlies; clear hown hlies; replace HB := Lib.hid (HB.out.trans (hb.mono HB.out.size)); replace BA0 := Lib.hid (Bx.Bk.all BA0.out hb); replace BA1 := Lib.hid (Bx.Bk.all BA1.out hb); (try replace Hk1 := Lib.hid (CrF.own_below Hk1.out hb)); clear hb)
          | (go_at_call 32; have _q := TA1.out; clear _q TA1; (try (have _q := TK.out; clear _q TK; replace HB := Lib.hid HB.out.drew; replace BA0 := Lib.hid (Bx.Bk.drew BA0.out); replace BA1 := Lib.hid (Bx.Bk.drew BA1.out))); with_reducible refine (CrF.to_any _ (.agg #[.int .i64 v1x0, .int .i64 v1x1, .slice v1x2a v1x2n v1x2c]) n1 (by omega) (CrF.holds_below HN1.out HB.out)).mono ?_; rintro e w4 ⟨k1, Sk1, rfl, hown, hb⟩; have s4 := hb.size; (try simp only [World.size_alloc, World.size_drew] at s4); have hlies := CrF.own_lies hown; (try simp only [World.size_alloc, World.size_drew] at hlies); obtain ⟨k10, k11, k12a, k12n, k12c, rfl⟩ := CrF.own_form hown; have Hk1 := Lib.hid hown; have LHk1 := Lib.hid hlies; clear hown hlies; replace HB := Lib.hid (HB.out.trans (hb.mono HB.out.size)); replace BA0 := Lib.hid (Bx.Bk.all BA0.out hb); replace BA1 := Lib.hid (Bx.Bk.all BA1.out hb); (try replace Hk0 := Lib.hid (FsF.own_below Hk0.out hb)); clear hb)
          | (go_at_call 37; (try (have _q := TK.out; clear _q TK; replace HB := Lib.hid HB.out.drew; replace BA0 := Lib.hid (Bx.Bk.drew BA0.out); replace BA1 := Lib.hid (Bx.Bk.drew BA1.out))); with_reducible refine (HS.out _ (.agg #[.int .i64 k00, .slice k01a k01n k01c, .slice k02a k02n k02c, .slice k03a k03n k03c]) (.agg #[.int .i64 k10, .int .i64 k11, .slice k12a k12n k12c]) (HV.out.all HB.out) (FsF.own_holds Hk0.out) (CrF.own_holds Hk1.out)).mono ?_; rintro e w5 ⟨rfl, hb⟩; have s5 := hb.size; (try simp only [World.size_alloc, World.size_drew] at s5); replace HB := Lib.hid (HB.out.trans (hb.mono HB.out.size)); replace BA0 := Lib.hid (Bx.Bk.all BA0.out hb); replace BA1 := Lib.hid (Bx.Bk.all BA1.out hb); (try replace Hk0 := Lib.hid (FsF.own_below Hk0.out hb)); (try replace Hk1 := Lib.hid (CrF.own_below Hk1.out hb)); clear hb))
      all_goals
        clear vBA00 vBA01 vBA02 vBA03 vBA10 vBA11 vBA12
        obtain ⟨vBA00, vBA01, vBA02, vBA03⟩ := Bx.Bk.c4 BA0.out
        obtain ⟨vBA10, vBA11, vBA12⟩ := Bx.Bk.three BA1.out
        clear Hk0 Hk1 LHk0 LHk1
        go_wp2_with fail
        refine (FsF.to_any _ (.agg #[.int .i64 v0x0, .slice v0x1a v0x1n v0x1c, .slice v0x2a v0x2n v0x2c, .slice v0x3a v0x3n v0x3c]) n0 (by omega) (FsF.holds_below HN0.out HB.out)).mono ?_
        rintro e w6 ⟨x0, Sx0, rfl, hown, hb⟩
        have s6 := hb.size
        clear vBA00 vBA01 vBA02 vBA03 vBA10 vBA11 vBA12
        have hlies := FsF.own_lies hown
        obtain ⟨x00, x01a, x01n, x01c, x02a, x02n, x02c, x03a, x03n, x03c, rfl⟩ := FsF.own_form hown
        have Hx0 := Lib.hid hown
        have LHx0 := Lib.hid hlies
        clear hown hlies
        replace HB := Lib.hid (HB.out.trans (hb.mono HB.out.size))
        replace BA0 := Lib.hid (Bx.Bk.all BA0.out hb)
        replace BA1 := Lib.hid (Bx.Bk.all BA1.out hb)
        clear hb
        obtain ⟨vBA00, vBA01, vBA02, vBA03⟩ := Bx.Bk.c4 BA0.out
        obtain ⟨vBA10, vBA11, vBA12⟩ := Bx.Bk.three BA1.out
        clear vBA00 vBA01 vBA02 vBA03 vBA10 vBA11 vBA12
        have hb := Joins.below_alloc1 w6 (.cells #[.int .i64 x00, .slice x01a x01n x01c, .slice x02a x02n x02c, .slice x03a x03n x03c] 33)
        replace HB := Lib.hid (HB.out.trans (hb.mono HB.out.size))
        replace BA0 := Lib.hid (Bx.Bk.all BA0.out hb)
        replace BA1 := Lib.hid (Bx.Bk.all BA1.out hb)
        replace Hx0 := Lib.hid (FsF.own_below Hx0.out hb)
        have BX0 := Lib.hid (Bx.new_at w6 #[.int .i64 x00, .slice x01a x01n x01c, .slice x02a x02n x02c, .slice x03a x03n x03c] 33 (w6.heap.size) (by simp))
        clear hb
        obtain ⟨vBA00, vBA01, vBA02, vBA03⟩ := Bx.Bk.c4 BA0.out
        obtain ⟨vBA10, vBA11, vBA12⟩ := Bx.Bk.three BA1.out
        obtain ⟨vBX00, vBX01, vBX02, vBX03⟩ := Bx.Bk.c4 BX0.out
        go_wp2_with fail
        refine (CrF.to_any _ (.agg #[.int .i64 v1x0, .int .i64 v1x1, .slice v1x2a v1x2n v1x2c]) n1 (by omega) (CrF.holds_below HN1.out HB.out)).mono ?_
        rintro e w7 ⟨x1, Sx1, rfl, hown, hb⟩
        have s7 := hb.size
        simp only [World.size_alloc] at s7
        clear vBA00 vBA01 vBA02 vBA03 vBA10 vBA11 vBA12 vBX00 vBX01 vBX02 vBX03
        have hlies := CrF.own_lies hown
        simp only [World.size_alloc] at hlies
        obtain ⟨x10, x11, x12a, x12n, x12c, rfl⟩ := CrF.own_form hown
        have Hx1 := Lib.hid hown
        have LHx1 := Lib.hid hlies
        clear hown hlies
        replace HB := Lib.hid (HB.out.trans (hb.mono HB.out.size))
        replace BA0 := Lib.hid (Bx.Bk.all BA0.out hb)
        replace BA1 := Lib.hid (Bx.Bk.all BA1.out hb)
        replace BX0 := Lib.hid (Bx.Bk.all BX0.out hb)
        replace Hx0 := Lib.hid (FsF.own_below Hx0.out hb)
        clear hb
        obtain ⟨vBA00, vBA01, vBA02, vBA03⟩ := Bx.Bk.c4 BA0.out
        obtain ⟨vBA10, vBA11, vBA12⟩ := Bx.Bk.three BA1.out
        obtain ⟨vBX00, vBX01, vBX02, vBX03⟩ := Bx.Bk.c4 BX0.out
        clear vBA00 vBA01 vBA02 vBA03 vBA10 vBA11 vBA12 vBX00 vBX01 vBX02 vBX03
        have hb := Joins.below_alloc1 w7 (.cells #[.int .i64 x10, .int .i64 x11, .slice x12a x12n x12c] 54)
        replace HB := Lib.hid (HB.out.trans (hb.mono HB.out.size))
        replace BA0 := Lib.hid (Bx.Bk.all BA0.out hb)
        replace BA1 := Lib.hid (Bx.Bk.all BA1.out hb)
        replace BX0 := Lib.hid (Bx.Bk.all BX0.out hb)
        replace Hx0 := Lib.hid (FsF.own_below Hx0.out hb)
        replace Hx1 := Lib.hid (CrF.own_below Hx1.out hb)
        have BX1 := Lib.hid (Bx.new_at w7 #[.int .i64 x10, .int .i64 x11, .slice x12a x12n x12c] 54 (w7.heap.size) (by simp))
        clear hb
        obtain ⟨vBA00, vBA01, vBA02, vBA03⟩ := Bx.Bk.c4 BA0.out
        obtain ⟨vBA10, vBA11, vBA12⟩ := Bx.Bk.three BA1.out
        obtain ⟨vBX00, vBX01, vBX02, vBX03⟩ := Bx.Bk.c4 BX0.out
        obtain ⟨vBX10, vBX11, vBX12⟩ := Bx.Bk.three BX1.out
        go_wp2_with fail
        refine (HI.out _ (.agg #[.int .i64 x00, .slice x01a x01n x01c, .slice x02a x02n x02c, .slice x03a x03n x03c]) (.agg #[.int .i64 x10, .int .i64 x11, .slice x12a x12n x12c]) (HV.out.all HB.out) (FsF.own_holds Hx0.out) (CrF.own_holds Hx1.out)).mono ?_
        rintro e w8 ⟨rfl, hb⟩
        have s8 := hb.size
        simp only [World.size_alloc] at s8
        clear vBA00 vBA01 vBA02 vBA03 vBA10 vBA11 vBA12 vBX00 vBX01 vBX02 vBX03 vBX10 vBX11 vBX12
        replace HB := Lib.hid (HB.out.trans (hb.mono HB.out.size))
        replace BA0 := Lib.hid (Bx.Bk.all BA0.out hb)
        replace BA1 := Lib.hid (Bx.Bk.all BA1.out hb)
        replace BX0 := Lib.hid (Bx.Bk.all BX0.out hb)
        replace BX1 := Lib.hid (Bx.Bk.all BX1.out hb)
        replace Hx0 := Lib.hid (FsF.own_below Hx0.out hb)
        replace Hx1 := Lib.hid (CrF.own_below Hx1.out hb)
        clear hb
        obtain ⟨vBA00, vBA01, vBA02, vBA03⟩ := Bx.Bk.c4 BA0.out
        obtain ⟨vBA10, vBA11, vBA12⟩ := Bx.Bk.three BA1.out
        obtain ⟨vBX00, vBX01, vBX02, vBX03⟩ := Bx.Bk.c4 BX0.out
        obtain ⟨vBX10, vBX11, vBX12⟩ := Bx.Bk.three BX1.out
        have TK := Lib.hid trivial
        go_wp2
        go_region_held3 (fun w' => (w'.cell? ⟨w.heap.size, 0, none⟩ = some (.int .i64 v0x0) ∧ w'.cell? ⟨w.heap.size, 1, none⟩ = some (.slice v0x1a v0x1n v0x1c) ∧ w'.cell? ⟨w.heap.size, 2, none⟩ = some (.slice v0x2a v0x2n v0x2c) ∧ w'.cell? ⟨w.heap.size, 3, none⟩ = some (.slice v0x3a v0x3n v0x3c)) ∧ (w'.cell? ⟨w6.heap.size, 0, none⟩ = some (.int .i64 x00) ∧ w'.cell? ⟨w6.heap.size, 1, none⟩ = some (.slice x01a x01n x01c) ∧ w'.cell? ⟨w6.heap.size, 2, none⟩ = some (.slice x02a x02n x02c) ∧ w'.cell? ⟨w6.heap.size, 3, none⟩ = some (.slice x03a x03n x03c))) ((first | exact ⟨Bx.Bk.c4 BA0.out, Bx.Bk.c4 BX0.out⟩ | go_keep))
          (first
            | (go_at_call 14; (try (have _q := TK.out; clear _q TK; replace HB := Lib.hid HB.out.drew; replace BA0 := Lib.hid (Bx.Bk.drew BA0.out); replace BA1 := Lib.hid (Bx.Bk.drew BA1.out); replace BX0 := Lib.hid (Bx.Bk.drew BX0.out); replace BX1 := Lib.hid (Bx.Bk.drew BX1.out); replace Hx0 := Lib.hid (FsF.own_below Hx0.out (Below.refl _ _).drew); replace Hx1 := Lib.hid (CrF.own_below Hx1.out (Below.refl _ _).drew))); with_reducible refine (FsF.to_any _ (.agg #[.int .i64 v0x0, .slice v0x1a v0x1n v0x1c, .slice v0x2a v0x2n v0x2c, .slice v0x3a v0x3n v0x3c]) n0 (by omega) (FsF.holds_below HN0.out HB.out)).mono ?_; rintro e w9 ⟨z0, Sz0, rfl, hown, hb⟩; have s9 := hb.size; (try simp only [World.size_alloc, World.size_drew] at s9); have hlies := FsF.own_lies hown; (try simp only [World.size_alloc, World.size_drew] at hlies); obtain ⟨z00, z01a, z01n, z01c, z02a, z02n, z02c, z03a, z03n, z03c, rfl⟩ := FsF.own_form hown; have Hz0 := Lib.hid hown; have LHz0 := Lib.hid hlies; clear hown hlies; replace HB := Lib.hid (HB.out.trans (hb.mono HB.out.size)); replace BA0 := Lib.hid (Bx.Bk.all BA0.out hb); replace BA1 := Lib.hid (Bx.Bk.all BA1.out hb); replace BX0 := Lib.hid (Bx.Bk.all BX0.out hb); replace BX1 := Lib.hid (Bx.Bk.all BX1.out hb); replace Hx0 := Lib.hid (FsF.own_below Hx0.out hb); replace Hx1 := Lib.hid (CrF.own_below Hx1.out hb); clear hb)
            | (go_at_call 16; (try (have _q := TK.out; clear _q TK; replace HB := Lib.hid HB.out.drew; replace BA0 := Lib.hid (Bx.Bk.drew BA0.out); replace BA1 := Lib.hid (Bx.Bk.drew BA1.out); replace BX0 := Lib.hid (Bx.Bk.drew BX0.out); replace BX1 := Lib.hid (Bx.Bk.drew BX1.out); replace Hx0 := Lib.hid (FsF.own_below Hx0.out (Below.refl _ _).drew); replace Hx1 := Lib.hid (CrF.own_below Hx1.out (Below.refl _ _).drew))); with_reducible refine (FsF.eq_any _ (.agg #[.int .i64 x00, .slice x01a x01n x01c, .slice x02a x02n x02c, .slice x03a x03n x03c]) (.agg #[.int .i64 z00, .slice z01a z01n z01c, .slice z02a z02n z02c, .slice z03a z03n z03c]) n0 (by omega) (FsF.own_holds Hx0.out) (FsF.own_holds Hz0.out)).mono ?_; rintro e w10 ⟨rfl, hb⟩; have s10 := hb.size; (try simp only [World.size_alloc, World.size_drew] at s10); replace HB := Lib.hid (HB.out.trans (hb.mono HB.out.size)); replace BA0 := Lib.hid (Bx.Bk.all BA0.out hb); replace BA1 := Lib.hid (Bx.Bk.all BA1.out hb); replace BX0 := Lib.hid (Bx.Bk.all BX0.out hb); replace BX1 := Lib.hid (Bx.Bk.all BX1.out hb); (try replace Hz0 := Lib.hid (FsF.own_below Hz0.out hb)); replace Hx0 := Lib.hid (FsF.own_below Hx0.out hb); replace Hx1 := Lib.hid (CrF.own_below Hx1.out hb); clear hb))
        clear vBA00 vBA01 vBA02 vBA03 vBA10 vBA11 vBA12 vBX00 vBX01 vBX02 vBX03 vBX10 vBX11 vBX12
        obtain ⟨vBA00, vBA01, vBA02, vBA03⟩ := Bx.Bk.c4 BA0.out
        obtain ⟨vBA10, vBA11, vBA12⟩ := Bx.Bk.three BA1.out
        obtain ⟨vBX00, vBX01, vBX02, vBX03⟩ := Bx.Bk.c4 BX0.out
        obtain ⟨vBX10, vBX11, vBX12⟩ := Bx.Bk.three BX1.out
        clear Hz0 LHz0
        have TK := Lib.hid trivial
        go_wp2
        go_region_held3 (fun w' => (w'.cell? ⟨w.heap.size + 1, 0, none⟩ = some (.int .i64 v1x0) ∧ w'.cell? ⟨w.heap.size + 1, 1, none⟩ = some (.int .i64 v1x1) ∧ w'.cell? ⟨w.heap.size + 1, 2, none⟩ = some (.slice v1x2a v1x2n v1x2c)) ∧ (w'.cell? ⟨w7.heap.size, 0, none⟩ = some (.int .i64 x10) ∧ w'.cell? ⟨w7.heap.size, 1, none⟩ = some (.int .i64 x11) ∧ w'.cell? ⟨w7.heap.size, 2, none⟩ = some (.slice x12a x12n x12c))) ((first | exact ⟨Bx.Bk.three BA1.out, Bx.Bk.three BX1.out⟩ | go_keep))
          (first
            | (go_at_call 32; (try (have _q := TK.out; clear _q TK; replace HB := Lib.hid HB.out.drew; replace BA0 := Lib.hid (Bx.Bk.drew BA0.out); replace BA1 := Lib.hid (Bx.Bk.drew BA1.out); replace BX0 := Lib.hid (Bx.Bk.drew BX0.out); replace BX1 := Lib.hid (Bx.Bk.drew BX1.out); replace Hx0 := Lib.hid (FsF.own_below Hx0.out (Below.refl _ _).drew); replace Hx1 := Lib.hid (CrF.own_below Hx1.out (Below.refl _ _).drew))); with_reducible refine (CrF.to_any _ (.agg #[.int .i64 v1x0, .int .i64 v1x1, .slice v1x2a v1x2n v1x2c]) n1 (by omega) (CrF.holds_below HN1.out HB.out)).mono ?_; rintro e w11 ⟨z1, Sz1, rfl, hown, hb⟩; have s11 := hb.size; (try simp only [World.size_alloc, World.size_drew] at s11); have hlies := CrF.own_lies hown; (try simp only [World.size_alloc, World.size_drew] at hlies); obtain ⟨z10, z11, z12a, z12n, z12c, rfl⟩ := CrF.own_form hown; have Hz1 := Lib.hid hown; have LHz1 := Lib.hid hlies; clear hown hlies; replace HB := Lib.hid (HB.out.trans (hb.mono HB.out.size)); replace BA0 := Lib.hid (Bx.Bk.all BA0.out hb); replace BA1 := Lib.hid (Bx.Bk.all BA1.out hb); replace BX0 := Lib.hid (Bx.Bk.all BX0.out hb); replace BX1 := Lib.hid (Bx.Bk.all BX1.out hb); replace Hx0 := Lib.hid (FsF.own_below Hx0.out hb); replace Hx1 := Lib.hid (CrF.own_below Hx1.out hb); clear hb)
            | (go_at_call 34; (try (have _q := TK.out; clear _q TK; replace HB := Lib.hid HB.out.drew; replace BA0 := Lib.hid (Bx.Bk.drew BA0.out); replace BA1 := Lib.hid (Bx.Bk.drew BA1.out); replace BX0 := Lib.hid (Bx.Bk.drew BX0.out); replace BX1 := Lib.hid (Bx.Bk.drew BX1.out); replace Hx0 := Lib.hid (FsF.own_below Hx0.out (Below.refl _ _).drew); replace Hx1 := Lib.hid (CrF.own_below Hx1.out (Below.refl _ _).drew))); with_reducible refine (CrF.eq_any _ (.agg #[.int .i64 x10, .int .i64 x11, .slice x12a x12n x12c]) (.agg #[.int .i64 z10, .int .i64 z11, .slice z12a z12n z12c]) n1 (by omega) (CrF.own_holds Hx1.out) (CrF.own_holds Hz1.out)).mono ?_; rintro e w12 ⟨rfl, hb⟩; have s12 := hb.size; (try simp only [World.size_alloc, World.size_drew] at s12); replace HB := Lib.hid (HB.out.trans (hb.mono HB.out.size)); replace BA0 := Lib.hid (Bx.Bk.all BA0.out hb); replace BA1 := Lib.hid (Bx.Bk.all BA1.out hb); replace BX0 := Lib.hid (Bx.Bk.all BX0.out hb); replace BX1 := Lib.hid (Bx.Bk.all BX1.out hb); (try replace Hz1 := Lib.hid (CrF.own_below Hz1.out hb)); replace Hx0 := Lib.hid (FsF.own_below Hx0.out hb); replace Hx1 := Lib.hid (CrF.own_below Hx1.out hb); clear hb))
        clear vBA00 vBA01 vBA02 vBA03 vBA10 vBA11 vBA12 vBX00 vBX01 vBX02 vBX03 vBX10 vBX11 vBX12
        obtain ⟨vBA00, vBA01, vBA02, vBA03⟩ := Bx.Bk.c4 BA0.out
        obtain ⟨vBA10, vBA11, vBA12⟩ := Bx.Bk.three BA1.out
        obtain ⟨vBX00, vBX01, vBX02, vBX03⟩ := Bx.Bk.c4 BX0.out
        obtain ⟨vBX10, vBX11, vBX12⟩ := Bx.Bk.three BX1.out
        clear Hz1 LHz1
        go_wp2
        go_ret
        exact ⟨rfl, HB.out⟩
    · have HC1 := Lib.hid (show costOf (CrF.cost n1) r0 = -1 from cost_neg hc1)
      clear hc1
      go_enter Tryz.func10, Tryz.ntmps10
      have HB := Lib.hid (Below.refl w.heap.size w)
      have hb := Joins.below_alloc1 w (.cells #[.int .i64 v0x0, .slice v0x1a v0x1n v0x1c, .slice v0x2a v0x2n v0x2c, .slice v0x3a v0x3n v0x3c] 26)
      replace HB := Lib.hid (HB.out.trans (hb.mono HB.out.size))
      have BA0 := Lib.hid (Bx.new_at w #[.int .i64 v0x0, .slice v0x1a v0x1n v0x1c, .slice v0x2a v0x2n v0x2c, .slice v0x3a v0x3n v0x3c] 26 (w.heap.size) (by simp))
      clear hb
      obtain ⟨vBA00, vBA01, vBA02, vBA03⟩ := Bx.Bk.c4 BA0.out
      clear vBA00 vBA01 vBA02 vBA03
      have hb := Joins.below_alloc1 (w.alloc (.cells #[.int .i64 v0x0, .slice v0x1a v0x1n v0x1c, .slice v0x2a v0x2n v0x2c, .slice v0x3a v0x3n v0x3c] 26)) (.cells #[.int .i64 v1x0, .int .i64 v1x1, .slice v1x2a v1x2n v1x2c] 51)
      replace HB := Lib.hid (HB.out.trans (hb.mono HB.out.size))
      replace BA0 := Lib.hid (Bx.Bk.all BA0.out hb)
      have BA1 := Lib.hid (Bx.new_at (w.alloc (.cells #[.int .i64 v0x0, .slice v0x1a v0x1n v0x1c, .slice v0x2a v0x2n v0x2c, .slice v0x3a v0x3n v0x3c] 26)) #[.int .i64 v1x0, .int .i64 v1x1, .slice v1x2a v1x2n v1x2c] 51 (w.heap.size + 1) (by simp))
      clear hb
      obtain ⟨vBA00, vBA01, vBA02, vBA03⟩ := Bx.Bk.c4 BA0.out
      obtain ⟨vBA10, vBA11, vBA12⟩ := Bx.Bk.three BA1.out
      go_wp2_with fail
      refine (FsF.sz_any _ (.agg #[.int .i64 v0x0, .slice v0x1a v0x1n v0x1c, .slice v0x2a v0x2n v0x2c, .slice v0x3a v0x3n v0x3c]) n0 1048576 (by omega) HM0.out (FsF.holds_below HN0.out HB.out)).mono ?_
      rintro e w1 ⟨rfl, hb⟩
      have s1 := hb.size
      simp only [World.size_alloc] at s1
      clear vBA00 vBA01 vBA02 vBA03 vBA10 vBA11 vBA12
      rw [HC0.out]
      replace HB := Lib.hid (HB.out.trans (hb.mono HB.out.size))
      replace BA0 := Lib.hid (Bx.Bk.all BA0.out hb)
      replace BA1 := Lib.hid (Bx.Bk.all BA1.out hb)
      clear hb
      obtain ⟨vBA00, vBA01, vBA02, vBA03⟩ := Bx.Bk.c4 BA0.out
      obtain ⟨vBA10, vBA11, vBA12⟩ := Bx.Bk.three BA1.out
      go_wp2_with fail
      refine (CrF.sz_any _ (.agg #[.int .i64 v1x0, .int .i64 v1x1, .slice v1x2a v1x2n v1x2c]) n1 r0 (by omega) HM1.out (CrF.holds_below HN1.out HB.out)).mono ?_
      rintro e w2 ⟨rfl, hb⟩
      have s2 := hb.size
      clear vBA00 vBA01 vBA02 vBA03 vBA10 vBA11 vBA12
      rw [HC1.out]
      replace HB := Lib.hid (HB.out.trans (hb.mono HB.out.size))
      replace BA0 := Lib.hid (Bx.Bk.all BA0.out hb)
      replace BA1 := Lib.hid (Bx.Bk.all BA1.out hb)
      clear hb
      obtain ⟨vBA00, vBA01, vBA02, vBA03⟩ := Bx.Bk.c4 BA0.out
      obtain ⟨vBA10, vBA11, vBA12⟩ := Bx.Bk.three BA1.out
      go_wp2
      go_ret
      exact ⟨rfl, HB.out⟩
  · have HC0 := Lib.hid (show costOf (FsF.cost n0) 1048576 = -1 from cost_neg hc0)
    clear hc0
    go_enter Tryz.func10, Tryz.ntmps10
    have HB := Lib.hid (Below.refl w.heap.size w)
    have hb := Joins.below_alloc1 w (.cells #[.int .i64 v0x0, .slice v0x1a v0x1n v0x1c, .slice v0x2a v0x2n v0x2c, .slice v0x3a v0x3n v0x3c] 26)
    replace HB := Lib.hid (HB.out.trans (hb.mono HB.out.size))
    have BA0 := Lib.hid (Bx.new_at w #[.int .i64 v0x0, .slice v0x1a v0x1n v0x1c, .slice v0x2a v0x2n v0x2c, .slice v0x3a v0x3n v0x3c] 26 (w.heap.size) (by simp))
    clear hb
    obtain ⟨vBA00, vBA01, vBA02, vBA03⟩ := Bx.Bk.c4 BA0.out
    clear vBA00 vBA01 vBA02 vBA03
    have hb := Joins.below_alloc1 (w.alloc (.cells #[.int .i64 v0x0, .slice v0x1a v0x1n v0x1c, .slice v0x2a v0x2n v0x2c, .slice v0x3a v0x3n v0x3c] 26)) (.cells #[.int .i64 v1x0, .int .i64 v1x1, .slice v1x2a v1x2n v1x2c] 51)
    replace HB := Lib.hid (HB.out.trans (hb.mono HB.out.size))
    replace BA0 := Lib.hid (Bx.Bk.all BA0.out hb)
    have BA1 := Lib.hid (Bx.new_at (w.alloc (.cells #[.int .i64 v0x0, .slice v0x1a v0x1n v0x1c, .slice v0x2a v0x2n v0x2c, .slice v0x3a v0x3n v0x3c] 26)) #[.int .i64 v1x0, .int .i64 v1x1, .slice v1x2a v1x2n v1x2c] 51 (w.heap.size + 1) (by simp))
    clear hb
    obtain ⟨vBA00, vBA01, vBA02, vBA03⟩ := Bx.Bk.c4 BA0.out
    obtain ⟨vBA10, vBA11, vBA12⟩ := Bx.Bk.three BA1.out
    go_wp2_with fail
    refine (FsF.sz_any _ (.agg #[.int .i64 v0x0, .slice v0x1a v0x1n v0x1c, .slice v0x2a v0x2n v0x2c, .slice v0x3a v0x3n v0x3c]) n0 1048576 (by omega) HM0.out (FsF.holds_below HN0.out HB.out)).mono ?_
    rintro e w1 ⟨rfl, hb⟩
    have s1 := hb.size
    simp only [World.size_alloc] at s1
    clear vBA00 vBA01 vBA02 vBA03 vBA10 vBA11 vBA12
    rw [HC0.out]
    replace HB := Lib.hid (HB.out.trans (hb.mono HB.out.size))
    replace BA0 := Lib.hid (Bx.Bk.all BA0.out hb)
    replace BA1 := Lib.hid (Bx.Bk.all BA1.out hb)
    clear hb
    obtain ⟨vBA00, vBA01, vBA02, vBA03⟩ := Bx.Bk.c4 BA0.out
    obtain ⟨vBA10, vBA11, vBA12⟩ := Bx.Bk.three BA1.out
    go_wp2
    go_ret
    exact ⟨rfl, HB.out⟩
end Go.Proofs.YthppbcnejapbiaaGreatDoor.ResolveParentLaw
