/- Proved: for every inode the law FnExactPackInode returns true and leaves its argument as it was: the program's PackInode answers as the model's. Condition: none beyond the row's own (a tied card: the table of the fields reads as the program's text lays it). -/
import Derived.Test.YthobdeidjagnhaaDoorIn
import Derived.Test.YthobdeidjagnhaaDoorFlK
import Derived.Test.YthobdeidjagnhaaDoorPackBase
import Derived.Test.YthobdeidjagnhaaDoorLaidN
import Derived.Test.YthobdeidjagnhaaDoorKitV
import Derived.Test.YthobdeidjagnhaaDoorCards
import Derived.Test.YthobdeidjagnhaaDoorTie
import Derived.SevenTiedAt
namespace Go.Proofs.YthobdeidjagnhaaDoor.PackInodeLaw
open Go.ChangeShapes Go.WideShapes Go.ChangeAt Go.RowKit
open Go.ChangeMaps (open_string shut_string)
open Foot
set_option linter.unusedVariables false

set_option maxRecDepth 100000 in
set_option maxHeartbeats 6400000 in
theorem law_any (v0 : Value) (n0 : In.L) (w : World) (h0 : In.Lim n0 ∧ In.Holds w v0 n0) (hv : InOk.Vars w) :
    Calls Tryd.prog 5 #[v0] w fun e w' => e = .returned (.bool true) ∧ Below w.heap.size w w' := by
  have HV := Lib.hid hv
  clear hv
  obtain ⟨v0x0, v0x1, v0x2, v0x3, v0x4, v0x5, v0x6, v0x7a, v0x7n, v0x7c, v0x8a, v0x8n, v0x8c, v0x9a, v0x9n, v0x9c, rfl⟩ := In.form h0.2
  have HN0 := Lib.hid h0.2
  have HM0 := Lib.hid h0.1
  clear h0
  by_cases hc0 : In.cost n0 ≤ 1048576
  · obtain ⟨r0, hr0⟩ : ∃ r0 : Nat, r0 = 1048576 - In.cost n0 := ⟨_, rfl⟩
    have HC0 := Lib.hid (show costOf (In.cost n0) 1048576 = (r0 : Int) by rw [hr0]; exact cost_pos hc0)
    have hle0 : r0 ≤ 1048576 := by omega
    have hlen0 : In.cost n0 ≤ 1048576 := by omega
    clear hr0 hc0
    have hs : ∀ (W : World) (q0 : Value), InOk.Vars W → In.Holds W q0 n0 → Calls Tryd.prog 18 #[q0] W fun e w' => e = .returned (.string (InoV.packI n0)) ∧ Below W.heap.size W w' := fun W q0 pv p0 => InPs.pack_any W q0 n0 (by omega) p0
    have hi : ∀ (W : World) (q0 : Value), InOk.Vars W → In.Holds W q0 n0 → Calls Tryd.prog 9 #[q0] W fun e w' => e = .returned (.string (InoV.packI n0)) ∧ Below W.heap.size W w' := fun W q0 pv p0 => InPi.pack_any W q0 n0 (by omega) HM0.out.blocks.2 pv p0
    generalize InoV.packI n0 = res at hs hi
    have HS := Lib.hid hs
    have HI := Lib.hid hi
    clear hs hi
    go_enter Tryd.func5, Tryd.ntmps5
    have HB := Lib.hid (Below.refl w.heap.size w)
    have hb := Joins.below_alloc1 w (.cells #[.int .i64 v0x0, .int .i64 v0x1, .int .i64 v0x2, .int .i64 v0x3, .int .i64 v0x4, .int .i64 v0x5, .int .i64 v0x6, .slice v0x7a v0x7n v0x7c, .slice v0x8a v0x8n v0x8c, .slice v0x9a v0x9n v0x9c] 38)
    replace HB := Lib.hid (HB.out.trans (hb.mono HB.out.size))
    have BA0 := Lib.hid (Bx.new_at w #[.int .i64 v0x0, .int .i64 v0x1, .int .i64 v0x2, .int .i64 v0x3, .int .i64 v0x4, .int .i64 v0x5, .int .i64 v0x6, .slice v0x7a v0x7n v0x7c, .slice v0x8a v0x8n v0x8c, .slice v0x9a v0x9n v0x9c] 38 (w.heap.size) (by simp))
    clear hb
    obtain ⟨vBA00, vBA01, vBA02, vBA03, vBA04, vBA05, vBA06, vBA07, vBA08, vBA09⟩ := Bx.Bk.c10 BA0.out
    go_wp2_with fail
    refine (In.sz_any _ (.agg #[.int .i64 v0x0, .int .i64 v0x1, .int .i64 v0x2, .int .i64 v0x3, .int .i64 v0x4, .int .i64 v0x5, .int .i64 v0x6, .slice v0x7a v0x7n v0x7c, .slice v0x8a v0x8n v0x8c, .slice v0x9a v0x9n v0x9c]) n0 1048576 (by omega) HM0.out (In.holds_below HN0.out HB.out)).mono ?_
    rintro e w1 ⟨rfl, hb⟩
    have s1 := hb.size
    simp only [World.size_alloc] at s1
    clear vBA00 vBA01 vBA02 vBA03 vBA04 vBA05 vBA06 vBA07 vBA08 vBA09
    rw [HC0.out]
    replace HB := Lib.hid (HB.out.trans (hb.mono HB.out.size))
    replace BA0 := Lib.hid (Bx.Bk.all BA0.out hb)
    clear hb
    obtain ⟨vBA00, vBA01, vBA02, vBA03, vBA04, vBA05, vBA06, vBA07, vBA08, vBA09⟩ := Bx.Bk.c10 BA0.out
    go_wp2_with fail
    refine (In.to_any _ (.agg #[.int .i64 v0x0, .int .i64 v0x1, .int .i64 v0x2, .int .i64 v0x3, .int .i64 v0x4, .int .i64 v0x5, .int .i64 v0x6, .slice v0x7a v0x7n v0x7c, .slice v0x8a v0x8n v0x8c, .slice v0x9a v0x9n v0x9c]) n0 (by omega) (In.holds_below HN0.out HB.out)).mono ?_
    rintro e w2 ⟨k0, Sk0, rfl, hown, hb⟩
    have s2 := hb.size
    clear vBA00 vBA01 vBA02 vBA03 vBA04 vBA05 vBA06 vBA07 vBA08 vBA09
    have hlies := In.own_lies hown
    obtain ⟨k00, k01, k02, k03, k04, k05, k06, k07a, k07n, k07c, k08a, k08n, k08c, k09a, k09n, k09c, rfl⟩ := In.own_form hown
    have Hk0 := Lib.hid hown
    have LHk0 := Lib.hid hlies
    clear hown hlies
    replace HB := Lib.hid (HB.out.trans (hb.mono HB.out.size))
    replace BA0 := Lib.hid (Bx.Bk.all BA0.out hb)
    clear hb
    obtain ⟨vBA00, vBA01, vBA02, vBA03, vBA04, vBA05, vBA06, vBA07, vBA08, vBA09⟩ := Bx.Bk.c10 BA0.out
    go_wp2_with fail
    refine (HS.out _ (.agg #[.int .i64 k00, .int .i64 k01, .int .i64 k02, .int .i64 k03, .int .i64 k04, .int .i64 k05, .int .i64 k06, .slice k07a k07n k07c, .slice k08a k08n k08c, .slice k09a k09n k09c]) (HV.out.all HB.out) (In.own_holds Hk0.out)).mono ?_
    rintro e w3 ⟨rfl, hb⟩
    have s3 := hb.size
    clear vBA00 vBA01 vBA02 vBA03 vBA04 vBA05 vBA06 vBA07 vBA08 vBA09
    replace HB := Lib.hid (HB.out.trans (hb.mono HB.out.size))
    replace BA0 := Lib.hid (Bx.Bk.all BA0.out hb)
    replace Hk0 := Lib.hid (In.own_below Hk0.out hb)
    clear hb
    obtain ⟨vBA00, vBA01, vBA02, vBA03, vBA04, vBA05, vBA06, vBA07, vBA08, vBA09⟩ := Bx.Bk.c10 BA0.out
    clear Hk0 LHk0
    go_wp2_with fail
    refine (In.to_any _ (.agg #[.int .i64 v0x0, .int .i64 v0x1, .int .i64 v0x2, .int .i64 v0x3, .int .i64 v0x4, .int .i64 v0x5, .int .i64 v0x6, .slice v0x7a v0x7n v0x7c, .slice v0x8a v0x8n v0x8c, .slice v0x9a v0x9n v0x9c]) n0 (by omega) (In.holds_below HN0.out HB.out)).mono ?_
    rintro e w4 ⟨x0, Sx0, rfl, hown, hb⟩
    have s4 := hb.size
    clear vBA00 vBA01 vBA02 vBA03 vBA04 vBA05 vBA06 vBA07 vBA08 vBA09
    have hlies := In.own_lies hown
    obtain ⟨x00, x01, x02, x03, x04, x05, x06, x07a, x07n, x07c, x08a, x08n, x08c, x09a, x09n, x09c, rfl⟩ := In.own_form hown
    have Hx0 := Lib.hid hown
    have LHx0 := Lib.hid hlies
    clear hown hlies
    replace HB := Lib.hid (HB.out.trans (hb.mono HB.out.size))
    replace BA0 := Lib.hid (Bx.Bk.all BA0.out hb)
    clear hb
    obtain ⟨vBA00, vBA01, vBA02, vBA03, vBA04, vBA05, vBA06, vBA07, vBA08, vBA09⟩ := Bx.Bk.c10 BA0.out
    clear vBA00 vBA01 vBA02 vBA03 vBA04 vBA05 vBA06 vBA07 vBA08 vBA09
    have hb := Joins.below_alloc1 w4 (.cells #[.int .i64 x00, .int .i64 x01, .int .i64 x02, .int .i64 x03, .int .i64 x04, .int .i64 x05, .int .i64 x06, .slice x07a x07n x07c, .slice x08a x08n x08c, .slice x09a x09n x09c] 26)
    replace HB := Lib.hid (HB.out.trans (hb.mono HB.out.size))
    replace BA0 := Lib.hid (Bx.Bk.all BA0.out hb)
    replace Hx0 := Lib.hid (In.own_below Hx0.out hb)
    have BX0 := Lib.hid (Bx.new_at w4 #[.int .i64 x00, .int .i64 x01, .int .i64 x02, .int .i64 x03, .int .i64 x04, .int .i64 x05, .int .i64 x06, .slice x07a x07n x07c, .slice x08a x08n x08c, .slice x09a x09n x09c] 26 (w4.heap.size) (by simp))
    clear hb
    obtain ⟨vBA00, vBA01, vBA02, vBA03, vBA04, vBA05, vBA06, vBA07, vBA08, vBA09⟩ := Bx.Bk.c10 BA0.out
    obtain ⟨vBX00, vBX01, vBX02, vBX03, vBX04, vBX05, vBX06, vBX07, vBX08, vBX09⟩ := Bx.Bk.c10 BX0.out
    go_wp2_with fail
    refine (HI.out _ (.agg #[.int .i64 x00, .int .i64 x01, .int .i64 x02, .int .i64 x03, .int .i64 x04, .int .i64 x05, .int .i64 x06, .slice x07a x07n x07c, .slice x08a x08n x08c, .slice x09a x09n x09c]) (HV.out.all HB.out) (In.own_holds Hx0.out)).mono ?_
    rintro e w5 ⟨rfl, hb⟩
    have s5 := hb.size
    simp only [World.size_alloc] at s5
    clear vBA00 vBA01 vBA02 vBA03 vBA04 vBA05 vBA06 vBA07 vBA08 vBA09 vBX00 vBX01 vBX02 vBX03 vBX04 vBX05 vBX06 vBX07 vBX08 vBX09
    replace HB := Lib.hid (HB.out.trans (hb.mono HB.out.size))
    replace BA0 := Lib.hid (Bx.Bk.all BA0.out hb)
    replace BX0 := Lib.hid (Bx.Bk.all BX0.out hb)
    replace Hx0 := Lib.hid (In.own_below Hx0.out hb)
    clear hb
    obtain ⟨vBA00, vBA01, vBA02, vBA03, vBA04, vBA05, vBA06, vBA07, vBA08, vBA09⟩ := Bx.Bk.c10 BA0.out
    obtain ⟨vBX00, vBX01, vBX02, vBX03, vBX04, vBX05, vBX06, vBX07, vBX08, vBX09⟩ := Bx.Bk.c10 BX0.out
    have TK := Lib.hid trivial
    go_wp2
    go_region_held3 (fun w' => (w'.cell? ⟨w.heap.size, 0, none⟩ = some (.int .i64 v0x0) ∧ w'.cell? ⟨w.heap.size, 1, none⟩ = some (.int .i64 v0x1) ∧ w'.cell? ⟨w.heap.size, 2, none⟩ = some (.int .i64 v0x2) ∧ w'.cell? ⟨w.heap.size, 3, none⟩ = some (.int .i64 v0x3) ∧ w'.cell? ⟨w.heap.size, 4, none⟩ = some (.int .i64 v0x4) ∧ w'.cell? ⟨w.heap.size, 5, none⟩ = some (.int .i64 v0x5) ∧ w'.cell? ⟨w.heap.size, 6, none⟩ = some (.int .i64 v0x6) ∧ w'.cell? ⟨w.heap.size, 7, none⟩ = some (.slice v0x7a v0x7n v0x7c) ∧ w'.cell? ⟨w.heap.size, 8, none⟩ = some (.slice v0x8a v0x8n v0x8c) ∧ w'.cell? ⟨w.heap.size, 9, none⟩ = some (.slice v0x9a v0x9n v0x9c)) ∧ (w'.cell? ⟨w4.heap.size, 0, none⟩ = some (.int .i64 x00) ∧ w'.cell? ⟨w4.heap.size, 1, none⟩ = some (.int .i64 x01) ∧ w'.cell? ⟨w4.heap.size, 2, none⟩ = some (.int .i64 x02) ∧ w'.cell? ⟨w4.heap.size, 3, none⟩ = some (.int .i64 x03) ∧ w'.cell? ⟨w4.heap.size, 4, none⟩ = some (.int .i64 x04) ∧ w'.cell? ⟨w4.heap.size, 5, none⟩ = some (.int .i64 x05) ∧ w'.cell? ⟨w4.heap.size, 6, none⟩ = some (.int .i64 x06) ∧ w'.cell? ⟨w4.heap.size, 7, none⟩ = some (.slice x07a x07n x07c) ∧ w'.cell? ⟨w4.heap.size, 8, none⟩ = some (.slice x08a x08n x08c) ∧ w'.cell? ⟨w4.heap.size, 9, none⟩ = some (.slice x09a x09n x09c))) ((first | exact ⟨Bx.Bk.c10 BA0.out, Bx.Bk.c10 BX0.out⟩ | go_keep))
      (first
        | (go_at_call 16; (try (have _q := TK.out; clear _q TK; replace HB := Lib.hid HB.out.drew; replace BA0 := Lib.hid (Bx.Bk.drew BA0.out); replace BX0 := Lib.hid (Bx.Bk.drew BX0.out); replace Hx0 := Lib.hid (In.own_below Hx0.out (Below.refl _ _).drew))); with_reducible refine (In.to_any _ (.agg #[.int .i64 v0x0, .int .i64 v0x1, .int .i64 v0x2, .int .i64 v0x3, .int .i64 v0x4, .int .i64 v0x5, .int .i64 v0x6, .slice v0x7a v0x7n v0x7c, .slice v0x8a v0x8n v0x8c, .slice v0x9a v0x9n v0x9c]) n0 (by omega) (In.holds_below HN0.out HB.out)).mono ?_; rintro e w6 ⟨z0, Sz0, rfl, hown, hb⟩; have s6 := hb.size; (try simp only [World.size_alloc, World.size_drew] at s6); have hlies := In.own_lies hown; (try simp only [World.size_alloc, World.size_drew] at hlies); obtain ⟨z00, z01, z02, z03, z04, z05, z06, z07a, z07n, z07c, z08a, z08n, z08c, z09a, z09n, z09c, rfl⟩ := In.own_form hown; have Hz0 := Lib.hid hown; have LHz0 := Lib.hid hlies; clear hown hlies; replace HB := Lib.hid (HB.out.trans (hb.mono HB.out.size)); replace BA0 := Lib.hid (Bx.Bk.all BA0.out hb); replace BX0 := Lib.hid (Bx.Bk.all BX0.out hb); replace Hx0 := Lib.hid (In.own_below Hx0.out hb); clear hb)
        | (go_at_call 17; (try (have _q := TK.out; clear _q TK; replace HB := Lib.hid HB.out.drew; replace BA0 := Lib.hid (Bx.Bk.drew BA0.out); replace BX0 := Lib.hid (Bx.Bk.drew BX0.out); replace Hx0 := Lib.hid (In.own_below Hx0.out (Below.refl _ _).drew))); with_reducible refine (In.eq_any _ (.agg #[.int .i64 x00, .int .i64 x01, .int .i64 x02, .int .i64 x03, .int .i64 x04, .int .i64 x05, .int .i64 x06, .slice x07a x07n x07c, .slice x08a x08n x08c, .slice x09a x09n x09c]) (.agg #[.int .i64 z00, .int .i64 z01, .int .i64 z02, .int .i64 z03, .int .i64 z04, .int .i64 z05, .int .i64 z06, .slice z07a z07n z07c, .slice z08a z08n z08c, .slice z09a z09n z09c]) n0 (by omega) (In.own_holds Hx0.out) (In.own_holds Hz0.out)).mono ?_; rintro e w7 ⟨rfl, hb⟩; have s7 := hb.size; (try simp only [World.size_alloc, World.size_drew] at s7); replace HB := Lib.hid (HB.out.trans (hb.mono HB.out.size)); replace BA0 := Lib.hid (Bx.Bk.all BA0.out hb); replace BX0 := Lib.hid (Bx.Bk.all BX0.out hb); (try replace Hz0 := Lib.hid (In.own_below Hz0.out hb)); replace Hx0 := Lib.hid (In.own_below Hx0.out hb); clear hb))
    clear vBA00 vBA01 vBA02 vBA03 vBA04 vBA05 vBA06 vBA07 vBA08 vBA09 vBX00 vBX01 vBX02 vBX03 vBX04 vBX05 vBX06 vBX07 vBX08 vBX09
    obtain ⟨vBA00, vBA01, vBA02, vBA03, vBA04, vBA05, vBA06, vBA07, vBA08, vBA09⟩ := Bx.Bk.c10 BA0.out
    obtain ⟨vBX00, vBX01, vBX02, vBX03, vBX04, vBX05, vBX06, vBX07, vBX08, vBX09⟩ := Bx.Bk.c10 BX0.out
    clear Hz0 LHz0
    go_wp2
    go_ret
    exact ⟨rfl, HB.out⟩
  · have HC0 := Lib.hid (show costOf (In.cost n0) 1048576 = -1 from cost_neg hc0)
    clear hc0
    go_enter Tryd.func5, Tryd.ntmps5
    have HB := Lib.hid (Below.refl w.heap.size w)
    have hb := Joins.below_alloc1 w (.cells #[.int .i64 v0x0, .int .i64 v0x1, .int .i64 v0x2, .int .i64 v0x3, .int .i64 v0x4, .int .i64 v0x5, .int .i64 v0x6, .slice v0x7a v0x7n v0x7c, .slice v0x8a v0x8n v0x8c, .slice v0x9a v0x9n v0x9c] 38)
    replace HB := Lib.hid (HB.out.trans (hb.mono HB.out.size))
    have BA0 := Lib.hid (Bx.new_at w #[.int .i64 v0x0, .int .i64 v0x1, .int .i64 v0x2, .int .i64 v0x3, .int .i64 v0x4, .int .i64 v0x5, .int .i64 v0x6, .slice v0x7a v0x7n v0x7c, .slice v0x8a v0x8n v0x8c, .slice v0x9a v0x9n v0x9c] 38 (w.heap.size) (by simp))
    clear hb
    obtain ⟨vBA00, vBA01, vBA02, vBA03, vBA04, vBA05, vBA06, vBA07, vBA08, vBA09⟩ := Bx.Bk.c10 BA0.out
    go_wp2_with fail
    refine (In.sz_any _ (.agg #[.int .i64 v0x0, .int .i64 v0x1, .int .i64 v0x2, .int .i64 v0x3, .int .i64 v0x4, .int .i64 v0x5, .int .i64 v0x6, .slice v0x7a v0x7n v0x7c, .slice v0x8a v0x8n v0x8c, .slice v0x9a v0x9n v0x9c]) n0 1048576 (by omega) HM0.out (In.holds_below HN0.out HB.out)).mono ?_
    rintro e w1 ⟨rfl, hb⟩
    have s1 := hb.size
    simp only [World.size_alloc] at s1
    clear vBA00 vBA01 vBA02 vBA03 vBA04 vBA05 vBA06 vBA07 vBA08 vBA09
    rw [HC0.out]
    replace HB := Lib.hid (HB.out.trans (hb.mono HB.out.size))
    replace BA0 := Lib.hid (Bx.Bk.all BA0.out hb)
    clear hb
    obtain ⟨vBA00, vBA01, vBA02, vBA03, vBA04, vBA05, vBA06, vBA07, vBA08, vBA09⟩ := Bx.Bk.c10 BA0.out
    go_wp2
    go_ret
    exact ⟨rfl, HB.out⟩

set_option maxRecDepth 100000 in
theorem lifted (os : Os) (started : os.Started) (H : Type) (enc : TypeId × Value → H) :
    ReturnsInHanded {} Tryd.checked os 5 .any (fun w args => (Rows.fnExactPackInodeSpec.pre enc Tryd.prog Tryd.f5 [] false w args ∧ laidMetH Tryd.prog Rows.fnExactPackInodeRow.laid w) ∧ sizedMet enc Tryd.prog Tryd.f5 (OpenSpec.ofChange Rows.fnExactPackInodeSpec) false w args)
      (Rows.fnExactPackInodeSpec.post enc Tryd.prog Tryd.f5 false true false false) := by
  refine returnsInHanded_of_change_and (C := Tryd.checked) (X := fun w _ => laidMetH Tryd.prog Rows.fnExactPackInodeRow.laid w) (fun _ _ _ hh h => h.of_heap hh) Kit.own started (by kernel_rfl) Tryd.func5
    (ChangeSpec.witness_shaped (enc := enc) (C := Tryd.checked) (os := os) (X := fun w _ => laidMetH Tryd.prog Rows.fnExactPackInodeRow.laid w) false (World.doorLaid Tryd.prog 400 os) #[.agg #[.int .i64 0, .int .i64 0, .int .i64 0, .int .i64 0, .int .i64 0, .int .i64 0, .int .i64 0, .slice none 0 0, .slice none 0 0, .slice none 0 0]] 8 rfl (World.shaped_of_RefB (by kernel_rfl) (by kernel_rfl)) (by kernel_rfl) (by kernel_rfl) (by kernel_rfl) (LaidN.door1 os _)) ?_
  intro W base args ds gs before hval0 hW _ _ hL _
  have hval : ∀ (j : Nat) t v, Tryd.f5.params[j]? = some t → args[j]? = some v → Value.okWide Tryd.prog W .any base t v := hval0
  have hW' := hW
  obtain ⟨p, q, hA0, hV, rfl, hfz, hnd⟩ := hW
  have hA : DataW.TrodAll enc Tryd.prog W 0 (fun _ => true) true Tryd.f5.params.toList args.toList ds p := hA0
  rw [Tryd.params5] at hA hval
  obtain ⟨v0, d0, rfl, rfl, h0⟩ := trodAll_one hA
  obtain ⟨a0, w0⟩ := In.in_any (hval 0 38 v0 rfl rfl) h0
  refine (law_any _ a0 W w0 (LaidN.vars_of hL)).mono fun e W' ⟨he, hb⟩ => ?_
  subst he
  exact ⟨_, rfl, KitV.law_post Kit.laidOut (by kernel_rfl) (by kernel_rfl) Tryd.underlying4 rfl (fun H ds gs hl hg => by match ds, gs, hl, hg with | [d0], [g0], _, _ => rfl) hW' hb⟩

theorem said : Rows.FnExactPackInodeSaid :=
  OpenClaim.holds_of_wide 5 Tryd.f5 rfl rfl rfl rfl rfl rfl rfl ⟨rfl, rfl, rfl, rfl, rfl⟩ rfl rfl rfl rfl rfl (by kernel_rfl) Tryd.func5 (by kernel_rfl)
    (of_decide_eq_true (by kernel_rfl)) (by unfold Func.isWrapper; first | (rw [if_pos (by decide +kernel)]; kernel_rfl) | (rw [if_neg (by decide +kernel)]; exact ⟨rfl, rfl⟩))
    (fun os started H enc _ => lifted os started H enc)

theorem plain (f : FuncId) (fn : Func) (hf : Tryd.pinned.checked.prog.funcNamed "loop.example/g00817/laws.FnExactPackInode" = some f) (hfn : Tryd.pinned.checked.prog.funcs[f]? = some fn) :
    Rows.fnExactPackInodeCard.stood.looks = Tryd.pinned.checked.prog.looks [] ∧ ∀ (j : Nat) t, fn.params[j]? = some t → Tryd.pinned.checked.prog.wantsStandIn t = false := by
  obtain rfl : f = 5 := Option.some.inj ((show Tryd.prog.funcNamed "loop.example/g00817/laws.FnExactPackInode" = some 5 by kernel_rfl).symm.trans hf) |>.symm
  obtain rfl : fn = Tryd.f5 := (Option.some.inj (Tryd.func5.symm.trans hfn)).symm
  refine ⟨by kernel_rfl, fun j t ht => ?_⟩
  rw [Tryd.params5] at ht
  have hm : t ∈ [38] := by simpa using Array.mem_of_getElem? ht
  have hall : ([38].all fun u => !Tryd.prog.wantsStandIn u) = true := by kernel_rfl
  exact (show Tryd.prog.wantsStandIn t = false by simpa using List.all_eq_true.1 hall t hm)

theorem holds : Rows.FnExactPackInodeCardSaid :=
  Claim7.holds_tied_plain_at .later [] _ _ _ _ said (fun _ h => by cases h) (by kernel_rfl) (fun _ h => by cases h) fnExactPackInode_row_tie rfl ⟨rfl, rfl⟩ (by kernel_rfl) rfl plain (by kernel_rfl)
#print axioms holds
end Go.Proofs.YthobdeidjagnhaaDoor.PackInodeLaw
