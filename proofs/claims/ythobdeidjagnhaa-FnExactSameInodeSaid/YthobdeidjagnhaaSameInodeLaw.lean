/- Proved: for every two inodes the law FnExactSameInode returns true and leaves its arguments as they were: the program's SameInode answers as the model's. Condition: none beyond the row's own. -/
import Derived.Test.YthobdeidjagnhaaIn
import Derived.Test.YthobdeidjagnhaaFlK
import Derived.Test.YthobdeidjagnhaaInSp
namespace Go.Proofs.Ythobdeidjagnhaa.SameInodeLaw
open Go.ChangeShapes Go.WideShapes Go.ChangeAt Go.RowKit
open Go.ChangeMaps (open_string shut_string)
open Foot
set_option linter.unusedVariables false

set_option maxRecDepth 100000 in
set_option maxHeartbeats 6400000 in
theorem law_any (v0 : Value) (n0 : In.L) (v1 : Value) (n1 : In.L) (w : World) (h0 : In.Lim n0 ∧ In.Holds w v0 n0) (h1 : In.Lim n1 ∧ In.Holds w v1 n1)  :
    Calls Try.prog 5 #[v0, v1] w fun e w' => e = .returned (.bool true) ∧ Below w.heap.size w w' := by
  obtain ⟨v0x0, v0x1, v0x2, v0x3, v0x4, v0x5, v0x6, v0x7a, v0x7n, v0x7c, v0x8a, v0x8n, v0x8c, v0x9a, v0x9n, v0x9c, rfl⟩ := In.form h0.2
  have HN0 := Lib.hid h0.2
  have HM0 := Lib.hid h0.1
  clear h0
  obtain ⟨v1x0, v1x1, v1x2, v1x3, v1x4, v1x5, v1x6, v1x7a, v1x7n, v1x7c, v1x8a, v1x8n, v1x8c, v1x9a, v1x9n, v1x9c, rfl⟩ := In.form h1.2
  have HN1 := Lib.hid h1.2
  have HM1 := Lib.hid h1.1
  clear h1
  by_cases hc0 : In.cost n0 ≤ 1048576
  · obtain ⟨r0, hr0⟩ : ∃ r0 : Nat, r0 = 1048576 - In.cost n0 := ⟨_, rfl⟩
    have HC0 := Lib.hid (show costOf (In.cost n0) 1048576 = (r0 : Int) by rw [hr0]; exact cost_pos hc0)
    have hle0 : r0 ≤ 1048576 := by omega
    have hlen0 : In.cost n0 ≤ 1048576 := by omega
    clear hr0 hc0
    by_cases hc1 : In.cost n1 ≤ r0
    · obtain ⟨r1, hr1⟩ : ∃ r1 : Nat, r1 = r0 - In.cost n1 := ⟨_, rfl⟩
      have HC1 := Lib.hid (show costOf (In.cost n1) r0 = (r1 : Int) by rw [hr1]; exact cost_pos hc1)
      have hle1 : r1 ≤ 1048576 := by omega
      have hlen1 : In.cost n1 ≤ 1048576 := by omega
      clear hr1 hc1
      have hs : ∀ (W : World) (q0 : Value) (q1 : Value), In.Holds W q0 n0 → In.Holds W q1 n1 → Calls Try.prog 17 #[q0, q1] W fun e w' => e = .returned (.bool (InoV.sameB n0 n1)) ∧ Below W.heap.size W w' := fun W q0 q1 p0 p1 => InSp.same_spec W q0 q1 n0 n1 (by omega) (by omega) p0 p1
      have hi : ∀ (W : World) (q0 : Value) (q1 : Value), In.Holds W q0 n0 → In.Holds W q1 n1 → Calls Try.prog 18 #[q0, q1] W fun e w' => e = .returned (.bool (InoV.sameB n0 n1)) ∧ Below W.heap.size W w' := fun W q0 q1 p0 p1 => InSm.same_impl W q0 q1 n0 n1 (by omega) (by omega) HM0.out.blocks.2 HM1.out.blocks.2 p0 p1
      generalize InoV.sameB n0 n1 = res at hs hi
      have HS := Lib.hid hs
      have HI := Lib.hid hi
      clear hs hi
      go_enter Try.func5, Try.ntmps5
      have HB := Lib.hid (Below.refl w.heap.size w)
      have hb := Joins.below_alloc1 w (.cells #[.int .i64 v0x0, .int .i64 v0x1, .int .i64 v0x2, .int .i64 v0x3, .int .i64 v0x4, .int .i64 v0x5, .int .i64 v0x6, .slice v0x7a v0x7n v0x7c, .slice v0x8a v0x8n v0x8c, .slice v0x9a v0x9n v0x9c] 27)
      replace HB := Lib.hid (HB.out.trans (hb.mono HB.out.size))
      have BA0 := Lib.hid (Bx.new_at w #[.int .i64 v0x0, .int .i64 v0x1, .int .i64 v0x2, .int .i64 v0x3, .int .i64 v0x4, .int .i64 v0x5, .int .i64 v0x6, .slice v0x7a v0x7n v0x7c, .slice v0x8a v0x8n v0x8c, .slice v0x9a v0x9n v0x9c] 27 (w.heap.size) (by simp))
      clear hb
      obtain ⟨vBA00, vBA01, vBA02, vBA03, vBA04, vBA05, vBA06, vBA07, vBA08, vBA09⟩ := Bx.Bk.c10 BA0.out
      clear vBA00 vBA01 vBA02 vBA03 vBA04 vBA05 vBA06 vBA07 vBA08 vBA09
      have hb := Joins.below_alloc1 (w.alloc (.cells #[.int .i64 v0x0, .int .i64 v0x1, .int .i64 v0x2, .int .i64 v0x3, .int .i64 v0x4, .int .i64 v0x5, .int .i64 v0x6, .slice v0x7a v0x7n v0x7c, .slice v0x8a v0x8n v0x8c, .slice v0x9a v0x9n v0x9c] 27)) (.cells #[.int .i64 v1x0, .int .i64 v1x1, .int .i64 v1x2, .int .i64 v1x3, .int .i64 v1x4, .int .i64 v1x5, .int .i64 v1x6, .slice v1x7a v1x7n v1x7c, .slice v1x8a v1x8n v1x8c, .slice v1x9a v1x9n v1x9c] 27)
      replace HB := Lib.hid (HB.out.trans (hb.mono HB.out.size))
      replace BA0 := Lib.hid (Bx.Bk.all BA0.out hb)
      have BA1 := Lib.hid (Bx.new_at (w.alloc (.cells #[.int .i64 v0x0, .int .i64 v0x1, .int .i64 v0x2, .int .i64 v0x3, .int .i64 v0x4, .int .i64 v0x5, .int .i64 v0x6, .slice v0x7a v0x7n v0x7c, .slice v0x8a v0x8n v0x8c, .slice v0x9a v0x9n v0x9c] 27)) #[.int .i64 v1x0, .int .i64 v1x1, .int .i64 v1x2, .int .i64 v1x3, .int .i64 v1x4, .int .i64 v1x5, .int .i64 v1x6, .slice v1x7a v1x7n v1x7c, .slice v1x8a v1x8n v1x8c, .slice v1x9a v1x9n v1x9c] 27 (w.heap.size + 1) (by simp))
      clear hb
      obtain ⟨vBA00, vBA01, vBA02, vBA03, vBA04, vBA05, vBA06, vBA07, vBA08, vBA09⟩ := Bx.Bk.c10 BA0.out
      obtain ⟨vBA10, vBA11, vBA12, vBA13, vBA14, vBA15, vBA16, vBA17, vBA18, vBA19⟩ := Bx.Bk.c10 BA1.out
      go_wp2_with fail
      refine (In.sz_any _ (.agg #[.int .i64 v0x0, .int .i64 v0x1, .int .i64 v0x2, .int .i64 v0x3, .int .i64 v0x4, .int .i64 v0x5, .int .i64 v0x6, .slice v0x7a v0x7n v0x7c, .slice v0x8a v0x8n v0x8c, .slice v0x9a v0x9n v0x9c]) n0 1048576 (by omega) HM0.out (In.holds_below HN0.out HB.out)).mono ?_
      rintro e w1 ⟨rfl, hb⟩
      have s1 := hb.size
      simp only [World.size_alloc] at s1
      clear vBA00 vBA01 vBA02 vBA03 vBA04 vBA05 vBA06 vBA07 vBA08 vBA09 vBA10 vBA11 vBA12 vBA13 vBA14 vBA15 vBA16 vBA17 vBA18 vBA19
      rw [HC0.out]
      replace HB := Lib.hid (HB.out.trans (hb.mono HB.out.size))
      replace BA0 := Lib.hid (Bx.Bk.all BA0.out hb)
      replace BA1 := Lib.hid (Bx.Bk.all BA1.out hb)
      clear hb
      obtain ⟨vBA00, vBA01, vBA02, vBA03, vBA04, vBA05, vBA06, vBA07, vBA08, vBA09⟩ := Bx.Bk.c10 BA0.out
      obtain ⟨vBA10, vBA11, vBA12, vBA13, vBA14, vBA15, vBA16, vBA17, vBA18, vBA19⟩ := Bx.Bk.c10 BA1.out
      go_wp2_with fail
      refine (In.sz_any _ (.agg #[.int .i64 v1x0, .int .i64 v1x1, .int .i64 v1x2, .int .i64 v1x3, .int .i64 v1x4, .int .i64 v1x5, .int .i64 v1x6, .slice v1x7a v1x7n v1x7c, .slice v1x8a v1x8n v1x8c, .slice v1x9a v1x9n v1x9c]) n1 r0 (by omega) HM1.out (In.holds_below HN1.out HB.out)).mono ?_
      rintro e w2 ⟨rfl, hb⟩
      have s2 := hb.size
      clear vBA00 vBA01 vBA02 vBA03 vBA04 vBA05 vBA06 vBA07 vBA08 vBA09 vBA10 vBA11 vBA12 vBA13 vBA14 vBA15 vBA16 vBA17 vBA18 vBA19
      rw [HC1.out]
      replace HB := Lib.hid (HB.out.trans (hb.mono HB.out.size))
      replace BA0 := Lib.hid (Bx.Bk.all BA0.out hb)
      replace BA1 := Lib.hid (Bx.Bk.all BA1.out hb)
      clear hb
      obtain ⟨vBA00, vBA01, vBA02, vBA03, vBA04, vBA05, vBA06, vBA07, vBA08, vBA09⟩ := Bx.Bk.c10 BA0.out
      obtain ⟨vBA10, vBA11, vBA12, vBA13, vBA14, vBA15, vBA16, vBA17, vBA18, vBA19⟩ := Bx.Bk.c10 BA1.out
      have TK := Lib.hid trivial
      have TA0 := Lib.hid trivial
      have TA1 := Lib.hid trivial
      go_wp2
      go_region_held3 (fun w' => (w'.cell? ⟨w.heap.size, 0, none⟩ = some (.int .i64 v0x0) ∧ w'.cell? ⟨w.heap.size, 1, none⟩ = some (.int .i64 v0x1) ∧ w'.cell? ⟨w.heap.size, 2, none⟩ = some (.int .i64 v0x2) ∧ w'.cell? ⟨w.heap.size, 3, none⟩ = some (.int .i64 v0x3) ∧ w'.cell? ⟨w.heap.size, 4, none⟩ = some (.int .i64 v0x4) ∧ w'.cell? ⟨w.heap.size, 5, none⟩ = some (.int .i64 v0x5) ∧ w'.cell? ⟨w.heap.size, 6, none⟩ = some (.int .i64 v0x6) ∧ w'.cell? ⟨w.heap.size, 7, none⟩ = some (.slice v0x7a v0x7n v0x7c) ∧ w'.cell? ⟨w.heap.size, 8, none⟩ = some (.slice v0x8a v0x8n v0x8c) ∧ w'.cell? ⟨w.heap.size, 9, none⟩ = some (.slice v0x9a v0x9n v0x9c)) ∧ (w'.cell? ⟨w.heap.size + 1, 0, none⟩ = some (.int .i64 v1x0) ∧ w'.cell? ⟨w.heap.size + 1, 1, none⟩ = some (.int .i64 v1x1) ∧ w'.cell? ⟨w.heap.size + 1, 2, none⟩ = some (.int .i64 v1x2) ∧ w'.cell? ⟨w.heap.size + 1, 3, none⟩ = some (.int .i64 v1x3) ∧ w'.cell? ⟨w.heap.size + 1, 4, none⟩ = some (.int .i64 v1x4) ∧ w'.cell? ⟨w.heap.size + 1, 5, none⟩ = some (.int .i64 v1x5) ∧ w'.cell? ⟨w.heap.size + 1, 6, none⟩ = some (.int .i64 v1x6) ∧ w'.cell? ⟨w.heap.size + 1, 7, none⟩ = some (.slice v1x7a v1x7n v1x7c) ∧ w'.cell? ⟨w.heap.size + 1, 8, none⟩ = some (.slice v1x8a v1x8n v1x8c) ∧ w'.cell? ⟨w.heap.size + 1, 9, none⟩ = some (.slice v1x9a v1x9n v1x9c))) ((first | exact ⟨Bx.Bk.c10 BA0.out, Bx.Bk.c10 BA1.out⟩ | go_keep))
        (first
          | (go_at_call 10; have _q := TA0.out; clear _q TA0; (try (have _q := TK.out; clear _q TK; replace HB := Lib.hid HB.out.drew; replace BA0 := Lib.hid (Bx.Bk.drew BA0.out); replace BA1 := Lib.hid (Bx.Bk.drew BA1.out))); with_reducible refine (In.to_any _ (.agg #[.int .i64 v0x0, .int .i64 v0x1, .int .i64 v0x2, .int .i64 v0x3, .int .i64 v0x4, .int .i64 v0x5, .int .i64 v0x6, .slice v0x7a v0x7n v0x7c, .slice v0x8a v0x8n v0x8c, .slice v0x9a v0x9n v0x9c]) n0 (by omega) (In.holds_below HN0.out HB.out)).mono ?_; rintro e w3 ⟨k0, Sk0, rfl, hown, hb⟩; have s3 := hb.size; (try simp only [World.size_alloc, World.size_drew] at s3); have hlies := In.own_lies hown; (try simp only [World.size_alloc, World.size_drew] at hlies); obtain ⟨k00, k01, k02, k03, k04, k05, k06, k07a, k07n, k07c, k08a, k08n, k08c, k09a, k09n, k09c, rfl⟩ := In.own_form hown; have Hk0 := Lib.hid hown; have LHk0 := Lib.hid hlies; clear hown hlies; replace HB := Lib.hid (HB.out.trans (hb.mono HB.out.size)); replace BA0 := Lib.hid (Bx.Bk.all BA0.out hb); replace BA1 := Lib.hid (Bx.Bk.all BA1.out hb); (try replace Hk1 := Lib.hid (In.own_below Hk1.out hb)); clear hb)
          | (go_at_call 10; have _q := TA1.out; clear _q TA1; (try (have _q := TK.out; clear _q TK; replace HB := Lib.hid HB.out.drew; replace BA0 := Lib.hid (Bx.Bk.drew BA0.out); replace BA1 := Lib.hid (Bx.Bk.drew BA1.out))); with_reducible refine (In.to_any _ (.agg #[.int .i64 v1x0, .int .i64 v1x1, .int .i64 v1x2, .int .i64 v1x3, .int .i64 v1x4, .int .i64 v1x5, .int .i64 v1x6, .slice v1x7a v1x7n v1x7c, .slice v1x8a v1x8n v1x8c, .slice v1x9a v1x9n v1x9c]) n1 (by omega) (In.holds_below HN1.out HB.out)).mono ?_; rintro e w4 ⟨k1, Sk1, rfl, hown, hb⟩; have s4 := hb.size; (try simp only [World.size_alloc, World.size_drew] at s4); have hlies := In.own_lies hown; (try simp only [World.size_alloc, World.size_drew] at hlies); obtain ⟨k10, k11, k12, k13, k14, k15, k16, k17a, k17n, k17c, k18a, k18n, k18c, k19a, k19n, k19c, rfl⟩ := In.own_form hown; have Hk1 := Lib.hid hown; have LHk1 := Lib.hid hlies; clear hown hlies; replace HB := Lib.hid (HB.out.trans (hb.mono HB.out.size)); replace BA0 := Lib.hid (Bx.Bk.all BA0.out hb); replace BA1 := Lib.hid (Bx.Bk.all BA1.out hb); (try replace Hk0 := Lib.hid (In.own_below Hk0.out hb)); clear hb)
          | (go_at_call 17; (try (have _q := TK.out; clear _q TK; replace HB := Lib.hid HB.out.drew; replace BA0 := Lib.hid (Bx.Bk.drew BA0.out); replace BA1 := Lib.hid (Bx.Bk.drew BA1.out))); with_reducible refine (HS.out _ (.agg #[.int .i64 k00, .int .i64 k01, .int .i64 k02, .int .i64 k03, .int .i64 k04, .int .i64 k05, .int .i64 k06, .slice k07a k07n k07c, .slice k08a k08n k08c, .slice k09a k09n k09c]) (.agg #[.int .i64 k10, .int .i64 k11, .int .i64 k12, .int .i64 k13, .int .i64 k14, .int .i64 k15, .int .i64 k16, .slice k17a k17n k17c, .slice k18a k18n k18c, .slice k19a k19n k19c]) (In.own_holds Hk0.out) (In.own_holds Hk1.out)).mono ?_; rintro e w5 ⟨rfl, hb⟩; have s5 := hb.size; (try simp only [World.size_alloc, World.size_drew] at s5); replace HB := Lib.hid (HB.out.trans (hb.mono HB.out.size)); replace BA0 := Lib.hid (Bx.Bk.all BA0.out hb); replace BA1 := Lib.hid (Bx.Bk.all BA1.out hb); (try replace Hk0 := Lib.hid (In.own_below Hk0.out hb)); (try replace Hk1 := Lib.hid (In.own_below Hk1.out hb)); clear hb))
      all_goals
        clear vBA00 vBA01 vBA02 vBA03 vBA04 vBA05 vBA06 vBA07 vBA08 vBA09 vBA10 vBA11 vBA12 vBA13 vBA14 vBA15 vBA16 vBA17 vBA18 vBA19
        obtain ⟨vBA00, vBA01, vBA02, vBA03, vBA04, vBA05, vBA06, vBA07, vBA08, vBA09⟩ := Bx.Bk.c10 BA0.out
        obtain ⟨vBA10, vBA11, vBA12, vBA13, vBA14, vBA15, vBA16, vBA17, vBA18, vBA19⟩ := Bx.Bk.c10 BA1.out
        clear Hk0 Hk1 LHk0 LHk1
        go_wp2_with fail
        refine (In.to_any _ (.agg #[.int .i64 v0x0, .int .i64 v0x1, .int .i64 v0x2, .int .i64 v0x3, .int .i64 v0x4, .int .i64 v0x5, .int .i64 v0x6, .slice v0x7a v0x7n v0x7c, .slice v0x8a v0x8n v0x8c, .slice v0x9a v0x9n v0x9c]) n0 (by omega) (In.holds_below HN0.out HB.out)).mono ?_
        rintro e w6 ⟨x0, Sx0, rfl, hown, hb⟩
        have s6 := hb.size
        clear vBA00 vBA01 vBA02 vBA03 vBA04 vBA05 vBA06 vBA07 vBA08 vBA09 vBA10 vBA11 vBA12 vBA13 vBA14 vBA15 vBA16 vBA17 vBA18 vBA19
        have hlies := In.own_lies hown
        obtain ⟨x00, x01, x02, x03, x04, x05, x06, x07a, x07n, x07c, x08a, x08n, x08c, x09a, x09n, x09c, rfl⟩ := In.own_form hown
        have Hx0 := Lib.hid hown
        have LHx0 := Lib.hid hlies
        clear hown hlies
        replace HB := Lib.hid (HB.out.trans (hb.mono HB.out.size))
        replace BA0 := Lib.hid (Bx.Bk.all BA0.out hb)
        replace BA1 := Lib.hid (Bx.Bk.all BA1.out hb)
        clear hb
        obtain ⟨vBA00, vBA01, vBA02, vBA03, vBA04, vBA05, vBA06, vBA07, vBA08, vBA09⟩ := Bx.Bk.c10 BA0.out
        obtain ⟨vBA10, vBA11, vBA12, vBA13, vBA14, vBA15, vBA16, vBA17, vBA18, vBA19⟩ := Bx.Bk.c10 BA1.out
        clear vBA00 vBA01 vBA02 vBA03 vBA04 vBA05 vBA06 vBA07 vBA08 vBA09 vBA10 vBA11 vBA12 vBA13 vBA14 vBA15 vBA16 vBA17 vBA18 vBA19
        have hb := Joins.below_alloc1 w6 (.cells #[.int .i64 x00, .int .i64 x01, .int .i64 x02, .int .i64 x03, .int .i64 x04, .int .i64 x05, .int .i64 x06, .slice x07a x07n x07c, .slice x08a x08n x08c, .slice x09a x09n x09c] 32)
        replace HB := Lib.hid (HB.out.trans (hb.mono HB.out.size))
        replace BA0 := Lib.hid (Bx.Bk.all BA0.out hb)
        replace BA1 := Lib.hid (Bx.Bk.all BA1.out hb)
        replace Hx0 := Lib.hid (In.own_below Hx0.out hb)
        have BX0 := Lib.hid (Bx.new_at w6 #[.int .i64 x00, .int .i64 x01, .int .i64 x02, .int .i64 x03, .int .i64 x04, .int .i64 x05, .int .i64 x06, .slice x07a x07n x07c, .slice x08a x08n x08c, .slice x09a x09n x09c] 32 (w6.heap.size) (by simp))
        clear hb
        obtain ⟨vBA00, vBA01, vBA02, vBA03, vBA04, vBA05, vBA06, vBA07, vBA08, vBA09⟩ := Bx.Bk.c10 BA0.out
        obtain ⟨vBA10, vBA11, vBA12, vBA13, vBA14, vBA15, vBA16, vBA17, vBA18, vBA19⟩ := Bx.Bk.c10 BA1.out
        obtain ⟨vBX00, vBX01, vBX02, vBX03, vBX04, vBX05, vBX06, vBX07, vBX08, vBX09⟩ := Bx.Bk.c10 BX0.out
        go_wp2_with fail
        refine (In.to_any _ (.agg #[.int .i64 v1x0, .int .i64 v1x1, .int .i64 v1x2, .int .i64 v1x3, .int .i64 v1x4, .int .i64 v1x5, .int .i64 v1x6, .slice v1x7a v1x7n v1x7c, .slice v1x8a v1x8n v1x8c, .slice v1x9a v1x9n v1x9c]) n1 (by omega) (In.holds_below HN1.out HB.out)).mono ?_
        rintro e w7 ⟨x1, Sx1, rfl, hown, hb⟩
        have s7 := hb.size
        simp only [World.size_alloc] at s7
        clear vBA00 vBA01 vBA02 vBA03 vBA04 vBA05 vBA06 vBA07 vBA08 vBA09 vBA10 vBA11 vBA12 vBA13 vBA14 vBA15 vBA16 vBA17 vBA18 vBA19 vBX00 vBX01 vBX02 vBX03 vBX04 vBX05 vBX06 vBX07 vBX08 vBX09
        have hlies := In.own_lies hown
        simp only [World.size_alloc] at hlies
        obtain ⟨x10, x11, x12, x13, x14, x15, x16, x17a, x17n, x17c, x18a, x18n, x18c, x19a, x19n, x19c, rfl⟩ := In.own_form hown
        have Hx1 := Lib.hid hown
        have LHx1 := Lib.hid hlies
        clear hown hlies
        replace HB := Lib.hid (HB.out.trans (hb.mono HB.out.size))
        replace BA0 := Lib.hid (Bx.Bk.all BA0.out hb)
        replace BA1 := Lib.hid (Bx.Bk.all BA1.out hb)
        replace BX0 := Lib.hid (Bx.Bk.all BX0.out hb)
        replace Hx0 := Lib.hid (In.own_below Hx0.out hb)
        clear hb
        obtain ⟨vBA00, vBA01, vBA02, vBA03, vBA04, vBA05, vBA06, vBA07, vBA08, vBA09⟩ := Bx.Bk.c10 BA0.out
        obtain ⟨vBA10, vBA11, vBA12, vBA13, vBA14, vBA15, vBA16, vBA17, vBA18, vBA19⟩ := Bx.Bk.c10 BA1.out
        obtain ⟨vBX00, vBX01, vBX02, vBX03, vBX04, vBX05, vBX06, vBX07, vBX08, vBX09⟩ := Bx.Bk.c10 BX0.out
        clear vBA00 vBA01 vBA02 vBA03 vBA04 vBA05 vBA06 vBA07 vBA08 vBA09 vBA10 vBA11 vBA12 vBA13 vBA14 vBA15 vBA16 vBA17 vBA18 vBA19 vBX00 vBX01 vBX02 vBX03 vBX04 vBX05 vBX06 vBX07 vBX08 vBX09
        have hb := Joins.below_alloc1 w7 (.cells #[.int .i64 x10, .int .i64 x11, .int .i64 x12, .int .i64 x13, .int .i64 x14, .int .i64 x15, .int .i64 x16, .slice x17a x17n x17c, .slice x18a x18n x18c, .slice x19a x19n x19c] 32)
        replace HB := Lib.hid (HB.out.trans (hb.mono HB.out.size))
        replace BA0 := Lib.hid (Bx.Bk.all BA0.out hb)
        replace BA1 := Lib.hid (Bx.Bk.all BA1.out hb)
        replace BX0 := Lib.hid (Bx.Bk.all BX0.out hb)
        replace Hx0 := Lib.hid (In.own_below Hx0.out hb)
        replace Hx1 := Lib.hid (In.own_below Hx1.out hb)
        have BX1 := Lib.hid (Bx.new_at w7 #[.int .i64 x10, .int .i64 x11, .int .i64 x12, .int .i64 x13, .int .i64 x14, .int .i64 x15, .int .i64 x16, .slice x17a x17n x17c, .slice x18a x18n x18c, .slice x19a x19n x19c] 32 (w7.heap.size) (by simp))
        clear hb
        obtain ⟨vBA00, vBA01, vBA02, vBA03, vBA04, vBA05, vBA06, vBA07, vBA08, vBA09⟩ := Bx.Bk.c10 BA0.out
        obtain ⟨vBA10, vBA11, vBA12, vBA13, vBA14, vBA15, vBA16, vBA17, vBA18, vBA19⟩ := Bx.Bk.c10 BA1.out
        obtain ⟨vBX00, vBX01, vBX02, vBX03, vBX04, vBX05, vBX06, vBX07, vBX08, vBX09⟩ := Bx.Bk.c10 BX0.out
        obtain ⟨vBX10, vBX11, vBX12, vBX13, vBX14, vBX15, vBX16, vBX17, vBX18, vBX19⟩ := Bx.Bk.c10 BX1.out
        go_wp2_with fail
        refine (HI.out _ (.agg #[.int .i64 x00, .int .i64 x01, .int .i64 x02, .int .i64 x03, .int .i64 x04, .int .i64 x05, .int .i64 x06, .slice x07a x07n x07c, .slice x08a x08n x08c, .slice x09a x09n x09c]) (.agg #[.int .i64 x10, .int .i64 x11, .int .i64 x12, .int .i64 x13, .int .i64 x14, .int .i64 x15, .int .i64 x16, .slice x17a x17n x17c, .slice x18a x18n x18c, .slice x19a x19n x19c]) (In.own_holds Hx0.out) (In.own_holds Hx1.out)).mono ?_
        rintro e w8 ⟨rfl, hb⟩
        have s8 := hb.size
        simp only [World.size_alloc] at s8
        clear vBA00 vBA01 vBA02 vBA03 vBA04 vBA05 vBA06 vBA07 vBA08 vBA09 vBA10 vBA11 vBA12 vBA13 vBA14 vBA15 vBA16 vBA17 vBA18 vBA19 vBX00 vBX01 vBX02 vBX03 vBX04 vBX05 vBX06 vBX07 vBX08 vBX09 vBX10 vBX11 vBX12 vBX13 vBX14 vBX15 vBX16 vBX17 vBX18 vBX19
        replace HB := Lib.hid (HB.out.trans (hb.mono HB.out.size))
        replace BA0 := Lib.hid (Bx.Bk.all BA0.out hb)
        replace BA1 := Lib.hid (Bx.Bk.all BA1.out hb)
        replace BX0 := Lib.hid (Bx.Bk.all BX0.out hb)
        replace BX1 := Lib.hid (Bx.Bk.all BX1.out hb)
        replace Hx0 := Lib.hid (In.own_below Hx0.out hb)
        replace Hx1 := Lib.hid (In.own_below Hx1.out hb)
        clear hb
        obtain ⟨vBA00, vBA01, vBA02, vBA03, vBA04, vBA05, vBA06, vBA07, vBA08, vBA09⟩ := Bx.Bk.c10 BA0.out
        obtain ⟨vBA10, vBA11, vBA12, vBA13, vBA14, vBA15, vBA16, vBA17, vBA18, vBA19⟩ := Bx.Bk.c10 BA1.out
        obtain ⟨vBX00, vBX01, vBX02, vBX03, vBX04, vBX05, vBX06, vBX07, vBX08, vBX09⟩ := Bx.Bk.c10 BX0.out
        obtain ⟨vBX10, vBX11, vBX12, vBX13, vBX14, vBX15, vBX16, vBX17, vBX18, vBX19⟩ := Bx.Bk.c10 BX1.out
        have TK := Lib.hid trivial
        go_wp2
        go_region_held3 (fun w' => (w'.cell? ⟨w.heap.size, 0, none⟩ = some (.int .i64 v0x0) ∧ w'.cell? ⟨w.heap.size, 1, none⟩ = some (.int .i64 v0x1) ∧ w'.cell? ⟨w.heap.size, 2, none⟩ = some (.int .i64 v0x2) ∧ w'.cell? ⟨w.heap.size, 3, none⟩ = some (.int .i64 v0x3) ∧ w'.cell? ⟨w.heap.size, 4, none⟩ = some (.int .i64 v0x4) ∧ w'.cell? ⟨w.heap.size, 5, none⟩ = some (.int .i64 v0x5) ∧ w'.cell? ⟨w.heap.size, 6, none⟩ = some (.int .i64 v0x6) ∧ w'.cell? ⟨w.heap.size, 7, none⟩ = some (.slice v0x7a v0x7n v0x7c) ∧ w'.cell? ⟨w.heap.size, 8, none⟩ = some (.slice v0x8a v0x8n v0x8c) ∧ w'.cell? ⟨w.heap.size, 9, none⟩ = some (.slice v0x9a v0x9n v0x9c)) ∧ (w'.cell? ⟨w6.heap.size, 0, none⟩ = some (.int .i64 x00) ∧ w'.cell? ⟨w6.heap.size, 1, none⟩ = some (.int .i64 x01) ∧ w'.cell? ⟨w6.heap.size, 2, none⟩ = some (.int .i64 x02) ∧ w'.cell? ⟨w6.heap.size, 3, none⟩ = some (.int .i64 x03) ∧ w'.cell? ⟨w6.heap.size, 4, none⟩ = some (.int .i64 x04) ∧ w'.cell? ⟨w6.heap.size, 5, none⟩ = some (.int .i64 x05) ∧ w'.cell? ⟨w6.heap.size, 6, none⟩ = some (.int .i64 x06) ∧ w'.cell? ⟨w6.heap.size, 7, none⟩ = some (.slice x07a x07n x07c) ∧ w'.cell? ⟨w6.heap.size, 8, none⟩ = some (.slice x08a x08n x08c) ∧ w'.cell? ⟨w6.heap.size, 9, none⟩ = some (.slice x09a x09n x09c))) ((first | exact ⟨Bx.Bk.c10 BA0.out, Bx.Bk.c10 BX0.out⟩ | go_keep))
          (first
            | (go_at_call 10; (try (have _q := TK.out; clear _q TK; replace HB := Lib.hid HB.out.drew; replace BA0 := Lib.hid (Bx.Bk.drew BA0.out); replace BA1 := Lib.hid (Bx.Bk.drew BA1.out); replace BX0 := Lib.hid (Bx.Bk.drew BX0.out); replace BX1 := Lib.hid (Bx.Bk.drew BX1.out); replace Hx0 := Lib.hid (In.own_below Hx0.out (Below.refl _ _).drew); replace Hx1 := Lib.hid (In.own_below Hx1.out (Below.refl _ _).drew))); with_reducible refine (In.to_any _ (.agg #[.int .i64 v0x0, .int .i64 v0x1, .int .i64 v0x2, .int .i64 v0x3, .int .i64 v0x4, .int .i64 v0x5, .int .i64 v0x6, .slice v0x7a v0x7n v0x7c, .slice v0x8a v0x8n v0x8c, .slice v0x9a v0x9n v0x9c]) n0 (by omega) (In.holds_below HN0.out HB.out)).mono ?_; rintro e w9 ⟨z0, Sz0, rfl, hown, hb⟩; have s9 := hb.size; (try simp only [World.size_alloc, World.size_drew] at s9); have hlies := In.own_lies hown; (try simp only [World.size_alloc, World.size_drew] at hlies); obtain ⟨z00, z01, z02, z03, z04, z05, z06, z07a, z07n, z07c, z08a, z08n, z08c, z09a, z09n, z09c, rfl⟩ := In.own_form hown; have Hz0 := Lib.hid hown; have LHz0 := Lib.hid hlies; clear hown hlies; replace HB := Lib.hid (HB.out.trans (hb.mono HB.out.size)); replace BA0 := Lib.hid (Bx.Bk.all BA0.out hb); replace BA1 := Lib.hid (Bx.Bk.all BA1.out hb); replace BX0 := Lib.hid (Bx.Bk.all BX0.out hb); replace BX1 := Lib.hid (Bx.Bk.all BX1.out hb); replace Hx0 := Lib.hid (In.own_below Hx0.out hb); replace Hx1 := Lib.hid (In.own_below Hx1.out hb); clear hb)
            | (go_at_call 13; (try (have _q := TK.out; clear _q TK; replace HB := Lib.hid HB.out.drew; replace BA0 := Lib.hid (Bx.Bk.drew BA0.out); replace BA1 := Lib.hid (Bx.Bk.drew BA1.out); replace BX0 := Lib.hid (Bx.Bk.drew BX0.out); replace BX1 := Lib.hid (Bx.Bk.drew BX1.out); replace Hx0 := Lib.hid (In.own_below Hx0.out (Below.refl _ _).drew); replace Hx1 := Lib.hid (In.own_below Hx1.out (Below.refl _ _).drew))); with_reducible refine (In.eq_any _ (.agg #[.int .i64 x00, .int .i64 x01, .int .i64 x02, .int .i64 x03, .int .i64 x04, .int .i64 x05, .int .i64 x06, .slice x07a x07n x07c, .slice x08a x08n x08c, .slice x09a x09n x09c]) (.agg #[.int .i64 z00, .int .i64 z01, .int .i64 z02, .int .i64 z03, .int .i64 z04, .int .i64 z05, .int .i64 z06, .slice z07a z07n z07c, .slice z08a z08n z08c, .slice z09a z09n z09c]) n0 (by omega) (In.own_holds Hx0.out) (In.own_holds Hz0.out)).mono ?_; rintro e w10 ⟨rfl, hb⟩; have s10 := hb.size; (try simp only [World.size_alloc, World.size_drew] at s10); replace HB := Lib.hid (HB.out.trans (hb.mono HB.out.size)); replace BA0 := Lib.hid (Bx.Bk.all BA0.out hb); replace BA1 := Lib.hid (Bx.Bk.all BA1.out hb); replace BX0 := Lib.hid (Bx.Bk.all BX0.out hb); replace BX1 := Lib.hid (Bx.Bk.all BX1.out hb); (try replace Hz0 := Lib.hid (In.own_below Hz0.out hb)); replace Hx0 := Lib.hid (In.own_below Hx0.out hb); replace Hx1 := Lib.hid (In.own_below Hx1.out hb); clear hb))
        clear vBA00 vBA01 vBA02 vBA03 vBA04 vBA05 vBA06 vBA07 vBA08 vBA09 vBA10 vBA11 vBA12 vBA13 vBA14 vBA15 vBA16 vBA17 vBA18 vBA19 vBX00 vBX01 vBX02 vBX03 vBX04 vBX05 vBX06 vBX07 vBX08 vBX09 vBX10 vBX11 vBX12 vBX13 vBX14 vBX15 vBX16 vBX17 vBX18 vBX19
        obtain ⟨vBA00, vBA01, vBA02, vBA03, vBA04, vBA05, vBA06, vBA07, vBA08, vBA09⟩ := Bx.Bk.c10 BA0.out
        obtain ⟨vBA10, vBA11, vBA12, vBA13, vBA14, vBA15, vBA16, vBA17, vBA18, vBA19⟩ := Bx.Bk.c10 BA1.out
        obtain ⟨vBX00, vBX01, vBX02, vBX03, vBX04, vBX05, vBX06, vBX07, vBX08, vBX09⟩ := Bx.Bk.c10 BX0.out
        obtain ⟨vBX10, vBX11, vBX12, vBX13, vBX14, vBX15, vBX16, vBX17, vBX18, vBX19⟩ := Bx.Bk.c10 BX1.out
        clear Hz0 LHz0
        have TK := Lib.hid trivial
        go_wp2
        go_region_held3 (fun w' => (w'.cell? ⟨w.heap.size + 1, 0, none⟩ = some (.int .i64 v1x0) ∧ w'.cell? ⟨w.heap.size + 1, 1, none⟩ = some (.int .i64 v1x1) ∧ w'.cell? ⟨w.heap.size + 1, 2, none⟩ = some (.int .i64 v1x2) ∧ w'.cell? ⟨w.heap.size + 1, 3, none⟩ = some (.int .i64 v1x3) ∧ w'.cell? ⟨w.heap.size + 1, 4, none⟩ = some (.int .i64 v1x4) ∧ w'.cell? ⟨w.heap.size + 1, 5, none⟩ = some (.int .i64 v1x5) ∧ w'.cell? ⟨w.heap.size + 1, 6, none⟩ = some (.int .i64 v1x6) ∧ w'.cell? ⟨w.heap.size + 1, 7, none⟩ = some (.slice v1x7a v1x7n v1x7c) ∧ w'.cell? ⟨w.heap.size + 1, 8, none⟩ = some (.slice v1x8a v1x8n v1x8c) ∧ w'.cell? ⟨w.heap.size + 1, 9, none⟩ = some (.slice v1x9a v1x9n v1x9c)) ∧ (w'.cell? ⟨w7.heap.size, 0, none⟩ = some (.int .i64 x10) ∧ w'.cell? ⟨w7.heap.size, 1, none⟩ = some (.int .i64 x11) ∧ w'.cell? ⟨w7.heap.size, 2, none⟩ = some (.int .i64 x12) ∧ w'.cell? ⟨w7.heap.size, 3, none⟩ = some (.int .i64 x13) ∧ w'.cell? ⟨w7.heap.size, 4, none⟩ = some (.int .i64 x14) ∧ w'.cell? ⟨w7.heap.size, 5, none⟩ = some (.int .i64 x15) ∧ w'.cell? ⟨w7.heap.size, 6, none⟩ = some (.int .i64 x16) ∧ w'.cell? ⟨w7.heap.size, 7, none⟩ = some (.slice x17a x17n x17c) ∧ w'.cell? ⟨w7.heap.size, 8, none⟩ = some (.slice x18a x18n x18c) ∧ w'.cell? ⟨w7.heap.size, 9, none⟩ = some (.slice x19a x19n x19c))) ((first | exact ⟨Bx.Bk.c10 BA1.out, Bx.Bk.c10 BX1.out⟩ | go_keep))
          (first
            | (go_at_call 10; (try (have _q := TK.out; clear _q TK; replace HB := Lib.hid HB.out.drew; replace BA0 := Lib.hid (Bx.Bk.drew BA0.out); replace BA1 := Lib.hid (Bx.Bk.drew BA1.out); replace BX0 := Lib.hid (Bx.Bk.drew BX0.out); replace BX1 := Lib.hid (Bx.Bk.drew BX1.out); replace Hx0 := Lib.hid (In.own_below Hx0.out (Below.refl _ _).drew); replace Hx1 := Lib.hid (In.own_below Hx1.out (Below.refl _ _).drew))); with_reducible refine (In.to_any _ (.agg #[.int .i64 v1x0, .int .i64 v1x1, .int .i64 v1x2, .int .i64 v1x3, .int .i64 v1x4, .int .i64 v1x5, .int .i64 v1x6, .slice v1x7a v1x7n v1x7c, .slice v1x8a v1x8n v1x8c, .slice v1x9a v1x9n v1x9c]) n1 (by omega) (In.holds_below HN1.out HB.out)).mono ?_; rintro e w11 ⟨z1, Sz1, rfl, hown, hb⟩; have s11 := hb.size; (try simp only [World.size_alloc, World.size_drew] at s11); have hlies := In.own_lies hown; (try simp only [World.size_alloc, World.size_drew] at hlies); obtain ⟨z10, z11, z12, z13, z14, z15, z16, z17a, z17n, z17c, z18a, z18n, z18c, z19a, z19n, z19c, rfl⟩ := In.own_form hown; have Hz1 := Lib.hid hown; have LHz1 := Lib.hid hlies; clear hown hlies; replace HB := Lib.hid (HB.out.trans (hb.mono HB.out.size)); replace BA0 := Lib.hid (Bx.Bk.all BA0.out hb); replace BA1 := Lib.hid (Bx.Bk.all BA1.out hb); replace BX0 := Lib.hid (Bx.Bk.all BX0.out hb); replace BX1 := Lib.hid (Bx.Bk.all BX1.out hb); replace Hx0 := Lib.hid (In.own_below Hx0.out hb); replace Hx1 := Lib.hid (In.own_below Hx1.out hb); clear hb)
            | (go_at_call 13; (try (have _q := TK.out; clear _q TK; replace HB := Lib.hid HB.out.drew; replace BA0 := Lib.hid (Bx.Bk.drew BA0.out); replace BA1 := Lib.hid (Bx.Bk.drew BA1.out); replace BX0 := Lib.hid (Bx.Bk.drew BX0.out); replace BX1 := Lib.hid (Bx.Bk.drew BX1.out); replace Hx0 := Lib.hid (In.own_below Hx0.out (Below.refl _ _).drew); replace Hx1 := Lib.hid (In.own_below Hx1.out (Below.refl _ _).drew))); with_reducible refine (In.eq_any _ (.agg #[.int .i64 x10, .int .i64 x11, .int .i64 x12, .int .i64 x13, .int .i64 x14, .int .i64 x15, .int .i64 x16, .slice x17a x17n x17c, .slice x18a x18n x18c, .slice x19a x19n x19c]) (.agg #[.int .i64 z10, .int .i64 z11, .int .i64 z12, .int .i64 z13, .int .i64 z14, .int .i64 z15, .int .i64 z16, .slice z17a z17n z17c, .slice z18a z18n z18c, .slice z19a z19n z19c]) n1 (by omega) (In.own_holds Hx1.out) (In.own_holds Hz1.out)).mono ?_; rintro e w12 ⟨rfl, hb⟩; have s12 := hb.size; (try simp only [World.size_alloc, World.size_drew] at s12); replace HB := Lib.hid (HB.out.trans (hb.mono HB.out.size)); replace BA0 := Lib.hid (Bx.Bk.all BA0.out hb); replace BA1 := Lib.hid (Bx.Bk.all BA1.out hb); replace BX0 := Lib.hid (Bx.Bk.all BX0.out hb); replace BX1 := Lib.hid (Bx.Bk.all BX1.out hb); (try replace Hz1 := Lib.hid (In.own_below Hz1.out hb)); replace Hx0 := Lib.hid (In.own_below Hx0.out hb); replace Hx1 := Lib.hid (In.own_below Hx1.out hb); clear hb))
        clear vBA00 vBA01 vBA02 vBA03 vBA04 vBA05 vBA06 vBA07 vBA08 vBA09 vBA10 vBA11 vBA12 vBA13 vBA14 vBA15 vBA16 vBA17 vBA18 vBA19 vBX00 vBX01 vBX02 vBX03 vBX04 vBX05 vBX06 vBX07 vBX08 vBX09 vBX10 vBX11 vBX12 vBX13 vBX14 vBX15 vBX16 vBX17 vBX18 vBX19
        obtain ⟨vBA00, vBA01, vBA02, vBA03, vBA04, vBA05, vBA06, vBA07, vBA08, vBA09⟩ := Bx.Bk.c10 BA0.out
        obtain ⟨vBA10, vBA11, vBA12, vBA13, vBA14, vBA15, vBA16, vBA17, vBA18, vBA19⟩ := Bx.Bk.c10 BA1.out
        obtain ⟨vBX00, vBX01, vBX02, vBX03, vBX04, vBX05, vBX06, vBX07, vBX08, vBX09⟩ := Bx.Bk.c10 BX0.out
        obtain ⟨vBX10, vBX11, vBX12, vBX13, vBX14, vBX15, vBX16, vBX17, vBX18, vBX19⟩ := Bx.Bk.c10 BX1.out
        clear Hz1 LHz1
        go_wp2
        go_ret
        exact ⟨rfl, HB.out⟩
    · have HC1 := Lib.hid (show costOf (In.cost n1) r0 = -1 from cost_neg hc1)
      clear hc1
      go_enter Try.func5, Try.ntmps5
      have HB := Lib.hid (Below.refl w.heap.size w)
      have hb := Joins.below_alloc1 w (.cells #[.int .i64 v0x0, .int .i64 v0x1, .int .i64 v0x2, .int .i64 v0x3, .int .i64 v0x4, .int .i64 v0x5, .int .i64 v0x6, .slice v0x7a v0x7n v0x7c, .slice v0x8a v0x8n v0x8c, .slice v0x9a v0x9n v0x9c] 27)
      replace HB := Lib.hid (HB.out.trans (hb.mono HB.out.size))
      have BA0 := Lib.hid (Bx.new_at w #[.int .i64 v0x0, .int .i64 v0x1, .int .i64 v0x2, .int .i64 v0x3, .int .i64 v0x4, .int .i64 v0x5, .int .i64 v0x6, .slice v0x7a v0x7n v0x7c, .slice v0x8a v0x8n v0x8c, .slice v0x9a v0x9n v0x9c] 27 (w.heap.size) (by simp))
      clear hb
      obtain ⟨vBA00, vBA01, vBA02, vBA03, vBA04, vBA05, vBA06, vBA07, vBA08, vBA09⟩ := Bx.Bk.c10 BA0.out
      clear vBA00 vBA01 vBA02 vBA03 vBA04 vBA05 vBA06 vBA07 vBA08 vBA09
      have hb := Joins.below_alloc1 (w.alloc (.cells #[.int .i64 v0x0, .int .i64 v0x1, .int .i64 v0x2, .int .i64 v0x3, .int .i64 v0x4, .int .i64 v0x5, .int .i64 v0x6, .slice v0x7a v0x7n v0x7c, .slice v0x8a v0x8n v0x8c, .slice v0x9a v0x9n v0x9c] 27)) (.cells #[.int .i64 v1x0, .int .i64 v1x1, .int .i64 v1x2, .int .i64 v1x3, .int .i64 v1x4, .int .i64 v1x5, .int .i64 v1x6, .slice v1x7a v1x7n v1x7c, .slice v1x8a v1x8n v1x8c, .slice v1x9a v1x9n v1x9c] 27)
      replace HB := Lib.hid (HB.out.trans (hb.mono HB.out.size))
      replace BA0 := Lib.hid (Bx.Bk.all BA0.out hb)
      have BA1 := Lib.hid (Bx.new_at (w.alloc (.cells #[.int .i64 v0x0, .int .i64 v0x1, .int .i64 v0x2, .int .i64 v0x3, .int .i64 v0x4, .int .i64 v0x5, .int .i64 v0x6, .slice v0x7a v0x7n v0x7c, .slice v0x8a v0x8n v0x8c, .slice v0x9a v0x9n v0x9c] 27)) #[.int .i64 v1x0, .int .i64 v1x1, .int .i64 v1x2, .int .i64 v1x3, .int .i64 v1x4, .int .i64 v1x5, .int .i64 v1x6, .slice v1x7a v1x7n v1x7c, .slice v1x8a v1x8n v1x8c, .slice v1x9a v1x9n v1x9c] 27 (w.heap.size + 1) (by simp))
      clear hb
      obtain ⟨vBA00, vBA01, vBA02, vBA03, vBA04, vBA05, vBA06, vBA07, vBA08, vBA09⟩ := Bx.Bk.c10 BA0.out
      obtain ⟨vBA10, vBA11, vBA12, vBA13, vBA14, vBA15, vBA16, vBA17, vBA18, vBA19⟩ := Bx.Bk.c10 BA1.out
      go_wp2_with fail
      refine (In.sz_any _ (.agg #[.int .i64 v0x0, .int .i64 v0x1, .int .i64 v0x2, .int .i64 v0x3, .int .i64 v0x4, .int .i64 v0x5, .int .i64 v0x6, .slice v0x7a v0x7n v0x7c, .slice v0x8a v0x8n v0x8c, .slice v0x9a v0x9n v0x9c]) n0 1048576 (by omega) HM0.out (In.holds_below HN0.out HB.out)).mono ?_
      rintro e w1 ⟨rfl, hb⟩
      have s1 := hb.size
      simp only [World.size_alloc] at s1
      clear vBA00 vBA01 vBA02 vBA03 vBA04 vBA05 vBA06 vBA07 vBA08 vBA09 vBA10 vBA11 vBA12 vBA13 vBA14 vBA15 vBA16 vBA17 vBA18 vBA19
      rw [HC0.out]
      replace HB := Lib.hid (HB.out.trans (hb.mono HB.out.size))
      replace BA0 := Lib.hid (Bx.Bk.all BA0.out hb)
      replace BA1 := Lib.hid (Bx.Bk.all BA1.out hb)
      clear hb
      obtain ⟨vBA00, vBA01, vBA02, vBA03, vBA04, vBA05, vBA06, vBA07, vBA08, vBA09⟩ := Bx.Bk.c10 BA0.out
      obtain ⟨vBA10, vBA11, vBA12, vBA13, vBA14, vBA15, vBA16, vBA17, vBA18, vBA19⟩ := Bx.Bk.c10 BA1.out
      go_wp2_with fail
      refine (In.sz_any _ (.agg #[.int .i64 v1x0, .int .i64 v1x1, .int .i64 v1x2, .int .i64 v1x3, .int .i64 v1x4, .int .i64 v1x5, .int .i64 v1x6, .slice v1x7a v1x7n v1x7c, .slice v1x8a v1x8n v1x8c, .slice v1x9a v1x9n v1x9c]) n1 r0 (by omega) HM1.out (In.holds_below HN1.out HB.out)).mono ?_
      rintro e w2 ⟨rfl, hb⟩
      have s2 := hb.size
      clear vBA00 vBA01 vBA02 vBA03 vBA04 vBA05 vBA06 vBA07 vBA08 vBA09 vBA10 vBA11 vBA12 vBA13 vBA14 vBA15 vBA16 vBA17 vBA18 vBA19
      rw [HC1.out]
      replace HB := Lib.hid (HB.out.trans (hb.mono HB.out.size))
      replace BA0 := Lib.hid (Bx.Bk.all BA0.out hb)
      replace BA1 := Lib.hid (Bx.Bk.all BA1.out hb)
      clear hb
      obtain ⟨vBA00, vBA01, vBA02, vBA03, vBA04, vBA05, vBA06, vBA07, vBA08, vBA09⟩ := Bx.Bk.c10 BA0.out
      obtain ⟨vBA10, vBA11, vBA12, vBA13, vBA14, vBA15, vBA16, vBA17, vBA18, vBA19⟩ := Bx.Bk.c10 BA1.out
      go_wp2
      go_ret
      exact ⟨rfl, HB.out⟩
  · have HC0 := Lib.hid (show costOf (In.cost n0) 1048576 = -1 from cost_neg hc0)
    clear hc0
    go_enter Try.func5, Try.ntmps5
    have HB := Lib.hid (Below.refl w.heap.size w)
    have hb := Joins.below_alloc1 w (.cells #[.int .i64 v0x0, .int .i64 v0x1, .int .i64 v0x2, .int .i64 v0x3, .int .i64 v0x4, .int .i64 v0x5, .int .i64 v0x6, .slice v0x7a v0x7n v0x7c, .slice v0x8a v0x8n v0x8c, .slice v0x9a v0x9n v0x9c] 27)
    replace HB := Lib.hid (HB.out.trans (hb.mono HB.out.size))
    have BA0 := Lib.hid (Bx.new_at w #[.int .i64 v0x0, .int .i64 v0x1, .int .i64 v0x2, .int .i64 v0x3, .int .i64 v0x4, .int .i64 v0x5, .int .i64 v0x6, .slice v0x7a v0x7n v0x7c, .slice v0x8a v0x8n v0x8c, .slice v0x9a v0x9n v0x9c] 27 (w.heap.size) (by simp))
    clear hb
    obtain ⟨vBA00, vBA01, vBA02, vBA03, vBA04, vBA05, vBA06, vBA07, vBA08, vBA09⟩ := Bx.Bk.c10 BA0.out
    clear vBA00 vBA01 vBA02 vBA03 vBA04 vBA05 vBA06 vBA07 vBA08 vBA09
    have hb := Joins.below_alloc1 (w.alloc (.cells #[.int .i64 v0x0, .int .i64 v0x1, .int .i64 v0x2, .int .i64 v0x3, .int .i64 v0x4, .int .i64 v0x5, .int .i64 v0x6, .slice v0x7a v0x7n v0x7c, .slice v0x8a v0x8n v0x8c, .slice v0x9a v0x9n v0x9c] 27)) (.cells #[.int .i64 v1x0, .int .i64 v1x1, .int .i64 v1x2, .int .i64 v1x3, .int .i64 v1x4, .int .i64 v1x5, .int .i64 v1x6, .slice v1x7a v1x7n v1x7c, .slice v1x8a v1x8n v1x8c, .slice v1x9a v1x9n v1x9c] 27)
    replace HB := Lib.hid (HB.out.trans (hb.mono HB.out.size))
    replace BA0 := Lib.hid (Bx.Bk.all BA0.out hb)
    have BA1 := Lib.hid (Bx.new_at (w.alloc (.cells #[.int .i64 v0x0, .int .i64 v0x1, .int .i64 v0x2, .int .i64 v0x3, .int .i64 v0x4, .int .i64 v0x5, .int .i64 v0x6, .slice v0x7a v0x7n v0x7c, .slice v0x8a v0x8n v0x8c, .slice v0x9a v0x9n v0x9c] 27)) #[.int .i64 v1x0, .int .i64 v1x1, .int .i64 v1x2, .int .i64 v1x3, .int .i64 v1x4, .int .i64 v1x5, .int .i64 v1x6, .slice v1x7a v1x7n v1x7c, .slice v1x8a v1x8n v1x8c, .slice v1x9a v1x9n v1x9c] 27 (w.heap.size + 1) (by simp))
    clear hb
    obtain ⟨vBA00, vBA01, vBA02, vBA03, vBA04, vBA05, vBA06, vBA07, vBA08, vBA09⟩ := Bx.Bk.c10 BA0.out
    obtain ⟨vBA10, vBA11, vBA12, vBA13, vBA14, vBA15, vBA16, vBA17, vBA18, vBA19⟩ := Bx.Bk.c10 BA1.out
    go_wp2_with fail
    refine (In.sz_any _ (.agg #[.int .i64 v0x0, .int .i64 v0x1, .int .i64 v0x2, .int .i64 v0x3, .int .i64 v0x4, .int .i64 v0x5, .int .i64 v0x6, .slice v0x7a v0x7n v0x7c, .slice v0x8a v0x8n v0x8c, .slice v0x9a v0x9n v0x9c]) n0 1048576 (by omega) HM0.out (In.holds_below HN0.out HB.out)).mono ?_
    rintro e w1 ⟨rfl, hb⟩
    have s1 := hb.size
    simp only [World.size_alloc] at s1
    clear vBA00 vBA01 vBA02 vBA03 vBA04 vBA05 vBA06 vBA07 vBA08 vBA09 vBA10 vBA11 vBA12 vBA13 vBA14 vBA15 vBA16 vBA17 vBA18 vBA19
    rw [HC0.out]
    replace HB := Lib.hid (HB.out.trans (hb.mono HB.out.size))
    replace BA0 := Lib.hid (Bx.Bk.all BA0.out hb)
    replace BA1 := Lib.hid (Bx.Bk.all BA1.out hb)
    clear hb
    obtain ⟨vBA00, vBA01, vBA02, vBA03, vBA04, vBA05, vBA06, vBA07, vBA08, vBA09⟩ := Bx.Bk.c10 BA0.out
    obtain ⟨vBA10, vBA11, vBA12, vBA13, vBA14, vBA15, vBA16, vBA17, vBA18, vBA19⟩ := Bx.Bk.c10 BA1.out
    go_wp2
    go_ret
    exact ⟨rfl, HB.out⟩

set_option maxRecDepth 100000 in
theorem lifted (os : Os) (started : os.Started) (H : Type) (enc : TypeId × Value → H) :
    ReturnsInHanded {} Try.checked os 5 .any (Rows.fnExactSameInodeSpec.pre6 enc Try.prog Try.f5 Rows.fnExactSameInodeRow.domain false) (Rows.fnExactSameInodeSpec.post enc Try.prog Try.f5 false true false false) := by
  refine returnsInHanded_of_change (C := Try.checked) Kit.own started (by kernel_rfl) Try.func5
    (ChangeSpec.witness6 (enc := enc) (C := Try.checked) false ⟨#[], #[.agg #[.int .i64 0, .int .i64 0, .int .i64 0, .int .i64 0, .int .i64 0, .int .i64 0, .int .i64 0, .slice none 0 0, .slice none 0 0, .slice none 0 0], .agg #[.int .i64 0, .int .i64 0, .int .i64 0, .int .i64 0, .int .i64 0, .int .i64 0, .int .i64 0, .slice none 0 0, .slice none 0 0, .slice none 0 0]], []⟩ 8 (by kernel_rfl) (by kernel_rfl) (by kernel_rfl) (by kernel_rfl)) ?_
  intro W base args ds gs before hval0 hW hcnd _
  have hval : ∀ (j : Nat) t v, Try.f5.params[j]? = some t → args[j]? = some v → Value.okWide Try.prog W .any base t v := hval0
  have hW' := hW
  obtain ⟨p, q, hA0, hV, rfl, hfz, hnd⟩ := hW
  have hA : DataW.TrodAll enc Try.prog W 0 (fun _ => true) true Try.f5.params.toList args.toList ds p := hA0
  rw [Try.params5] at hA hval
  obtain ⟨v0, v1, d0, d1, p0, p1, rfl, rfl, rfl, h0, h1⟩ := trodAll_two hA
  obtain ⟨a0, w0⟩ := In.in_any (hval 0 27 v0 rfl rfl) h0
  obtain ⟨a1, w1⟩ := In.in_any (hval 1 27 v1 rfl rfl) h1
  refine (law_any _ a0 _ a1 W w0 w1).mono fun e W' ⟨he, hb⟩ => ?_
  subst he
  exact ⟨_, rfl, Kit.law_post Kit.laidOut (by kernel_rfl) Try.underlying4 rfl rfl (fun H ds hl => by match ds, hl with | [d0, d1], _ => rfl) hW' hb⟩

theorem holds : Rows.FnExactSameInodeSaid :=
  OpenClaim.holds_of_wide 5 Try.f5 rfl rfl rfl rfl rfl rfl rfl ⟨rfl, rfl, rfl, rfl, rfl⟩ rfl rfl rfl rfl rfl (by kernel_rfl) Try.func5 (by kernel_rfl)
    (of_decide_eq_true (by kernel_rfl)) (by unfold Func.isWrapper; first | (rw [if_pos (by decide +kernel)]; kernel_rfl) | (rw [if_neg (by decide +kernel)]; exact ⟨rfl, rfl⟩))
    (fun os started H enc _ => lifted os started H enc)
#print axioms holds
end Go.Proofs.Ythobdeidjagnhaa.SameInodeLaw
