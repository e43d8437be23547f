/- Proved: for every file system and every three ints the law FnExactReadBytes returns true and leaves its arguments as they were: the program's ReadBytes answers as the model's. Condition: none beyond the row's own (a tied card: the table of an inode's fields, and two tables of package unicode/utf8 that the walk does not read, are as the program's text lays them). -/
import Derived.Test.YtjefefedhhloiaaGreatDoorFsBaseA
import Derived.Test.YtjefefedhhloiaaGreatDoorFsBaseB
import Derived.Test.YtjefefedhhloiaaGreatDoorFsBaseC
import Derived.Test.YtjefefedhhloiaaGreatDoorFsBaseR
import Derived.Test.YtjefefedhhloiaaGreatDoorCards
import Derived.Test.YtjefefedhhloiaaGreatDoorTie
import Derived.SevenTiedAt
namespace Go.Proofs.YtjefefedhhloiaaGreatDoor.ReadBytesLaw
open Go.ChangeShapes Go.WideShapes Go.ChangeAt Go.RowKit
open Go.ChangeMaps (open_string shut_string)
open Foot
set_option linter.unusedVariables false

set_option maxRecDepth 100000 in
set_option maxHeartbeats 6400000 in
theorem law_any (v0 : Value) (n0 : FsF.L) (i : Int) (a : Int) (n : Int) (w : World) (h0 : FsF.Lim n0 ∧ FsF.Holds w v0 n0) (hr1 : (Lit.int .i64 i).wf = true) (hr2 : (Lit.int .i64 a).wf = true) (hr3 : (Lit.int .i64 n).wf = true) (hv : InOk.Vars w) :
    Calls Tryz.prog 6 #[v0, .int .i64 i, .int .i64 a, .int .i64 n] w fun e w' => e = .returned (.bool true) ∧ Below w.heap.size w w' := by
  have HV := Lib.hid hv
  clear hv
  obtain ⟨v0x0, v0x1a, v0x1n, v0x1c, v0x2a, v0x2n, v0x2c, v0x3a, v0x3n, v0x3c, rfl⟩ := FsF.form h0.2
  have HN0 := Lib.hid h0.2
  have HM0 := Lib.hid h0.1
  clear h0
  by_cases hc0 : FsF.cost n0 ≤ 1048576
  · obtain ⟨r0, hr0⟩ : ∃ r0 : Nat, r0 = 1048576 - FsF.cost n0 := ⟨_, rfl⟩
    have HC0 := Lib.hid (show costOf (FsF.cost n0) 1048576 = (r0 : Int) by rw [hr0]; exact cost_pos hc0)
    have hle0 : r0 ≤ 1048576 := by omega
    have hlen0 : FsF.cost n0 ≤ 1048576 := by omega
    clear hr0 hc0
    have hs : ∀ (W : World) (q0 : Value), InOk.Vars W → FsF.Holds W q0 n0 → Calls Tryz.prog 25 #[q0, .int .i64 i, .int .i64 a, .int .i64 n] W fun e w' => e = .returned (.string (FsY.readV n0 i a n)) ∧ Below W.heap.size W w' := fun W q0 pv p0 => SpRd.read_spec W q0 n0 i a n (by omega) HM0.out p0
    have hi : ∀ (W : World) (q0 : Value), InOk.Vars W → FsF.Holds W q0 n0 → Calls Tryz.prog 17 #[q0, .int .i64 i, .int .i64 a, .int .i64 n] W fun e w' => e = .returned (.string (FsY.readV n0 i a n)) ∧ Below W.heap.size W w' := fun W q0 pv p0 => CoC.read_impl W q0 n0 i a n (by omega) HM0.out pv (Foot.rg_of hr2) (Foot.rg_of hr3) p0
    generalize FsY.readV n0 i a n = res at hs hi
    have HS := Lib.hid hs
    have HI := Lib.hid hi
    clear hs hi
    go_enter Tryz.func6, Tryz.ntmps6
    have HB := Lib.hid (Below.refl w.heap.size w)
    have hb := Joins.below_alloc1 w (.cells #[.int .i64 v0x0, .slice v0x1a v0x1n v0x1c, .slice v0x2a v0x2n v0x2c, .slice v0x3a v0x3n v0x3c] 49)
    replace HB := Lib.hid (HB.out.trans (hb.mono HB.out.size))
    have BA0 := Lib.hid (Bx.new_at w #[.int .i64 v0x0, .slice v0x1a v0x1n v0x1c, .slice v0x2a v0x2n v0x2c, .slice v0x3a v0x3n v0x3c] 49 (w.heap.size) (by simp))
    clear hb
    obtain ⟨vBA00, vBA01, vBA02, vBA03⟩ := Bx.Bk.c4 BA0.out
    go_wp2_with fail
    refine (FsF.sz_any _ (.agg #[.int .i64 v0x0, .slice v0x1a v0x1n v0x1c, .slice v0x2a v0x2n v0x2c, .slice v0x3a v0x3n v0x3c]) n0 1048576 (by omega) HM0.out (FsF.holds_below HN0.out HB.out)).mono ?_
    rintro e w1 ⟨rfl, hb⟩
    have s1 := hb.size
    simp only [World.size_alloc] at s1
    clear vBA00 vBA01 vBA02 vBA03
    rw [HC0.out]
    replace HB := Lib.hid (HB.out.trans (hb.mono HB.out.size))
    replace BA0 := Lib.hid (Bx.Bk.all BA0.out hb)
    clear hb
    obtain ⟨vBA00, vBA01, vBA02, vBA03⟩ := Bx.Bk.c4 BA0.out
    go_wp2_with fail
    refine (FsF.to_any _ (.agg #[.int .i64 v0x0, .slice v0x1a v0x1n v0x1c, .slice v0x2a v0x2n v0x2c, .slice v0x3a v0x3n v0x3c]) n0 (by omega) (FsF.holds_below HN0.out HB.out)).mono ?_
    rintro e w2 ⟨k0, Sk0, rfl, hown, hb⟩
    have s2 := hb.size
    clear vBA00 vBA01 vBA02 vBA03
    have hlies := FsF.own_lies hown
    obtain ⟨k00, k01a, k01n, k01c, k02a, k02n, k02c, k03a, k03n, k03c, rfl⟩ := FsF.own_form hown
    have Hk0 := Lib.hid hown
    have LHk0 := Lib.hid hlies
    clear hown hlies
    replace HB := Lib.hid (HB.out.trans (hb.mono HB.out.size))
    replace BA0 := Lib.hid (Bx.Bk.all BA0.out hb)
    clear hb
    obtain ⟨vBA00, vBA01, vBA02, vBA03⟩ := Bx.Bk.c4 BA0.out
    go_wp2_with fail
    refine (HS.out _ (.agg #[.int .i64 k00, .slice k01a k01n k01c, .slice k02a k02n k02c, .slice k03a k03n k03c]) (HV.out.all HB.out) (FsF.own_holds Hk0.out)).mono ?_
    rintro e w3 ⟨rfl, hb⟩
    have s3 := hb.size
    clear vBA00 vBA01 vBA02 vBA03
    replace HB := Lib.hid (HB.out.trans (hb.mono HB.out.size))
    replace BA0 := Lib.hid (Bx.Bk.all BA0.out hb)
    replace Hk0 := Lib.hid (FsF.own_below Hk0.out hb)
    clear hb
    obtain ⟨vBA00, vBA01, vBA02, vBA03⟩ := Bx.Bk.c4 BA0.out
    clear Hk0 LHk0
    go_wp2_with fail
    refine (FsF.to_any _ (.agg #[.int .i64 v0x0, .slice v0x1a v0x1n v0x1c, .slice v0x2a v0x2n v0x2c, .slice v0x3a v0x3n v0x3c]) n0 (by omega) (FsF.holds_below HN0.out HB.out)).mono ?_
    rintro e w4 ⟨x0, Sx0, rfl, hown, hb⟩
    have s4 := hb.size
    clear vBA00 vBA01 vBA02 vBA03
    have hlies := FsF.own_lies hown
    obtain ⟨x00, x01a, x01n, x01c, x02a, x02n, x02c, x03a, x03n, x03c, rfl⟩ := FsF.own_form hown
    have Hx0 := Lib.hid hown
    have LHx0 := Lib.hid hlies
    clear hown hlies
    replace HB := Lib.hid (HB.out.trans (hb.mono HB.out.size))
    replace BA0 := Lib.hid (Bx.Bk.all BA0.out hb)
    clear hb
    obtain ⟨vBA00, vBA01, vBA02, vBA03⟩ := Bx.Bk.c4 BA0.out
    clear vBA00 vBA01 vBA02 vBA03
    have hb := Joins.below_alloc1 w4 (.cells #[.int .i64 x00, .slice x01a x01n x01c, .slice x02a x02n x02c, .slice x03a x03n x03c] 27)
    replace HB := Lib.hid (HB.out.trans (hb.mono HB.out.size))
    replace BA0 := Lib.hid (Bx.Bk.all BA0.out hb)
    replace Hx0 := Lib.hid (FsF.own_below Hx0.out hb)
    have BX0 := Lib.hid (Bx.new_at w4 #[.int .i64 x00, .slice x01a x01n x01c, .slice x02a x02n x02c, .slice x03a x03n x03c] 27 (w4.heap.size) (by simp))
    clear hb
    obtain ⟨vBA00, vBA01, vBA02, vBA03⟩ := Bx.Bk.c4 BA0.out
    obtain ⟨vBX00, vBX01, vBX02, vBX03⟩ := Bx.Bk.c4 BX0.out
    go_wp2_with fail
    refine (HI.out _ (.agg #[.int .i64 x00, .slice x01a x01n x01c, .slice x02a x02n x02c, .slice x03a x03n x03c]) (HV.out.all HB.out) (FsF.own_holds Hx0.out)).mono ?_
    rintro e w5 ⟨rfl, hb⟩
    have s5 := hb.size
    simp only [World.size_alloc] at s5
    clear vBA00 vBA01 vBA02 vBA03 vBX00 vBX01 vBX02 vBX03
    replace HB := Lib.hid (HB.out.trans (hb.mono HB.out.size))
    replace BA0 := Lib.hid (Bx.Bk.all BA0.out hb)
    replace BX0 := Lib.hid (Bx.Bk.all BX0.out hb)
    replace Hx0 := Lib.hid (FsF.own_below Hx0.out hb)
    clear hb
    obtain ⟨vBA00, vBA01, vBA02, vBA03⟩ := Bx.Bk.c4 BA0.out
    obtain ⟨vBX00, vBX01, vBX02, vBX03⟩ := Bx.Bk.c4 BX0.out
    have TK := Lib.hid trivial
    go_wp2
    go_region_held3 (fun w' => (w'.cell? ⟨w.heap.size, 0, none⟩ = some (.int .i64 v0x0) ∧ w'.cell? ⟨w.heap.size, 1, none⟩ = some (.slice v0x1a v0x1n v0x1c) ∧ w'.cell? ⟨w.heap.size, 2, none⟩ = some (.slice v0x2a v0x2n v0x2c) ∧ w'.cell? ⟨w.heap.size, 3, none⟩ = some (.slice v0x3a v0x3n v0x3c)) ∧ (w'.cell? ⟨w4.heap.size, 0, none⟩ = some (.int .i64 x00) ∧ w'.cell? ⟨w4.heap.size, 1, none⟩ = some (.slice x01a x01n x01c) ∧ w'.cell? ⟨w4.heap.size, 2, none⟩ = some (.slice x02a x02n x02c) ∧ w'.cell? ⟨w4.heap.size, 3, none⟩ = some (.slice x03a x03n x03c))) ((first | exact ⟨Bx.Bk.c4 BA0.out, Bx.Bk.c4 BX0.out⟩ | go_keep))
      (first
        | (go_at_call 26; (try (have _q := TK.out; clear _q TK; replace HB := Lib.hid HB.out.drew; replace BA0 := Lib.hid (Bx.Bk.drew BA0.out); replace BX0 := Lib.hid (Bx.Bk.drew BX0.out); replace Hx0 := Lib.hid (FsF.own_below Hx0.out (Below.refl _ _).drew))); with_reducible refine (FsF.to_any _ (.agg #[.int .i64 v0x0, .slice v0x1a v0x1n v0x1c, .slice v0x2a v0x2n v0x2c, .slice v0x3a v0x3n v0x3c]) n0 (by omega) (FsF.holds_below HN0.out HB.out)).mono ?_; rintro e w6 ⟨z0, Sz0, rfl, hown, hb⟩; have s6 := hb.size; (try simp only [World.size_alloc, World.size_drew] at s6); have hlies := FsF.own_lies hown; (try simp only [World.size_alloc, World.size_drew] at hlies); obtain ⟨z00, z01a, z01n, z01c, z02a, z02n, z02c, z03a, z03n, z03c, rfl⟩ := FsF.own_form hown; have Hz0 := Lib.hid hown; have LHz0 := Lib.hid hlies; clear hown hlies; replace HB := Lib.hid (HB.out.trans (hb.mono HB.out.size)); replace BA0 := Lib.hid (Bx.Bk.all BA0.out hb); replace BX0 := Lib.hid (Bx.Bk.all BX0.out hb); replace Hx0 := Lib.hid (FsF.own_below Hx0.out hb); clear hb)
        | (go_at_call 27; (try (have _q := TK.out; clear _q TK; replace HB := Lib.hid HB.out.drew; replace BA0 := Lib.hid (Bx.Bk.drew BA0.out); replace BX0 := Lib.hid (Bx.Bk.drew BX0.out); replace Hx0 := Lib.hid (FsF.own_below Hx0.out (Below.refl _ _).drew))); with_reducible refine (FsF.eq_any _ (.agg #[.int .i64 x00, .slice x01a x01n x01c, .slice x02a x02n x02c, .slice x03a x03n x03c]) (.agg #[.int .i64 z00, .slice z01a z01n z01c, .slice z02a z02n z02c, .slice z03a z03n z03c]) n0 (by omega) (FsF.own_holds Hx0.out) (FsF.own_holds Hz0.out)).mono ?_; rintro e w7 ⟨rfl, hb⟩; have s7 := hb.size; (try simp only [World.size_alloc, World.size_drew] at s7); replace HB := Lib.hid (HB.out.trans (hb.mono HB.out.size)); replace BA0 := Lib.hid (Bx.Bk.all BA0.out hb); replace BX0 := Lib.hid (Bx.Bk.all BX0.out hb); (try replace Hz0 := Lib.hid (FsF.own_below Hz0.out hb)); replace Hx0 := Lib.hid (FsF.own_below Hx0.out hb); clear hb))
    clear vBA00 vBA01 vBA02 vBA03 vBX00 vBX01 vBX02 vBX03
    obtain ⟨vBA00, vBA01, vBA02, vBA03⟩ := Bx.Bk.c4 BA0.out
    obtain ⟨vBX00, vBX01, vBX02, vBX03⟩ := Bx.Bk.c4 BX0.out
    clear Hz0 LHz0
    go_wp2
    go_ret
    exact ⟨rfl, HB.out⟩
  · have HC0 := Lib.hid (show costOf (FsF.cost n0) 1048576 = -1 from cost_neg hc0)
    clear hc0
    go_enter Tryz.func6, Tryz.ntmps6
    have HB := Lib.hid (Below.refl w.heap.size w)
    have hb := Joins.below_alloc1 w (.cells #[.int .i64 v0x0, .slice v0x1a v0x1n v0x1c, .slice v0x2a v0x2n v0x2c, .slice v0x3a v0x3n v0x3c] 49)
    replace HB := Lib.hid (HB.out.trans (hb.mono HB.out.size))
    have BA0 := Lib.hid (Bx.new_at w #[.int .i64 v0x0, .slice v0x1a v0x1n v0x1c, .slice v0x2a v0x2n v0x2c, .slice v0x3a v0x3n v0x3c] 49 (w.heap.size) (by simp))
    clear hb
    obtain ⟨vBA00, vBA01, vBA02, vBA03⟩ := Bx.Bk.c4 BA0.out
    go_wp2_with fail
    refine (FsF.sz_any _ (.agg #[.int .i64 v0x0, .slice v0x1a v0x1n v0x1c, .slice v0x2a v0x2n v0x2c, .slice v0x3a v0x3n v0x3c]) n0 1048576 (by omega) HM0.out (FsF.holds_below HN0.out HB.out)).mono ?_
    rintro e w1 ⟨rfl, hb⟩
    have s1 := hb.size
    simp only [World.size_alloc] at s1
    clear vBA00 vBA01 vBA02 vBA03
    rw [HC0.out]
    replace HB := Lib.hid (HB.out.trans (hb.mono HB.out.size))
    replace BA0 := Lib.hid (Bx.Bk.all BA0.out hb)
    clear hb
    obtain ⟨vBA00, vBA01, vBA02, vBA03⟩ := Bx.Bk.c4 BA0.out
    go_wp2
    go_ret
    exact ⟨rfl, HB.out⟩
set_option maxRecDepth 100000 in
theorem lifted (os : Os) (started : os.Started) (H : Type) (enc : TypeId × Value → H) :
    ReturnsInHanded {} Tryz.checked os 6 .any (fun w args => (Rows.fnExactReadBytesSpec.pre enc Tryz.prog Tryz.f6 [] false w args ∧ laidMetH Tryz.prog Rows.fnExactReadBytesRow.laid w) ∧ sizedMet enc Tryz.prog Tryz.f6 (OpenSpec.ofChange Rows.fnExactReadBytesSpec) false w args)
      (Rows.fnExactReadBytesSpec.post enc Tryz.prog Tryz.f6 false true false false) := by
  refine returnsInHanded_of_change_and (C := Tryz.checked) (X := fun w _ => laidMetH Tryz.prog Rows.fnExactReadBytesRow.laid w) (fun _ _ _ hh h => h.of_heap hh) Kit.own started (by kernel_rfl) Tryz.func6
    (ChangeSpec.witness_shaped (enc := enc) (C := Tryz.checked) (os := os) (X := fun w _ => laidMetH Tryz.prog Rows.fnExactReadBytesRow.laid w) false (World.laidAll Tryz.prog os Rows.fnExactReadBytesRow.laid) #[.agg #[.int .i64 0, .slice none 0 0, .slice none 0 0, .slice none 0 0], .int .i64 0, .int .i64 0, .int .i64 0] 8 (World.laidAll_os _ _ _)
      (World.shaped_of_ZipB (by kernel_rfl) (by kernel_rfl)) (by kernel_rfl) (by kernel_rfl) (by kernel_rfl)
      (by rw [MakeChecks.laidMetH_plain _ _ _ (by kernel_rfl)]; exact laidMet_laidAll _ (by kernel_rfl) (by kernel_rfl))) ?_
  intro W base args ds gs before hval0 hW _ _ hL _
  have hval : ∀ (j : Nat) t v, Tryz.f6.params[j]? = some t → args[j]? = some v → Value.okWide Tryz.prog W .any base t v := hval0
  have hW' := hW
  obtain ⟨p, q, hA0, hV, rfl, hfz, hnd⟩ := hW
  have hA : DataW.TrodAll enc Tryz.prog W 0 (fun _ => true) true Tryz.f6.params.toList args.toList ds p := hA0
  rw [Tryz.params6] at hA hval
  obtain ⟨v0, v1, v2, v3, d0, d1, d2, d3, rfl, rfl, ⟨_, h0⟩, ⟨_, h1⟩, ⟨_, h2⟩, ⟨_, h3⟩⟩ := Args.opened4 hA
  obtain ⟨a1, rfl, rfl, rfl, w1⟩ := open_int Tryz.underlying3 (hval 1 3 v1 rfl rfl) h1
  obtain ⟨a2, rfl, rfl, rfl, w2⟩ := open_int Tryz.underlying3 (hval 2 3 v2 rfl rfl) h2
  obtain ⟨a3, rfl, rfl, rfl, w3⟩ := open_int Tryz.underlying3 (hval 3 3 v3 rfl rfl) h3
  obtain ⟨a0, w0⟩ := FsF.in_any (hval 0 49 v0 rfl rfl) h0
  refine (law_any _ a0 a1 a2 a3 W w0 w1 w2 w3 (LaidM.vars_of hL)).mono fun e W' ⟨he, hb⟩ => ?_
  subst he
  exact ⟨_, rfl, KitV.law_post Kit.laidOut (by kernel_rfl) (by kernel_rfl) Tryz.underlying4 rfl (fun H ds gs hl hg => by match ds, gs, hl, hg with | [d0, d1, d2, d3], [g0], _, _ => rfl) hW' hb⟩

theorem said : Rows.FnExactReadBytesSaid :=
  OpenClaim.holds_of_wide 6 Tryz.f6 rfl rfl rfl rfl rfl rfl rfl ⟨rfl, rfl, rfl, rfl, rfl⟩ rfl rfl rfl rfl rfl (by kernel_rfl) Tryz.func6 (by kernel_rfl)
    (of_decide_eq_true (by kernel_rfl)) (by unfold Func.isWrapper; first | (rw [if_pos (by decide +kernel)]; kernel_rfl) | (rw [if_neg (by decide +kernel)]; exact ⟨rfl, rfl⟩))
    (fun os started H enc _ => lifted os started H enc)

theorem plain (f : FuncId) (fn : Func) (hf : Tryz.pinned.checked.prog.funcNamed "loop.example/g00817/laws.FnExactReadBytes" = some f) (hfn : Tryz.pinned.checked.prog.funcs[f]? = some fn) :
    Rows.fnExactReadBytesCard.stood.looks = Tryz.pinned.checked.prog.looks [] ∧ ∀ (j : Nat) t, fn.params[j]? = some t → Tryz.pinned.checked.prog.wantsStandIn t = false := by
  obtain rfl : f = 6 := Option.some.inj ((show Tryz.prog.funcNamed "loop.example/g00817/laws.FnExactReadBytes" = some 6 by kernel_rfl).symm.trans hf) |>.symm
  obtain rfl : fn = Tryz.f6 := (Option.some.inj (Tryz.func6.symm.trans hfn)).symm
  refine ⟨by kernel_rfl, fun j t ht => ?_⟩
  rw [Tryz.params6] at ht
  have hm : t ∈ [49, 3, 3, 3] := by simpa using Array.mem_of_getElem? ht
  have hall : ([49, 3, 3, 3].all fun u => !Tryz.prog.wantsStandIn u) = true := by kernel_rfl
  exact (show Tryz.prog.wantsStandIn t = false by simpa using List.all_eq_true.1 hall t hm)

theorem holds : Rows.FnExactReadBytesCardSaid :=
  Claim7.holds_tied_plain_at .later [] _ _ _ _ said (fun _ h => by cases h) (by kernel_rfl) (fun _ h => by cases h) fnExactReadBytes_row_tie rfl ⟨rfl, rfl⟩ (by kernel_rfl) rfl plain (by kernel_rfl)
#print axioms holds
end Go.Proofs.YtjefefedhhloiaaGreatDoor.ReadBytesLaw