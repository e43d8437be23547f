/- Proved: for every credentials, list of entries and every four ints, the law FnExactAllowed returns true and leaves its arguments as they were: the program's Allowed answers as the model's. Condition: none beyond the row's own. -/
import Derived.Test.YtjdehgadfjopiaaArgs
import Derived.Test.YtjdehgadfjopiaaAs
import Derived.Test.YtjdehgadfjopiaaAeIn
import Derived.Test.YtjdehgadfjopiaaCr
namespace Go.Proofs.Ytjdehgadfjopiaa.AllowedLaw
open Go.ChangeShapes Go.WideShapes Go.ChangeAt Go.RowKit
open Go.ChangeMaps (open_string shut_string)
set_option linter.unusedVariables false

set_option maxRecDepth 100000 in
set_option maxHeartbeats 3200000 in
theorem law_any (u0 g0 : Int) (v0 : Value) (l0 : List Int) (uid : Int) (gid : Int) (mode : Int) (v4 : Value) (l4 : List AclV.At) (want : Int) (w : World) (h0 : Cr.In w v0 l0) (_ : (Lit.int .i64 uid).wf = true) (_ : (Lit.int .i64 gid).wf = true) (_ : (Lit.int .i64 mode).wf = true) (h4 : Ae.LIn w v4 l4) (_ : (Lit.int .i64 want).wf = true) :
    Calls Try.prog 9 #[.agg #[.int .i64 u0, .int .i64 g0, v0], .int .i64 uid, .int .i64 gid, .int .i64 mode, v4, .int .i64 want] w fun e w' => e = .returned (.bool true) ∧ Below w.heap.size w w' := by
  have HN0 := Lib.hid h0
  clear h0
  have HN4 := Lib.hid h4
  clear h4
  by_cases hc0 : l0.length ≤ 1048576
  · obtain ⟨r0, hr0⟩ : ∃ r0 : Nat, r0 = 1048576 - l0.length := ⟨_, rfl⟩
    have HC0 := Lib.hid (show Cr.costOf l0.length 1048576 = (r0 : Int) by rw [hr0]; exact if_pos hc0)
    have hle0 : r0 ≤ 1048576 := by omega
    have hlen0 : l0.length ≤ 1048576 := by omega
    clear hr0 hc0
    by_cases hc4 : l4.length ≤ r0
    · obtain ⟨r4, hr4⟩ : ∃ r4 : Nat, r4 = r0 - l4.length := ⟨_, rfl⟩
      have HC4 := Lib.hid (show (if l4.length ≤ r0 then ((r0 - l4.length : Nat) : Int) else -1) = (r4 : Int) by rw [hr4]; exact if_pos hc4)
      have hle4 : r4 ≤ 1048576 := by omega
      have hlen4 : l4.length ≤ 1048576 := by omega
      clear hr4 hc4
      have hs : ∀ (W : World) (q0 : Value) (q4 : Value), Ni.HoldsN W q0 l0 → Ae.Holds W q4 l4 → Calls Try.prog 32 #[.agg #[.int .i64 u0, .int .i64 g0, q0], .int .i64 uid, .int .i64 gid, .int .i64 mode, q4, .int .i64 want] W fun e w' => e = .returned (.bool (CredV.allowedV (u0, g0, l0) uid gid mode l4 want)) ∧ Below W.heap.size W w' := fun W q0 q4 p0 p4 => As.allowed_spec W u0 g0 q0 l0 uid gid mode q4 l4 want (by omega) (by omega) p0 p4
      have hi : ∀ (W : World) (q0 : Value) (q4 : Value), Ni.HoldsN W q0 l0 → Ae.Holds W q4 l4 → Calls Try.prog 16 #[.agg #[.int .i64 u0, .int .i64 g0, q0], .int .i64 uid, .int .i64 gid, .int .i64 mode, q4, .int .i64 want] W fun e w' => e = .returned (.bool (CredV.allowedV (u0, g0, l0) uid gid mode l4 want)) ∧ Below W.heap.size W w' := fun W q0 q4 p0 p4 => Aw.allowed_impl W u0 g0 q0 l0 uid gid mode q4 l4 want (by omega) (by omega) p0 p4
      generalize CredV.allowedV (u0, g0, l0) uid gid mode l4 want = res at hs hi
      have HS := Lib.hid hs
      have HI := Lib.hid hi
      clear hs hi
      go_enter Try.func9, Try.ntmps9
      have HB := Lib.hid (Below.refl w.heap.size w)
      have hb := Joins.below_alloc1 w (.cells #[.int .i64 u0, .int .i64 g0, v0] 41)
      replace HB := Lib.hid (HB.out.trans (hb.mono HB.out.size))
      have BA0 := Lib.hid (Bx.new_at w #[.int .i64 u0, .int .i64 g0, v0] 41 (w.heap.size) (by simp))
      clear hb
      obtain ⟨vBA00, vBA01, vBA02⟩ := Bx.Bk.three BA0.out
      go_wp2_with fail
      refine (Cr.sz_any _ u0 g0 v0 l0 1048576 (by omega) HN0.out.len (Ni.holds_below HN0.out.holds HB.out)).mono ?_
      rintro e w1 ⟨rfl, hb⟩
      have s1 := hb.size
      simp only [World.size_alloc] at s1
      clear vBA00 vBA01 vBA02
      rw [HC0.out]
      replace HB := Lib.hid (HB.out.trans (hb.mono HB.out.size))
      replace BA0 := Lib.hid (Bx.Bk.all BA0.out hb)
      clear hb
      obtain ⟨vBA00, vBA01, vBA02⟩ := Bx.Bk.three BA0.out
      go_wp2_with fail
      refine (Ae.sz_any _ v4 l4 r0 (by omega) HN4.out.len (Ae.holds_below HN4.out.holds HB.out)).mono ?_
      rintro e w2 ⟨rfl, hb⟩
      have s2 := hb.size
      clear vBA00 vBA01 vBA02
      rw [HC4.out]
      replace HB := Lib.hid (HB.out.trans (hb.mono HB.out.size))
      replace BA0 := Lib.hid (Bx.Bk.all BA0.out hb)
      clear hb
      obtain ⟨vBA00, vBA01, vBA02⟩ := Bx.Bk.three BA0.out
      go_wp2_with fail
      refine (Cr.to_any _ u0 g0 v0 l0 (by omega) (Ni.holds_below HN0.out.holds HB.out)).mono ?_
      rintro e w3 ⟨k0, rfl, hown, hb⟩
      have s3 := hb.size
      clear vBA00 vBA01 vBA02
      have Hk0 := Lib.hid (Ni.holds_of_own hown)
      obtain ⟨k0a, k0c, rfl⟩ := Dk.slice_of hown
      clear hown
      replace HB := Lib.hid (HB.out.trans (hb.mono HB.out.size))
      replace BA0 := Lib.hid (Bx.Bk.all BA0.out hb)
      clear hb
      obtain ⟨vBA00, vBA01, vBA02⟩ := Bx.Bk.three BA0.out
      go_wp2_with fail
      refine (Ae.to_any _ v4 l4 (by omega) (Ae.holds_below HN4.out.holds HB.out)).mono ?_
      rintro e w4 ⟨k4, rfl, hown, hb⟩
      have s4 := hb.size
      clear vBA00 vBA01 vBA02
      have Hk4 := Lib.hid (Ae.holds_of_own hown)
      obtain ⟨k4a, k4c, rfl⟩ := Dk.slice_of hown
      clear hown
      replace HB := Lib.hid (HB.out.trans (hb.mono HB.out.size))
      replace BA0 := Lib.hid (Bx.Bk.all BA0.out hb)
      replace Hk0 := Lib.hid (Ni.holds_below Hk0.out hb)
      clear hb
      obtain ⟨vBA00, vBA01, vBA02⟩ := Bx.Bk.three BA0.out
      go_wp2_with fail
      refine (HS.out _ (.slice k0a l0.length k0c) (.slice k4a l4.length k4c) Hk0.out Hk4.out).mono ?_
      rintro e w5 ⟨rfl, hb⟩
      have s5 := hb.size
      clear vBA00 vBA01 vBA02
      replace HB := Lib.hid (HB.out.trans (hb.mono HB.out.size))
      replace BA0 := Lib.hid (Bx.Bk.all BA0.out hb)
      replace Hk0 := Lib.hid (Ni.holds_below Hk0.out hb)
      replace Hk4 := Lib.hid (Ae.holds_below Hk4.out hb)
      clear hb
      obtain ⟨vBA00, vBA01, vBA02⟩ := Bx.Bk.three BA0.out
      clear Hk0 Hk4
      go_wp2_with fail
      refine (Cr.to_any _ u0 g0 v0 l0 (by omega) (Ni.holds_below HN0.out.holds HB.out)).mono ?_
      rintro e w6 ⟨x0, rfl, hown, hb⟩
      have s6 := hb.size
      clear vBA00 vBA01 vBA02
      have Hx0 := Lib.hid (Ni.holds_of_own hown)
      obtain ⟨x0a, x0c, rfl⟩ := Dk.slice_of hown
      clear hown
      replace HB := Lib.hid (HB.out.trans (hb.mono HB.out.size))
      replace BA0 := Lib.hid (Bx.Bk.all BA0.out hb)
      clear hb
      obtain ⟨vBA00, vBA01, vBA02⟩ := Bx.Bk.three BA0.out
      clear vBA00 vBA01 vBA02
      have hb := Joins.below_alloc1 w6 (.cells #[.int .i64 u0, .int .i64 g0, .slice x0a l0.length x0c] 25)
      replace HB := Lib.hid (HB.out.trans (hb.mono HB.out.size))
      replace BA0 := Lib.hid (Bx.Bk.all BA0.out hb)
      replace Hx0 := Lib.hid (Ni.holds_below Hx0.out hb)
      have BX0 := Lib.hid (Bx.new_at w6 #[.int .i64 u0, .int .i64 g0, .slice x0a l0.length x0c] 25 (w6.heap.size) (by simp))
      clear hb
      obtain ⟨vBA00, vBA01, vBA02⟩ := Bx.Bk.three BA0.out
      obtain ⟨vBX00, vBX01, vBX02⟩ := Bx.Bk.three BX0.out
      go_wp2_with fail
      refine (Ae.to_any _ v4 l4 (by omega) (Ae.holds_below HN4.out.holds HB.out)).mono ?_
      rintro e w7 ⟨x4, rfl, hown, hb⟩
      have s7 := hb.size
      simp only [World.size_alloc] at s7
      clear vBA00 vBA01 vBA02 vBX00 vBX01 vBX02
      have Hx4 := Lib.hid (Ae.holds_of_own hown)
      obtain ⟨x4a, x4c, rfl⟩ := Dk.slice_of hown
      clear hown
      replace HB := Lib.hid (HB.out.trans (hb.mono HB.out.size))
      replace BA0 := Lib.hid (Bx.Bk.all BA0.out hb)
      replace BX0 := Lib.hid (Bx.Bk.all BX0.out hb)
      replace Hx0 := Lib.hid (Ni.holds_below Hx0.out hb)
      clear hb
      obtain ⟨vBA00, vBA01, vBA02⟩ := Bx.Bk.three BA0.out
      obtain ⟨vBX00, vBX01, vBX02⟩ := Bx.Bk.three BX0.out
      go_wp2_with fail
      refine (HI.out _ (.slice x0a l0.length x0c) (.slice x4a l4.length x4c) Hx0.out Hx4.out).mono ?_
      rintro e w8 ⟨rfl, hb⟩
      have s8 := hb.size
      clear vBA00 vBA01 vBA02 vBX00 vBX01 vBX02
      replace HB := Lib.hid (HB.out.trans (hb.mono HB.out.size))
      replace BA0 := Lib.hid (Bx.Bk.all BA0.out hb)
      replace BX0 := Lib.hid (Bx.Bk.all BX0.out hb)
      replace Hx0 := Lib.hid (Ni.holds_below Hx0.out hb)
      replace Hx4 := Lib.hid (Ae.holds_below Hx4.out hb)
      clear hb
      obtain ⟨vBA00, vBA01, vBA02⟩ := Bx.Bk.three BA0.out
      obtain ⟨vBX00, vBX01, vBX02⟩ := Bx.Bk.three BX0.out
      go_wp2
      go_region_held3 (fun w' => w'.cell? ⟨w6.heap.size, 0, none⟩ = some (.int .i64 u0) ∧ w'.cell? ⟨w6.heap.size, 1, none⟩ = some (.int .i64 g0) ∧ w'.cell? ⟨w6.heap.size, 2, none⟩ = some (.slice x0a l0.length x0c) ∧ w'.cell? ⟨w.heap.size, 0, none⟩ = some (.int .i64 u0) ∧ w'.cell? ⟨w.heap.size, 1, none⟩ = some (.int .i64 g0) ∧ w'.cell? ⟨w.heap.size, 2, none⟩ = some (v0)) (go_keep)
        (first
          | (go_at_call 27; replace HB := Lib.hid HB.out.drew; replace BA0 := Lib.hid (Bx.Bk.drew BA0.out); replace BX0 := Lib.hid (Bx.Bk.drew BX0.out); replace Hx0 := Lib.hid (Ni.holds_below Hx0.out (Below.refl _ _).drew); replace Hx4 := Lib.hid (Ae.holds_below Hx4.out (Below.refl _ _).drew); refine (Cr.to_any _ u0 g0 v0 l0 (by omega) (Ni.holds_below HN0.out.holds HB.out)).mono ?_; rintro e w9 ⟨z0, rfl, hown, hb⟩; have s9 := hb.size; try simp only [World.size_alloc, World.size_drew] at s9; have Hz0 := Lib.hid (Ni.holds_of_own hown); clear hown; replace HB := Lib.hid (HB.out.trans (hb.mono HB.out.size)); replace BA0 := Lib.hid (Bx.Bk.all BA0.out hb); replace BX0 := Lib.hid (Bx.Bk.all BX0.out hb); replace Hx0 := Lib.hid (Ni.holds_below Hx0.out hb); replace Hx4 := Lib.hid (Ae.holds_below Hx4.out hb); clear hb; obtain ⟨vBA0w90, vBA0w91, vBA0w92⟩ := Bx.Bk.three BA0.out; obtain ⟨vBX0w90, vBX0w91, vBX0w92⟩ := Bx.Bk.three BX0.out)
          | (go_at_call 28; refine (Cr.eq_any _ u0 g0 (.slice x0a l0.length x0c) z0 l0 (by omega) Hx0.out Hz0.out).mono ?_; rintro e w10 ⟨rfl, hb⟩; have s10 := hb.size; replace HB := Lib.hid (HB.out.trans (hb.mono HB.out.size)); replace BA0 := Lib.hid (Bx.Bk.all BA0.out hb); replace BX0 := Lib.hid (Bx.Bk.all BX0.out hb); replace Hx0 := Lib.hid (Ni.holds_below Hx0.out hb); replace Hx4 := Lib.hid (Ae.holds_below Hx4.out hb); replace Hz0 := Lib.hid (Ni.holds_below Hz0.out hb); clear hb; obtain ⟨vBA0w100, vBA0w101, vBA0w102⟩ := Bx.Bk.three BA0.out; obtain ⟨vBX0w100, vBX0w101, vBX0w102⟩ := Bx.Bk.three BX0.out))
      clear vBA00 vBA01 vBA02 vBX00 vBX01 vBX02
      obtain ⟨vBA00, vBA01, vBA02⟩ := Bx.Bk.three BA0.out
      obtain ⟨vBX00, vBX01, vBX02⟩ := Bx.Bk.three BX0.out
      go_wp2_with fail
      refine (Ae.to_any _ v4 l4 (by omega) (Ae.holds_below HN4.out.holds HB.out)).mono ?_
      rintro e w11 ⟨z4, rfl, hown, hb⟩
      have s11 := hb.size
      clear vBA00 vBA01 vBA02 vBX00 vBX01 vBX02
      have Hz4 := Lib.hid (Ae.holds_of_own hown)
      obtain ⟨z4a, z4c, rfl⟩ := Dk.slice_of hown
      clear hown
      replace HB := Lib.hid (HB.out.trans (hb.mono HB.out.size))
      replace BA0 := Lib.hid (Bx.Bk.all BA0.out hb)
      replace BX0 := Lib.hid (Bx.Bk.all BX0.out hb)
      replace Hx0 := Lib.hid (Ni.holds_below Hx0.out hb)
      replace Hx4 := Lib.hid (Ae.holds_below Hx4.out hb)
      replace Hz0 := Lib.hid (Ni.holds_below Hz0.out hb)
      clear hb
      obtain ⟨vBA00, vBA01, vBA02⟩ := Bx.Bk.three BA0.out
      obtain ⟨vBX00, vBX01, vBX02⟩ := Bx.Bk.three BX0.out
      go_wp2_with fail
      refine (Ae.eq_any _ (.slice x4a l4.length x4c) (.slice z4a l4.length z4c) l4 (by omega) Hx4.out Hz4.out).mono ?_
      rintro e w12 ⟨rfl, hb⟩
      have s12 := hb.size
      clear vBA00 vBA01 vBA02 vBX00 vBX01 vBX02
      replace HB := Lib.hid (HB.out.trans (hb.mono HB.out.size))
      replace BA0 := Lib.hid (Bx.Bk.all BA0.out hb)
      replace BX0 := Lib.hid (Bx.Bk.all BX0.out hb)
      replace Hx0 := Lib.hid (Ni.holds_below Hx0.out hb)
      replace Hx4 := Lib.hid (Ae.holds_below Hx4.out hb)
      replace Hz0 := Lib.hid (Ni.holds_below Hz0.out hb)
      replace Hz4 := Lib.hid (Ae.holds_below Hz4.out hb)
      clear hb
      obtain ⟨vBA00, vBA01, vBA02⟩ := Bx.Bk.three BA0.out
      obtain ⟨vBX00, vBX01, vBX02⟩ := Bx.Bk.three BX0.out
      go_wp2
      go_ret
      exact ⟨rfl, HB.out⟩
    · have HC4 := Lib.hid (show (if l4.length ≤ r0 then ((r0 - l4.length : Nat) : Int) else -1) = -1 from if_neg hc4)
      go_enter Try.func9, Try.ntmps9
      have HB := Lib.hid (Below.refl w.heap.size w)
      have hb := Joins.below_alloc1 w (.cells #[.int .i64 u0, .int .i64 g0, v0] 41)
      replace HB := Lib.hid (HB.out.trans (hb.mono HB.out.size))
      have BA0 := Lib.hid (Bx.new_at w #[.int .i64 u0, .int .i64 g0, v0] 41 (w.heap.size) (by simp))
      clear hb
      obtain ⟨vBA00, vBA01, vBA02⟩ := Bx.Bk.three BA0.out
      go_wp2_with fail
      refine (Cr.sz_any _ u0 g0 v0 l0 1048576 (by omega) HN0.out.len (Ni.holds_below HN0.out.holds HB.out)).mono ?_
      rintro e w1 ⟨rfl, hb⟩
      have s1 := hb.size
      simp only [World.size_alloc] at s1
      clear vBA00 vBA01 vBA02
      rw [HC0.out]
      replace HB := Lib.hid (HB.out.trans (hb.mono HB.out.size))
      replace BA0 := Lib.hid (Bx.Bk.all BA0.out hb)
      clear hb
      obtain ⟨vBA00, vBA01, vBA02⟩ := Bx.Bk.three BA0.out
      go_wp2_with fail
      refine (Ae.sz_any _ v4 l4 r0 (by omega) HN4.out.len (Ae.holds_below HN4.out.holds HB.out)).mono ?_
      rintro e w2 ⟨rfl, hb⟩
      have s2 := hb.size
      clear vBA00 vBA01 vBA02
      rw [HC4.out]
      replace HB := Lib.hid (HB.out.trans (hb.mono HB.out.size))
      replace BA0 := Lib.hid (Bx.Bk.all BA0.out hb)
      clear hb
      obtain ⟨vBA00, vBA01, vBA02⟩ := Bx.Bk.three BA0.out
      go_wp2
      go_ret
      exact ⟨rfl, HB.out⟩
  · have HC0 := Lib.hid (show Cr.costOf l0.length 1048576 = -1 from if_neg hc0)
    go_enter Try.func9, Try.ntmps9
    have HB := Lib.hid (Below.refl w.heap.size w)
    have hb := Joins.below_alloc1 w (.cells #[.int .i64 u0, .int .i64 g0, v0] 41)
    replace HB := Lib.hid (HB.out.trans (hb.mono HB.out.size))
    have BA0 := Lib.hid (Bx.new_at w #[.int .i64 u0, .int .i64 g0, v0] 41 (w.heap.size) (by simp))
    clear hb
    obtain ⟨vBA00, vBA01, vBA02⟩ := Bx.Bk.three BA0.out
    go_wp2_with fail
    refine (Cr.sz_any _ u0 g0 v0 l0 1048576 (by omega) HN0.out.len (Ni.holds_below HN0.out.holds HB.out)).mono ?_
    rintro e w1 ⟨rfl, hb⟩
    have s1 := hb.size
    simp only [World.size_alloc] at s1
    clear vBA00 vBA01 vBA02
    rw [HC0.out]
    replace HB := Lib.hid (HB.out.trans (hb.mono HB.out.size))
    replace BA0 := Lib.hid (Bx.Bk.all BA0.out hb)
    clear hb
    obtain ⟨vBA00, vBA01, vBA02⟩ := Bx.Bk.three BA0.out
    go_wp2
    go_ret
    exact ⟨rfl, HB.out⟩

set_option maxRecDepth 100000 in
theorem lifted (os : Os) (started : os.Started) (H : Type) (enc : TypeId × Value → H) :
    ReturnsInHanded {} Try.checked os 9 .any (Rows.fnExactAllowedSpec.pre6 enc Try.prog Try.f9 Rows.fnExactAllowedRow.domain false) (Rows.fnExactAllowedSpec.post enc Try.prog Try.f9 false true false false) := by
  refine returnsInHanded_of_change (C := Try.checked) Kit.own started (by kernel_rfl) Try.func9
    (ChangeSpec.witness6 (enc := enc) (C := Try.checked) false ⟨#[], #[.agg #[.int .i64 0, .int .i64 0, .slice none 0 0], .int .i64 0, .int .i64 0, .int .i64 0, .slice none 0 0, .int .i64 0], []⟩ 8 (by kernel_rfl) (by kernel_rfl) (by kernel_rfl) (by kernel_rfl)) ?_
  intro W base args ds gs before hval0 hW hcnd _
  have hval : ∀ (j : Nat) t v, Try.f9.params[j]? = some t → args[j]? = some v → Value.okWide Try.prog W .any base t v := hval0
  have hW' := hW
  obtain ⟨p, q, hA0, hV, rfl, hfz, hnd⟩ := hW
  have hA : DataW.TrodAll enc Try.prog W 0 (fun _ => true) true Try.f9.params.toList args.toList ds p := hA0
  rw [Try.params9] at hA hval
  obtain ⟨v0, v1, v2, v3, v4, v5, d0, d1, d2, d3, d4, d5, rfl, rfl, ⟨_, h0⟩, ⟨_, h1⟩, ⟨_, h2⟩, ⟨_, h3⟩, ⟨_, h4⟩, ⟨_, h5⟩⟩ := Args.opened6 hA
  obtain ⟨a1, rfl, rfl, rfl, w1⟩ := open_int Try.underlying3 (hval 1 3 v1 rfl rfl) h1
  obtain ⟨a2, rfl, rfl, rfl, w2⟩ := open_int Try.underlying3 (hval 2 3 v2 rfl rfl) h2
  obtain ⟨a3, rfl, rfl, rfl, w3⟩ := open_int Try.underlying3 (hval 3 3 v3 rfl rfl) h3
  obtain ⟨a5, rfl, rfl, rfl, w5⟩ := open_int Try.underlying3 (hval 5 3 v5 rfl rfl) h5
  obtain ⟨u0, g0, s0, a0, rfl, w0⟩ := Cr.cred_of (hval 0 41 v0 rfl rfl) h0
  obtain ⟨a4, w4⟩ := Ae.list_of (hval 4 48 v4 rfl rfl) h4
  refine (law_any u0 g0 s0 a0 a1 a2 a3 _ a4 a5 W w0 w1 w2 w3 w4 w5).mono fun e W' ⟨he, hb⟩ => ?_
  subst he
  exact ⟨_, rfl, Kit.law_post Kit.laidOut (by kernel_rfl) Try.underlying4 rfl rfl (fun H ds hl => by match ds, hl with | [d0, d1, d2, d3, d4, d5], _ => rfl) hW' hb⟩

theorem holds : Rows.FnExactAllowedSaid :=
  OpenClaim.holds_of_wide 9 Try.f9 rfl rfl rfl rfl rfl rfl rfl ⟨rfl, rfl, rfl, rfl, rfl⟩ rfl rfl rfl rfl rfl (by kernel_rfl) Try.func9 (by kernel_rfl)
    (of_decide_eq_true (by kernel_rfl)) (by unfold Func.isWrapper; first | (rw [if_pos (by decide +kernel)]; kernel_rfl) | (rw [if_neg (by decide +kernel)]; exact ⟨rfl, rfl⟩))
    (fun os started H enc _ => lifted os started H enc)
#print axioms holds
end Go.Proofs.Ytjdehgadfjopiaa.AllowedLaw
