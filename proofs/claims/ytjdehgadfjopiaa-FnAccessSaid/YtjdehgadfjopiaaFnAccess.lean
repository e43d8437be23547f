/- Proved: for every drawn code, the law FnAccess returns true: a permission includes all smaller ones, the superuser has all, the mask limits a named user, the owner's class decides about the owner. Condition: none beyond the row's own. -/
import Derived.Test.YtjdehgadfjopiaaCDraw
import Derived.Test.YtjdehgadfjopiaaAw
import Derived.Test.YtjdehgadfjopiaaCode
namespace Go.Proofs.Ytjdehgadfjopiaa.FnAccess
open Go.ChangeShapes Go.WideShapes Go.ChangeAt Go.RowKit
open Cur ModeV CredV
open AclV (okB permV maskV)
set_option linter.unusedVariables false

theorem args_ok {c : Cr} {uid gid mode : Int} {l : List AclV.At} {want : Int} (hc : credB c = true) (hl : okB l = true) (hu : 0 ≤ uid ∧ uid ≤ 3) (hg : 0 ≤ gid ∧ gid ≤ 3) (hm : 0 ≤ mode ∧ mode ≤ 2047) (hw : In8 want) : argsB c uid gid mode l want = true := by
  rw [argsB, hc, hl, (user_iff uid).2 hu, (user_iff gid).2 hg, (mode_iff mode).2 hm, decide_eq_true hw.1, decide_eq_true hw.2]; rfl
theorem nil_holds (W : World) : Ni.HoldsN W (.slice none 0 0) [] := ⟨none, 0, rfl, fun i h => absurd h (Nat.not_lt_zero _)⟩
theorem in8 {k : Nat} (h : k < 8) : In8 (k : Int) := ⟨by omega, by omega⟩
set_option maxRecDepth 100000 in
set_option maxHeartbeats 16000000 in
theorem law_any (cv : Value) (ns : List Nat) (w : World) (hc : CodeIn w w.heap.size cv ns) :
    Calls Try.prog 3 #[cv] w fun e w' => e = .returned (.bool true) ∧ Below w.heap.size w w' := by
  have HCO := Lib.hid hc
  obtain ⟨a, cap, rfl⟩ : ∃ a cap, cv = .slice a ns.length cap := ⟨_, _, hc.choose_spec.choose_spec.1⟩
  have hlen := hc.choose_spec.choose_spec.2.1
  have hl2 : ¬ (1048576 : Int) < (ns.length : Int) := by omega
  clear hc
  go_enter Try.func3, Try.ntmps3
  have HB := Lib.hid (Below.refl w.heap.size w)
  go_wp2_with fail
  refine (CDraw.make_any _ _ ns 1 (by omega) (CDraw.code_at HCO.out HB.out)).mono ?_
  rintro e w1 ⟨u, gi, gv, gl, rfl, hu, hgi, hcok, hown, hb⟩
  have s1 := hb.size
  have HG := Lib.hid (Ni.holds_of_own hown)
  obtain ⟨ga, gc, rfl⟩ := Dk.slice_of hown
  have HCK := Lib.hid hcok
  have hgl := CredV.asc_len (show CredV.ascB gl gl.length = true by simp only [credB, Bool.and_eq_true] at hcok; exact hcok.1.1)
  obtain ⟨NG, hNG⟩ : ∃ NG, NG = gl.length := ⟨_, rfl⟩
  rw [← hNG] at HG ⊢
  have HNG := Lib.hid hNG
  clear hown hcok hNG
  replace HB := Lib.hid (HB.out.trans (hb.mono HB.out.size))
  clear hb
  have hb := Joins.below_alloc1 w1 (.cells #[.int .i64 (u : Int), .int .i64 (gi : Int), .slice ga NG gc] 25)
  replace HB := Lib.hid (HB.out.trans (hb.mono HB.out.size))
  replace HG := Lib.hid (Ni.holds_below HG.out hb)
  have BX := Lib.hid (Bx.new_at w1 #[.int .i64 (u : Int), .int .i64 (gi : Int), .slice ga NG gc] 25 (w1.heap.size) (by simp))
  clear hb
  obtain ⟨vBX0, vBX1, vBX2⟩ := Bx.Bk.three BX.out
  go_wp2_with fail
  refine (ADraw.make_any _ _ ns 9 (by omega) (CDraw.code_at HCO.out HB.out)).mono ?_
  rintro e w2 ⟨av, al, rfl, hok, hown, hb⟩
  have s2 := hb.size
  simp only [World.size_alloc] at s2
  clear vBX0 vBX1 vBX2
  have HA := Lib.hid (Ae.holds_of_own hown)
  obtain ⟨aa, ac, rfl⟩ := Dk.slice_of hown
  have HOK := Lib.hid hok
  have hal := AclV.ok_len hok
  obtain ⟨NA, hNA⟩ : ∃ NA, NA = al.length := ⟨_, rfl⟩
  rw [← hNA] at HA ⊢
  have HNA := Lib.hid hNA
  clear hown hok hNA
  replace HB := Lib.hid (HB.out.trans (hb.mono HB.out.size))
  replace BX := Lib.hid (Bx.Bk.all BX.out hb)
  replace HG := Lib.hid (Ni.holds_below HG.out hb)
  clear hb
  obtain ⟨vBX0, vBX1, vBX2⟩ := Bx.Bk.three BX.out
  go_wp2_with fail
  refine (Go.Proofs.Ytjdehgadfjopiaa.Make.num_any _ _ ns 2 (by omega) (CDraw.code_at HCO.out HB.out)).mono ?_
  rintro e w3 ⟨n1, hn1, rfl, hb⟩
  have s3 := hb.size
  clear vBX0 vBX1 vBX2
  have hm0 : 0 ≤ (n1 : Int) % 512 ∧ (n1 : Int) % 512 ≤ 2047 := by omega
  replace HB := Lib.hid (HB.out.trans (hb.mono HB.out.size))
  replace BX := Lib.hid (Bx.Bk.all BX.out hb)
  replace HG := Lib.hid (Ni.holds_below HG.out hb)
  replace HA := Lib.hid (Ae.holds_below HA.out hb)
  clear hb
  obtain ⟨vBX0, vBX1, vBX2⟩ := Bx.Bk.three BX.out
  go_wp2_with fail
  generalize (n1 : Int) % 512 = mode at hm0 ⊢
  refine (Go.Proofs.Ytjdehgadfjopiaa.Make.num_any _ _ ns 4 (by omega) (CDraw.code_at HCO.out HB.out)).mono ?_
  rintro e w4 ⟨n2, hn2, rfl, hb⟩
  have s4 := hb.size
  clear vBX0 vBX1 vBX2
  have hu0 : 0 ≤ (n2 : Int) % 4 ∧ (n2 : Int) % 4 ≤ 3 := by omega
  replace HB := Lib.hid (HB.out.trans (hb.mono HB.out.size))
  replace BX := Lib.hid (Bx.Bk.all BX.out hb)
  replace HG := Lib.hid (Ni.holds_below HG.out hb)
  replace HA := Lib.hid (Ae.holds_below HA.out hb)
  clear hb
  obtain ⟨vBX0, vBX1, vBX2⟩ := Bx.Bk.three BX.out
  go_wp2_with fail
  generalize (n2 : Int) % 4 = uid at hu0 ⊢
  refine (Go.Proofs.Ytjdehgadfjopiaa.Make.num_any _ _ ns 5 (by omega) (CDraw.code_at HCO.out HB.out)).mono ?_
  rintro e w5 ⟨n3, hn3, rfl, hb⟩
  have s5 := hb.size
  clear vBX0 vBX1 vBX2
  have hg0 : 0 ≤ (n3 : Int) % 4 ∧ (n3 : Int) % 4 ≤ 3 := by omega
  replace HB := Lib.hid (HB.out.trans (hb.mono HB.out.size))
  replace BX := Lib.hid (Bx.Bk.all BX.out hb)
  replace HG := Lib.hid (Ni.holds_below HG.out hb)
  replace HA := Lib.hid (Ae.holds_below HA.out hb)
  clear hb
  obtain ⟨vBX0, vBX1, vBX2⟩ := Bx.Bk.three BX.out
  clear vBX0 vBX1 vBX2
  go_wp2_with fail
  generalize (n3 : Int) % 4 = gid at hg0 ⊢
  generalize hU : (u : Int) = U at BX ⊢
  generalize hGI : (gi : Int) = GI at BX ⊢
  rw [hU, hGI] at HCK
  obtain ⟨AV, hAV⟩ : ∃ AV : Int → Bool, AV = fun want => allowedV (U, GI, gl) uid gid mode al want := ⟨_, rfl⟩
  have HARG := Lib.hid (fun (want : Int) (hw : In8 want) => args_ok (c := (U, GI, gl)) (uid := uid) (gid := gid) (mode := mode) (l := al) HCK.out HOK.out hu0 hg0 hm0 hw)
  have HARZ := Lib.hid (fun (want : Int) (hw : In8 want) => args_ok (c := (0, 0, [])) (uid := uid) (gid := gid) (mode := mode) (l := al) cred_zero HOK.out hu0 hg0 hm0 hw)
  have HAL := Lib.hid (fun (W : World) (want : Int) (p : Ni.HoldsN W (.slice ga NG gc) gl) (q : Ae.Holds W (.slice aa NA ac) al) => (by rw [hAV]; exact Aw.allowed_impl W U GI (.slice ga NG gc) gl uid gid mode (.slice aa NA ac) al want (by omega) (by omega) p q : Calls Try.prog 16 #[.agg #[.int .i64 U, .int .i64 GI, .slice ga NG gc], .int .i64 uid, .int .i64 gid, .int .i64 mode, .slice aa NA ac, .int .i64 want] W fun e w' => e = .returned (.bool (AV want)) ∧ Below W.heap.size W w'))
  have HSU := Lib.hid (fun (W : World) (want : Int) (hw : In8 want) (q : Ae.Holds W (.slice aa NA ac) al) => (by rw [← allowed_super (HARZ.out want hw) rfl]; exact Aw.allowed_impl W 0 0 (.slice none 0 0) [] uid gid mode (.slice aa NA ac) al want (by simp) (by omega) (nil_holds W) q : Calls Try.prog 16 #[.agg #[.int .i64 0, .int .i64 0, .slice none 0 0], .int .i64 uid, .int .i64 gid, .int .i64 mode, .slice aa NA ac, .int .i64 want] W fun e w' => e = .returned (.bool true) ∧ Below W.heap.size W w'))
  have F1 := Lib.hid (fun (want : Int) (hw : In8 want) (h0 : U = 0) => (by rw [hAV]; exact allowed_super (HARG.out want hw) h0 : AV want = true))
  have F2 := Lib.hid (fun (want less : Int) (hw : In8 want) (hs : In8 less) (h : AV want = true) (hc : covB want less = true) => (by rw [hAV] at h ⊢; exact allowed_less HOK.out hw hs h hc : AV less = true))
  have F3 := Lib.hid (fun (want : Int) (hw : In8 want) (h : AV want = true) (hn : (permV al 1 U).2 = true) (h0 : U ≠ 0) (h1 : U ≠ uid) => (by rw [hAV] at h; exact allowed_mask (c := (U, GI, gl)) HOK.out hw h hn h0 h1 : covB (maskV al) want = true))
  have F4 := Lib.hid (fun (want : Int) (hw : In8 want) (h0 : U ≠ 0) (h1 : U = uid) => (by rw [hAV]; exact allowed_owner (c := (U, GI, gl)) (HARG.out want hw) h0 h1 : AV want = covB (permOfV mode 0) want))
  have HPM := Lib.hid (fun (W : World) (q : Ae.Holds W (.slice aa NA ac) al) => (by have := AclQ.perm_impl W (.slice aa NA ac) al 1 U (by omega) q; exact this : Calls Try.prog 17 #[.slice aa NA ac, .int .i64 1, .int .i64 U] W fun e w' => e = AclQ.res (permV al 1 U) ∧ Below W.heap.size W w'))
  have HMK := Lib.hid (fun (W : World) (q : Ae.Holds W (.slice aa NA ac) al) => AclQ.mask_impl W (.slice aa NA ac) al (by omega) q)
  have HPO := Lib.hid (fun (W : World) => Pm.perm_impl mode 0 W)
  have HCI := Lib.hid (fun (W : World) (p : Ni.HoldsN W (.slice ga NG gc) gl) => (by have := CrI.cred_impl W U GI (.slice ga NG gc) gl (by omega) p; rw [HCK.out] at this; exact this : Calls Try.prog 20 #[.agg #[.int .i64 U, .int .i64 GI, .slice ga NG gc]] W fun e w' => e = .returned (.bool true) ∧ Below W.heap.size W w'))
  have HGI := Lib.hid (fun (W : World) (p : Ni.HoldsN W (.slice ga NG gc) gl) => (by have := CrI.in_impl W U GI (.slice ga NG gc) gl GI (by omega) p; rw [show inB (U, GI, gl) GI = true from in_gid (U, GI, gl)] at this; exact this : Calls Try.prog 21 #[.agg #[.int .i64 U, .int .i64 GI, .slice ga NG gc], .int .i64 GI] W fun e w' => e = .returned (.bool true) ∧ Below W.heap.size W w'))
  have HM8 := Lib.hid (mask_in HOK.out)
  have HP8 := Lib.hid (permOf_range mode 0)
  generalize hpv : permV al 1 U = pv at F3 HPM
  obtain ⟨pn, pb⟩ := pv
  dsimp only at F3
  generalize maskV al = mk at F3 HMK HM8
  generalize permOfV mode 0 = p0 at F4 HPO HP8
  clear hAV hpv hU hGI hu0 hg0 hm0 hu hgi
  go_loopw [8] (fun wv wr => ∃ k : Nat, k ≤ 8 ∧ wv = .int .i64 k ∧ Below w5.heap.size w5 wr) (fun wv _ => 8 - (intOf wv).toNat)
  case atStart => exact ⟨0, by omega, rfl, Below.refl _ _⟩
  case round =>
    obtain ⟨k, hk, rfl, hb⟩ := hrel
    have HBEL := Lib.hid hb
    replace HB := Lib.hid (HB.out.trans (hb.mono HB.out.size))
    replace BX := Lib.hid (Bx.Bk.all BX.out hb)
    replace HG := Lib.hid (Ni.holds_below HG.out hb)
    replace HA := Lib.hid (Ae.holds_below HA.out hb)
    clear hb
    obtain ⟨vBX0, vBX1, vBX2⟩ := Bx.Bk.three BX.out
    by_cases hlt : k < 8
    · have h8 := in8 (show k < 8 by omega)
      have H8 := Lib.hid h8
      have hkk : k < 8 := by omega
      clear h8
      go_wp2_with fail
      refine (HAL.out _ (k : Int) HG.out HA.out).mono ?_
      rintro e w6 ⟨rfl, hb⟩
      have s6 := hb.size
      clear vBX0 vBX1 vBX2
      replace HBEL := Lib.hid (HBEL.out.trans (hb.mono HBEL.out.size))
      replace HB := Lib.hid (HB.out.trans (hb.mono HB.out.size))
      replace BX := Lib.hid (Bx.Bk.all BX.out hb)
      replace HG := Lib.hid (Ni.holds_below HG.out hb)
      replace HA := Lib.hid (Ae.holds_below HA.out hb)
      clear hb
      obtain ⟨vBX0, vBX1, vBX2⟩ := Bx.Bk.three BX.out
      go_wp2_with fail
      refine (HSU.out _ (k : Int) H8.out HA.out).mono ?_
      rintro e w7 ⟨rfl, hb⟩
      have s7 := hb.size
      clear vBX0 vBX1 vBX2
      replace HBEL := Lib.hid (HBEL.out.trans (hb.mono HBEL.out.size))
      replace HB := Lib.hid (HB.out.trans (hb.mono HB.out.size))
      replace BX := Lib.hid (Bx.Bk.all BX.out hb)
      replace HG := Lib.hid (Ni.holds_below HG.out hb)
      replace HA := Lib.hid (Ae.holds_below HA.out hb)
      clear hb
      obtain ⟨vBX0, vBX1, vBX2⟩ := Bx.Bk.three BX.out
      have F1K := Lib.hid (fun h0 => F1.out (k : Int) H8.out h0)
      have F2K := Lib.hid (fun less hs h hc => F2.out (k : Int) less H8.out hs h hc)
      have F3K := Lib.hid (fun h hn h0 h1 => F3.out (k : Int) H8.out h hn h0 h1)
      have F4K := Lib.hid (fun h0 h1 => F4.out (k : Int) H8.out h0 h1)
      generalize hok : AV (k : Int) = ok at F1K F2K F3K F4K ⊢
      have HOKE := Lib.hid hok
      clear hok

      have hguard : ((k : Int) == 0) = false ∨ ((k : Int) == 0) = true ∧ (U == 0) = false ∨ ((k : Int) == 0) = true ∧ (U == 0) = true ∧ ok = true := by
        cases hz : ((k : Int) == 0)
        · exact .inl rfl
        · by_cases hU0 : U = 0
          · exact .inr (.inr ⟨rfl, by simp [hU0], F1K.out hU0⟩)
          · exact .inr (.inl ⟨rfl, beq_eq_false_iff_ne.2 hU0⟩)
      obtain ⟨GB, hGB⟩ : ∃ GB : Bool, GB = (((k : Int) == 0) && ((U == 0) && !ok)) := ⟨_, rfl⟩
      have HINN := Lib.hid True.intro
      rcases hguard with hq1 | ⟨hq1, hq2⟩ | ⟨hq1, hq2, rfl⟩
      · clear hGB HINN
        go_wp2_with fail
        try clear hq1
        try clear hq2
        go_loopw [10] (fun lv ws => ∃ j : Nat, j ≤ 8 ∧ lv = .int .i64 j ∧ Below w7.heap.size w7 ws) (fun lv _ => 8 - (intOf lv).toNat)
        case atStart => exact ⟨0, by omega, rfl, Below.refl _ _⟩
        case round =>
          obtain ⟨j, hj, rfl, hb⟩ := hrel
          have HBL2 := Lib.hid hb
          replace HBEL := Lib.hid (HBEL.out.trans (hb.mono HBEL.out.size))
          clear vBX0 vBX1 vBX2
          replace HB := Lib.hid (HB.out.trans (hb.mono HB.out.size))
          replace BX := Lib.hid (Bx.Bk.all BX.out hb)
          replace HG := Lib.hid (Ni.holds_below HG.out hb)
          replace HA := Lib.hid (Ae.holds_below HA.out hb)
          clear hb
          obtain ⟨vBX0, vBX1, vBX2⟩ := Bx.Bk.three BX.out
          by_cases hlj : j < 8
          · have hjj : j < 8 := by omega
            have HAND := Lib.hid (and_bits (in8 hjj).1 (in8 hjj).2 H8.out.1 H8.out.2)
            have HCV := Lib.hid (show covB (k : Int) (j : Int) = decide (andP (j : Int) (k : Int) = (j : Int)) by unfold covB; rw [Pm.and_comm8])
            generalize andP (j : Int) (k : Int) = r at HAND HCV
            have hand := HAND.out
            by_cases hr : r = (j : Int)
            · subst hr
              cases ok
              · go_wp2
                go_roundw
                case rel => exact ⟨j + 1, by omega, by go_num, HBL2.out⟩
                case measure => simp [intOf]; omega
              · have HLE := Lib.hid (F2K.out (j : Int) (in8 hjj) (by first | rfl | trivial) (by rw [HCV.out]; simp))
                go_wp2_with fail
                refine (HAL.out _ (j : Int) HG.out HA.out).mono ?_
                rintro e w8 ⟨rfl, hb⟩
                have s8 := hb.size
                clear vBX0 vBX1 vBX2
                rw [HLE.out]
                replace HBL2 := Lib.hid (HBL2.out.trans (hb.mono HBL2.out.size))
                replace HB := Lib.hid (HB.out.trans (hb.mono HB.out.size))
                replace BX := Lib.hid (Bx.Bk.all BX.out hb)
                replace HG := Lib.hid (Ni.holds_below HG.out hb)
                replace HA := Lib.hid (Ae.holds_below HA.out hb)
                clear hb
                obtain ⟨vBX0, vBX1, vBX2⟩ := Bx.Bk.three BX.out
                go_wp2
                go_roundw
                case rel => exact ⟨j + 1, by omega, by go_num, HBL2.out⟩
                case measure => simp [intOf]; omega
            · have hrb : (r == (j : Int)) = false := beq_eq_false_iff_ne.2 hr
              clear hr
              go_wp2
              go_roundw
              case rel => exact ⟨j + 1, by omega, by go_num, HBL2.out⟩
              case measure => simp [intOf]; omega
          · obtain rfl : j = 8 := by omega
            go_wp2_with fail
            refine (HPM.out _ HA.out).mono ?_
            rintro e w8 ⟨rfl, hb⟩
            have s8 := hb.size
            clear vBX0 vBX1 vBX2
            dsimp only [AclQ.res]
            replace HBEL := Lib.hid (HBEL.out.trans (hb.mono HBEL.out.size))
            replace HB := Lib.hid (HB.out.trans (hb.mono HB.out.size))
            replace BX := Lib.hid (Bx.Bk.all BX.out hb)
            replace HG := Lib.hid (Ni.holds_below HG.out hb)
            replace HA := Lib.hid (Ae.holds_below HA.out hb)
            clear hb
            obtain ⟨vBX0, vBX1, vBX2⟩ := Bx.Bk.three BX.out
            have HMAND := Lib.hid (and_bits HM8.out.1 HM8.out.2 H8.out.1 H8.out.2)
            have HMCV := Lib.hid (show covB mk (k : Int) = decide (andP mk (k : Int) = (k : Int)) from rfl)
            generalize andP mk (k : Int) = mr at HMAND HMCV
            have HPAND := Lib.hid (and_bits HP8.out.1 HP8.out.2 H8.out.1 H8.out.2)
            have HPCV := Lib.hid (show covB p0 (k : Int) = decide (andP p0 (k : Int) = (k : Int)) from rfl)
            generalize andP p0 (k : Int) = pr at HPAND HPCV
            have hmand := HMAND.out
            have hpand := HPAND.out
            by_cases h0 : U = 0
            · subst h0
              cases ok
              · by_cases hid0 : (0 : Int) = uid
                · have hq : ((0 : Int) == uid) = true := by simp [hid0]
                  go_wp2
                  go_roundw
                  case rel => exact ⟨k + 1, by omega, by go_num, HBEL.out⟩
                  case measure => simp [intOf]; omega
                · have hq : ((0 : Int) == uid) = false := beq_eq_false_iff_ne.2 hid0
                  go_wp2
                  go_roundw
                  case rel => exact ⟨k + 1, by omega, by go_num, HBEL.out⟩
                  case measure => simp [intOf]; omega
              · cases pb
                · by_cases hid0 : (0 : Int) = uid
                  · have hq : ((0 : Int) == uid) = true := by simp [hid0]
                    go_wp2
                    go_roundw
                    case rel => exact ⟨k + 1, by omega, by go_num, HBEL.out⟩
                    case measure => simp [intOf]; omega
                  · have hq : ((0 : Int) == uid) = false := beq_eq_false_iff_ne.2 hid0
                    go_wp2
                    go_roundw
                    case rel => exact ⟨k + 1, by omega, by go_num, HBEL.out⟩
                    case measure => simp [intOf]; omega
                · by_cases hid0 : (0 : Int) = uid
                  · have hq : ((0 : Int) == uid) = true := by simp [hid0]
                    go_wp2
                    go_roundw
                    case rel => exact ⟨k + 1, by omega, by go_num, HBEL.out⟩
                    case measure => simp [intOf]; omega
                  · have hq : ((0 : Int) == uid) = false := beq_eq_false_iff_ne.2 hid0
                    go_wp2
                    go_roundw
                    case rel => exact ⟨k + 1, by omega, by go_num, HBEL.out⟩
                    case measure => simp [intOf]; omega
            · have hub : (U == 0) = false := beq_eq_false_iff_ne.2 h0
              by_cases h1 : U = uid
              · have HOW := Lib.hid (F4K.out h0 h1)
                subst h1
                have hun : (U != 0) = true := by rw [bne, hub]; rfl
                rw [HPCV.out] at HOW
                by_cases hpr : pr = (k : Int)
                · obtain rfl : ok = true := by rw [HOW.out, decide_eq_true hpr]
                  subst hpr
                  cases pb
                  · go_wp2_with fail
                    refine (HPO.out _).mono ?_
                    rintro e wq ⟨rfl, rfl⟩
                    go_wp2
                    go_roundw
                    case rel => exact ⟨k + 1, by omega, by go_num, HBEL.out⟩
                    case measure => simp [intOf]; omega
                  · go_wp2_with fail
                    refine (HPO.out _).mono ?_
                    rintro e wq ⟨rfl, rfl⟩
                    go_wp2
                    go_roundw
                    case rel => exact ⟨k + 1, by omega, by go_num, HBEL.out⟩
                    case measure => simp [intOf]; omega
                · obtain rfl : ok = false := by rw [HOW.out, decide_eq_false hpr]
                  have hprb : (pr == (k : Int)) = false := beq_eq_false_iff_ne.2 hpr
                  clear hpr
                  go_wp2_with fail
                  refine (HPO.out _).mono ?_
                  rintro e wq ⟨rfl, rfl⟩
                  go_wp2
                  go_roundw
                  case rel => exact ⟨k + 1, by omega, by go_num, HBEL.out⟩
                  case measure => simp [intOf]; omega
              · have huu : (U == uid) = false := beq_eq_false_iff_ne.2 h1
                cases ok
                · clear h0 h1
                  go_wp2
                  go_roundw
                  case rel => exact ⟨k + 1, by omega, by go_num, HBEL.out⟩
                  case measure => simp [intOf]; omega
                · cases pb
                  · clear h0 h1
                    go_wp2
                    go_roundw
                    case rel => exact ⟨k + 1, by omega, by go_num, HBEL.out⟩
                    case measure => simp [intOf]; omega
                  · have hmr : mr = (k : Int) := by have := F3K.out rfl rfl h0 h1; rw [HMCV.out] at this; exact of_decide_eq_true this
                    subst hmr
                    have hun : (U != 0) = true := by rw [bne, hub]; rfl
                    have huun : (U != uid) = true := by rw [bne, huu]; rfl
                    clear h0 h1
                    go_wp2_with fail
                    refine (HMK.out _ HA.out).mono ?_
                    rintro e w9 ⟨rfl, hb⟩
                    have s9 := hb.size
                    clear vBX0 vBX1 vBX2
                    replace HBEL := Lib.hid (HBEL.out.trans (hb.mono HBEL.out.size))
                    replace HB := Lib.hid (HB.out.trans (hb.mono HB.out.size))
                    replace BX := Lib.hid (Bx.Bk.all BX.out hb)
                    replace HG := Lib.hid (Ni.holds_below HG.out hb)
                    replace HA := Lib.hid (Ae.holds_below HA.out hb)
                    clear hb
                    obtain ⟨vBX0, vBX1, vBX2⟩ := Bx.Bk.three BX.out
                    go_wp2
                    go_roundw
                    case rel => exact ⟨k + 1, by omega, by go_num, HBEL.out⟩
                    case measure => simp [intOf]; omega
      · clear hGB HINN
        go_wp2_with fail
        try clear hq1
        try clear hq2
        go_loopw [10] (fun lv ws => ∃ j : Nat, j ≤ 8 ∧ lv = .int .i64 j ∧ Below w7.heap.size w7 ws) (fun lv _ => 8 - (intOf lv).toNat)
        case atStart => exact ⟨0, by omega, rfl, Below.refl _ _⟩
        case round =>
          obtain ⟨j, hj, rfl, hb⟩ := hrel
          have HBL2 := Lib.hid hb
          replace HBEL := Lib.hid (HBEL.out.trans (hb.mono HBEL.out.size))
          clear vBX0 vBX1 vBX2
          replace HB := Lib.hid (HB.out.trans (hb.mono HB.out.size))
          replace BX := Lib.hid (Bx.Bk.all BX.out hb)
          replace HG := Lib.hid (Ni.holds_below HG.out hb)
          replace HA := Lib.hid (Ae.holds_below HA.out hb)
          clear hb
          obtain ⟨vBX0, vBX1, vBX2⟩ := Bx.Bk.three BX.out
          by_cases hlj : j < 8
          · have hjj : j < 8 := by omega
            have HAND := Lib.hid (and_bits (in8 hjj).1 (in8 hjj).2 H8.out.1 H8.out.2)
            have HCV := Lib.hid (show covB (k : Int) (j : Int) = decide (andP (j : Int) (k : Int) = (j : Int)) by unfold covB; rw [Pm.and_comm8])
            generalize andP (j : Int) (k : Int) = r at HAND HCV
            have hand := HAND.out
            by_cases hr : r = (j : Int)
            · subst hr
              cases ok
              · go_wp2
                go_roundw
                case rel => exact ⟨j + 1, by omega, by go_num, HBL2.out⟩
                case measure => simp [intOf]; omega
              · have HLE := Lib.hid (F2K.out (j : Int) (in8 hjj) (by first | rfl | trivial) (by rw [HCV.out]; simp))
                go_wp2_with fail
                refine (HAL.out _ (j : Int) HG.out HA.out).mono ?_
                rintro e w8 ⟨rfl, hb⟩
                have s8 := hb.size
                clear vBX0 vBX1 vBX2
                rw [HLE.out]
                replace HBL2 := Lib.hid (HBL2.out.trans (hb.mono HBL2.out.size))
                replace HB := Lib.hid (HB.out.trans (hb.mono HB.out.size))
                replace BX := Lib.hid (Bx.Bk.all BX.out hb)
                replace HG := Lib.hid (Ni.holds_below HG.out hb)
                replace HA := Lib.hid (Ae.holds_below HA.out hb)
                clear hb
                obtain ⟨vBX0, vBX1, vBX2⟩ := Bx.Bk.three BX.out
                go_wp2
                go_roundw
                case rel => exact ⟨j + 1, by omega, by go_num, HBL2.out⟩
                case measure => simp [intOf]; omega
            · have hrb : (r == (j : Int)) = false := beq_eq_false_iff_ne.2 hr
              clear hr
              go_wp2
              go_roundw
              case rel => exact ⟨j + 1, by omega, by go_num, HBL2.out⟩
              case measure => simp [intOf]; omega
          · obtain rfl : j = 8 := by omega
            go_wp2_with fail
            refine (HPM.out _ HA.out).mono ?_
            rintro e w8 ⟨rfl, hb⟩
            have s8 := hb.size
            clear vBX0 vBX1 vBX2
            dsimp only [AclQ.res]
            replace HBEL := Lib.hid (HBEL.out.trans (hb.mono HBEL.out.size))
            replace HB := Lib.hid (HB.out.trans (hb.mono HB.out.size))
            replace BX := Lib.hid (Bx.Bk.all BX.out hb)
            replace HG := Lib.hid (Ni.holds_below HG.out hb)
            replace HA := Lib.hid (Ae.holds_below HA.out hb)
            clear hb
            obtain ⟨vBX0, vBX1, vBX2⟩ := Bx.Bk.three BX.out
            have HMAND := Lib.hid (and_bits HM8.out.1 HM8.out.2 H8.out.1 H8.out.2)
            have HMCV := Lib.hid (show covB mk (k : Int) = decide (andP mk (k : Int) = (k : Int)) from rfl)
            generalize andP mk (k : Int) = mr at HMAND HMCV
            have HPAND := Lib.hid (and_bits HP8.out.1 HP8.out.2 H8.out.1 H8.out.2)
            have HPCV := Lib.hid (show covB p0 (k : Int) = decide (andP p0 (k : Int) = (k : Int)) from rfl)
            generalize andP p0 (k : Int) = pr at HPAND HPCV
            have hmand := HMAND.out
            have hpand := HPAND.out
            by_cases h0 : U = 0
            · subst h0
              cases ok
              · by_cases hid0 : (0 : Int) = uid
                · have hq : ((0 : Int) == uid) = true := by simp [hid0]
                  go_wp2
                  go_roundw
                  case rel => exact ⟨k + 1, by omega, by go_num, HBEL.out⟩
                  case measure => simp [intOf]; omega
                · have hq : ((0 : Int) == uid) = false := beq_eq_false_iff_ne.2 hid0
                  go_wp2
                  go_roundw
                  case rel => exact ⟨k + 1, by omega, by go_num, HBEL.out⟩
                  case measure => simp [intOf]; omega
              · cases pb
                · by_cases hid0 : (0 : Int) = uid
                  · have hq : ((0 : Int) == uid) = true := by simp [hid0]
                    go_wp2
                    go_roundw
                    case rel => exact ⟨k + 1, by omega, by go_num, HBEL.out⟩
                    case measure => simp [intOf]; omega
                  · have hq : ((0 : Int) == uid) = false := beq_eq_false_iff_ne.2 hid0
                    go_wp2
                    go_roundw
                    case rel => exact ⟨k + 1, by omega, by go_num, HBEL.out⟩
                    case measure => simp [intOf]; omega
                · by_cases hid0 : (0 : Int) = uid
                  · have hq : ((0 : Int) == uid) = true := by simp [hid0]
                    go_wp2
                    go_roundw
                    case rel => exact ⟨k + 1, by omega, by go_num, HBEL.out⟩
                    case measure => simp [intOf]; omega
                  · have hq : ((0 : Int) == uid) = false := beq_eq_false_iff_ne.2 hid0
                    go_wp2
                    go_roundw
                    case rel => exact ⟨k + 1, by omega, by go_num, HBEL.out⟩
                    case measure => simp [intOf]; omega
            · have hub : (U == 0) = false := beq_eq_false_iff_ne.2 h0
              by_cases h1 : U = uid
              · have HOW := Lib.hid (F4K.out h0 h1)
                subst h1
                have hun : (U != 0) = true := by rw [bne, hub]; rfl
                rw [HPCV.out] at HOW
                by_cases hpr : pr = (k : Int)
                · obtain rfl : ok = true := by rw [HOW.out, decide_eq_true hpr]
                  subst hpr
                  cases pb
                  · go_wp2_with fail
                    refine (HPO.out _).mono ?_
                    rintro e wq ⟨rfl, rfl⟩
                    go_wp2
                    go_roundw
                    case rel => exact ⟨k + 1, by omega, by go_num, HBEL.out⟩
                    case measure => simp [intOf]; omega
                  · go_wp2_with fail
                    refine (HPO.out _).mono ?_
                    rintro e wq ⟨rfl, rfl⟩
                    go_wp2
                    go_roundw
                    case rel => exact ⟨k + 1, by omega, by go_num, HBEL.out⟩
                    case measure => simp [intOf]; omega
                · obtain rfl : ok = false := by rw [HOW.out, decide_eq_false hpr]
                  have hprb : (pr == (k : Int)) = false := beq_eq_false_iff_ne.2 hpr
                  clear hpr
                  go_wp2_with fail
                  refine (HPO.out _).mono ?_
                  rintro e wq ⟨rfl, rfl⟩
                  go_wp2
                  go_roundw
                  case rel => exact ⟨k + 1, by omega, by go_num, HBEL.out⟩
                  case measure => simp [intOf]; omega
              · have huu : (U == uid) = false := beq_eq_false_iff_ne.2 h1
                cases ok
                · clear h0 h1
                  go_wp2
                  go_roundw
                  case rel => exact ⟨k + 1, by omega, by go_num, HBEL.out⟩
                  case measure => simp [intOf]; omega
                · cases pb
                  · clear h0 h1
                    go_wp2
                    go_roundw
                    case rel => exact ⟨k + 1, by omega, by go_num, HBEL.out⟩
                    case measure => simp [intOf]; omega
                  · have hmr : mr = (k : Int) := by have := F3K.out rfl rfl h0 h1; rw [HMCV.out] at this; exact of_decide_eq_true this
                    subst hmr
                    have hun : (U != 0) = true := by rw [bne, hub]; rfl
                    have huun : (U != uid) = true := by rw [bne, huu]; rfl
                    clear h0 h1
                    go_wp2_with fail
                    refine (HMK.out _ HA.out).mono ?_
                    rintro e w9 ⟨rfl, hb⟩
                    have s9 := hb.size
                    clear vBX0 vBX1 vBX2
                    replace HBEL := Lib.hid (HBEL.out.trans (hb.mono HBEL.out.size))
                    replace HB := Lib.hid (HB.out.trans (hb.mono HB.out.size))
                    replace BX := Lib.hid (Bx.Bk.all BX.out hb)
                    replace HG := Lib.hid (Ni.holds_below HG.out hb)
                    replace HA := Lib.hid (Ae.holds_below HA.out hb)
                    clear hb
                    obtain ⟨vBX0, vBX1, vBX2⟩ := Bx.Bk.three BX.out
                    go_wp2
                    go_roundw
                    case rel => exact ⟨k + 1, by omega, by go_num, HBEL.out⟩
                    case measure => simp [intOf]; omega
      · clear hGB HINN
        have HU0 := Lib.hid (show U = 0 by simpa using hq2)
        go_wp2_with fail
        try clear hq1
        try clear hq2
        go_loopw [10] (fun lv ws => ∃ j : Nat, j ≤ 8 ∧ lv = .int .i64 j ∧ Below w7.heap.size w7 ws) (fun lv _ => 8 - (intOf lv).toNat)
        case atStart => exact ⟨0, by omega, rfl, Below.refl _ _⟩
        case round =>
          obtain ⟨j, hj, rfl, hb⟩ := hrel
          have HBL2 := Lib.hid hb
          replace HBEL := Lib.hid (HBEL.out.trans (hb.mono HBEL.out.size))
          clear vBX0 vBX1 vBX2
          replace HB := Lib.hid (HB.out.trans (hb.mono HB.out.size))
          replace BX := Lib.hid (Bx.Bk.all BX.out hb)
          replace HG := Lib.hid (Ni.holds_below HG.out hb)
          replace HA := Lib.hid (Ae.holds_below HA.out hb)
          clear hb
          obtain ⟨vBX0, vBX1, vBX2⟩ := Bx.Bk.three BX.out
          by_cases hlj : j < 8
          · have hjj : j < 8 := by omega
            have HAND := Lib.hid (and_bits (in8 hjj).1 (in8 hjj).2 H8.out.1 H8.out.2)
            have HCV := Lib.hid (show covB (k : Int) (j : Int) = decide (andP (j : Int) (k : Int) = (j : Int)) by unfold covB; rw [Pm.and_comm8])
            generalize andP (j : Int) (k : Int) = r at HAND HCV
            have hand := HAND.out
            by_cases hr : r = (j : Int)
            · subst hr
              · have HLE := Lib.hid (F2K.out (j : Int) (in8 hjj) (by first | rfl | trivial) (by rw [HCV.out]; simp))
                go_wp2_with fail
                refine (HAL.out _ (j : Int) HG.out HA.out).mono ?_
                rintro e w8 ⟨rfl, hb⟩
                have s8 := hb.size
                clear vBX0 vBX1 vBX2
                rw [HLE.out]
                replace HBL2 := Lib.hid (HBL2.out.trans (hb.mono HBL2.out.size))
                replace HB := Lib.hid (HB.out.trans (hb.mono HB.out.size))
                replace BX := Lib.hid (Bx.Bk.all BX.out hb)
                replace HG := Lib.hid (Ni.holds_below HG.out hb)
                replace HA := Lib.hid (Ae.holds_below HA.out hb)
                clear hb
                obtain ⟨vBX0, vBX1, vBX2⟩ := Bx.Bk.three BX.out
                go_wp2
                go_roundw
                case rel => exact ⟨j + 1, by omega, by go_num, HBL2.out⟩
                case measure => simp [intOf]; omega
            · have hrb : (r == (j : Int)) = false := beq_eq_false_iff_ne.2 hr
              clear hr
              go_wp2
              go_roundw
              case rel => exact ⟨j + 1, by omega, by go_num, HBL2.out⟩
              case measure => simp [intOf]; omega
          · obtain rfl : j = 8 := by omega
            go_wp2_with fail
            refine (HPM.out _ HA.out).mono ?_
            rintro e w8 ⟨rfl, hb⟩
            have s8 := hb.size
            clear vBX0 vBX1 vBX2
            dsimp only [AclQ.res]
            replace HBEL := Lib.hid (HBEL.out.trans (hb.mono HBEL.out.size))
            replace HB := Lib.hid (HB.out.trans (hb.mono HB.out.size))
            replace BX := Lib.hid (Bx.Bk.all BX.out hb)
            replace HG := Lib.hid (Ni.holds_below HG.out hb)
            replace HA := Lib.hid (Ae.holds_below HA.out hb)
            clear hb
            obtain ⟨vBX0, vBX1, vBX2⟩ := Bx.Bk.three BX.out
            have HMAND := Lib.hid (and_bits HM8.out.1 HM8.out.2 H8.out.1 H8.out.2)
            have HMCV := Lib.hid (show covB mk (k : Int) = decide (andP mk (k : Int) = (k : Int)) from rfl)
            generalize andP mk (k : Int) = mr at HMAND HMCV
            have HPAND := Lib.hid (and_bits HP8.out.1 HP8.out.2 H8.out.1 H8.out.2)
            have HPCV := Lib.hid (show covB p0 (k : Int) = decide (andP p0 (k : Int) = (k : Int)) from rfl)
            generalize andP p0 (k : Int) = pr at HPAND HPCV
            have hmand := HMAND.out
            have hpand := HPAND.out
            have h0 := HU0.out
            · subst h0
              · cases pb
                · by_cases hid0 : (0 : Int) = uid
                  · have hq : ((0 : Int) == uid) = true := by simp [hid0]
                    go_wp2
                    go_roundw
                    case rel => exact ⟨k + 1, by omega, by go_num, HBEL.out⟩
                    case measure => simp [intOf]; omega
                  · have hq : ((0 : Int) == uid) = false := beq_eq_false_iff_ne.2 hid0
                    go_wp2
                    go_roundw
                    case rel => exact ⟨k + 1, by omega, by go_num, HBEL.out⟩
                    case measure => simp [intOf]; omega
                · by_cases hid0 : (0 : Int) = uid
                  · have hq : ((0 : Int) == uid) = true := by simp [hid0]
                    go_wp2
                    go_roundw
                    case rel => exact ⟨k + 1, by omega, by go_num, HBEL.out⟩
                    case measure => simp [intOf]; omega
                  · have hq : ((0 : Int) == uid) = false := beq_eq_false_iff_ne.2 hid0
                    go_wp2
                    go_roundw
                    case rel => exact ⟨k + 1, by omega, by go_num, HBEL.out⟩
                    case measure => simp [intOf]; omega
    · obtain rfl : k = 8 := by omega
      go_wp2_with fail
      refine (HCI.out _ HG.out).mono ?_
      rintro e w6 ⟨rfl, hb⟩
      have s6 := hb.size
      clear vBX0 vBX1 vBX2
      replace HB := Lib.hid (HB.out.trans (hb.mono HB.out.size))
      replace BX := Lib.hid (Bx.Bk.all BX.out hb)
      replace HG := Lib.hid (Ni.holds_below HG.out hb)
      replace HA := Lib.hid (Ae.holds_below HA.out hb)
      clear hb
      obtain ⟨vBX0, vBX1, vBX2⟩ := Bx.Bk.three BX.out
      go_wp2_with fail
      refine (HGI.out _ HG.out).mono ?_
      rintro e w7 ⟨rfl, hb⟩
      have s7 := hb.size
      clear vBX0 vBX1 vBX2
      replace HB := Lib.hid (HB.out.trans (hb.mono HB.out.size))
      replace BX := Lib.hid (Bx.Bk.all BX.out hb)
      replace HG := Lib.hid (Ni.holds_below HG.out hb)
      replace HA := Lib.hid (Ae.holds_below HA.out hb)
      clear hb
      obtain ⟨vBX0, vBX1, vBX2⟩ := Bx.Bk.three BX.out
      go_wp2
      go_ret
      exact ⟨rfl, HB.out⟩

theorem law_big (a0 : Option Addr) (len0 cap0 : Nat) (w : World) (h : 1048576 < len0) :
    Calls Try.prog 3 #[.slice a0 len0 cap0] w fun e w' => e = .returned (.bool true) ∧ Below w.heap.size w w' := by
  have h2 : (1048576 : Int) < (len0 : Int) := by omega
  go_enter Try.func3, Try.ntmps3
  go_wp2_with fail
  go_ret
  exact ⟨rfl, Below.refl _ _⟩

set_option maxRecDepth 100000 in
theorem lifted (os : Os) (started : os.Started) (H : Type) (enc : TypeId × Value → H) :
    ReturnsInHanded {} Try.checked os 3 .any (Rows.fnAccessSpec.pre6 enc Try.prog Try.f3 Rows.fnAccessRow.domain false) (Rows.fnAccessSpec.post enc Try.prog Try.f3 false true false false) := by
  refine returnsInHanded_of_change (C := Try.checked) Kit.own started (by kernel_rfl) Try.func3
    (ChangeSpec.witness6 (enc := enc) (C := Try.checked) false ⟨#[], #[.slice none 0 0], []⟩ 8 (by kernel_rfl) (by kernel_rfl) (by kernel_rfl) (by kernel_rfl)) ?_
  intro W base args ds gs before hval0 hW hcnd _
  have hval : ∀ (j : Nat) t v, Try.f3.params[j]? = some t → args[j]? = some v → Value.okWide Try.prog W .any base t v := hval0
  have hW' := hW
  obtain ⟨p, q, hA0, hV, rfl, hfz, hnd⟩ := hW
  have hA : DataW.TrodAll enc Try.prog W 0 (fun _ => true) true Try.f3.params.toList args.toList ds p := hA0
  rw [Try.params3] at hA hval
  obtain ⟨v0, d0, rfl, rfl, h0⟩ := trodAll_one hA
  obtain ⟨a0, len0, cap0, rfl⟩ := okWide_slice Try.underlying22 (hval 0 22 v0 rfl rfl)
  have hlaw : Calls Try.prog 3 #[.slice a0 len0 cap0] W fun e w' => e = .returned (.bool true) ∧ Below W.heap.size W w' := by
    by_cases hbig : 1048576 < len0
    · exact law_big _ _ _ W hbig
    · obtain ⟨ns, hns, hcode⟩ := Cur.open_code h0 (by omega)
      exact law_any _ ns W hcode
  refine hlaw.mono fun e W' ⟨he, hb⟩ => ?_
  subst he
  exact ⟨_, rfl, Kit.law_post Kit.laidOut (by kernel_rfl) Try.underlying4 rfl rfl (fun H ds hl => by match ds, hl with | [d0], _ => rfl) hW' hb⟩

theorem holds : Rows.FnAccessSaid :=
  OpenClaim.holds_of_wide 3 Try.f3 rfl rfl rfl rfl rfl rfl rfl ⟨rfl, rfl, rfl, rfl, rfl⟩ rfl rfl rfl rfl rfl (by kernel_rfl) Try.func3 (by kernel_rfl)
    (of_decide_eq_true (by kernel_rfl)) (by unfold Func.isWrapper; first | (rw [if_pos (by decide +kernel)]; kernel_rfl) | (rw [if_neg (by decide +kernel)]; exact ⟨rfl, rfl⟩))
    (fun os started H enc _ => lifted os started H enc)
#print axioms holds
end Go.Proofs.Ytjdehgadfjopiaa.FnAccess
