/- Contract: the model's Allowed. Conditions: the number of groups and of entries. -/
import Derived.Test.YtjdehgadfjopiaaAw
namespace Go.Proofs.Ytjdehgadfjopiaa.As
open Go.ChangeShapes Go.WideShapes Go.ChangeAt Go.RowKit
open Bx CredV ModeV Al Aw
open AclV (At a0 okB permV maskV)
open Ni (HoldsN)
open Dk (ret_bool)
open Strs (ret_int own_below)
open AclB (cells_new)
set_option linter.unusedVariables false


set_option maxRecDepth 100000 in
set_option maxHeartbeats 6400000 in
theorem allowed_spec (w : World) (u g : Int) (gv : Value) (gl : List Int) (uid gid mode : Int) (av : Value) (l : List At) (want : Int) (hgl : gl.length ≤ 1073741824) (hal : l.length ≤ 1048576) (hG : HoldsN w gv gl) (hA : Ae.Holds w av l) :
    Calls Try.prog 32 #[.agg #[.int .i64 u, .int .i64 g, gv], .int .i64 uid, .int .i64 gid, .int .i64 mode, av, .int .i64 want] w fun e w' => e = .returned (.bool (allowedV (u, g, gl) uid gid mode l want)) ∧ Below w.heap.size w w' := by
  have HB := Lib.hid ((Below.refl w.heap.size w).alloc (Nat.le_refl _) (.cells #[.int .i64 u, .int .i64 g, gv] 25))
  have hx := new w #[.int .i64 u, .int .i64 g, gv] 25
  have HG := Lib.hid (Ni.holds_below hG HB.out)
  have HA := Lib.hid (Ae.holds_below hA HB.out)
  obtain ⟨ga, gc, rfl, _⟩ := hG
  obtain ⟨aa, ac, rfl, hat⟩ := Ae.atL hA
  have HAT := Lib.hid hat
  clear hA hat
  have hs0 : w.heap.size < (w.alloc (.cells #[.int .i64 u, .int .i64 g, .slice ga gl.length gc] 25)).heap.size := by simp
  have HU1 := Lib.hid (fun W => Pm.user_spec uid W)
  have HU2 := Lib.hid (fun W => Pm.user_spec gid W)
  have HM := Lib.hid (fun W => Pm.mode_spec mode W)
  have HW := Lib.hid (fun W => AclS.in_any want 0 7 W)
  have HIA := Lib.hid (fun W h => AclI.spec_any W (.slice aa l.length ac) l (by omega) h)
  have HIC := Lib.hid (fun W h => CrI.cred_spec W u g (.slice ga gl.length gc) gl hgl h)
  have HMA := Lib.hid (fun W h => AclQ.mask_spec W (.slice aa l.length ac) l (by omega) h)
  have HPM := Lib.hid (fun W h => AclQ.perm_spec W (.slice aa l.length ac) l 1 u (by omega) h)
  have HIN := Lib.hid (fun W n h => CrI.in_spec W u g (.slice ga gl.length gc) gl n hgl h)
  obtain ⟨NG, hNG⟩ : ∃ NG, NG = gl.length := ⟨_, rfl⟩
  rw [← hNG] at hx HB HG HA hs0 HIC HIN ⊢
  clear hNG hgl
  obtain ⟨N, hN⟩ : ∃ N, N = l.length := ⟨_, rfl⟩
  rw [← hN] at HA HIA HMA HPM hal ⊢
  have HN := Lib.hid hN
  clear hN

  cases hcred : credB (u, g, gl)
  · have HV := Lib.hid (show allowedV (u, g, gl) uid gid mode l want = false by simp only [allowedV, argsB, hcred, Bool.and_false, Bool.false_and, Bool.and_assoc])
    rw [hcred] at HIC
    clear hcred
    go_enter Try.func32, Try.ntmps32
    go_wp2_with fail
    generalize w.alloc (.cells #[.int .i64 u, .int .i64 g, .slice ga NG gc] 25) = w0 at hx HB HG HA hs0 ⊢
    obtain ⟨c0, c1, c2⟩ := Bk.three hx
    have HX := Lib.hid hx
    clear hx
    go_wp2_with fail
    refine (HIC.out _ HG.out).mono ?_
    rintro e w1 ⟨rfl, hb⟩
    replace HX := Lib.hid (HX.out.all hb)
    replace HB := Lib.hid (HB.out.trans (hb.mono HB.out.size))
    replace HG := Lib.hid (Ni.holds_below HG.out hb)
    replace HA := Lib.hid (Ae.holds_below HA.out hb)
    have hs1 : w.heap.size < w1.heap.size := Nat.lt_of_lt_of_le hs0 hb.size
    clear c0 c1 c2 hb hs0
    obtain ⟨c0, c1, c2⟩ := Bk.three HX.out
    go_wp2
    go_ret
    exact ⟨ret_bool HV.out.symm, HB.out⟩
  · rw [hcred] at HIC
    cases hacl : okB l
    · have HV := Lib.hid (show allowedV (u, g, gl) uid gid mode l want = false by simp only [allowedV, argsB, hacl, Bool.and_false, Bool.false_and, Bool.and_assoc])
      rw [hacl] at HIA
      clear hcred hacl
      go_enter Try.func32, Try.ntmps32
      go_wp2_with fail
      generalize w.alloc (.cells #[.int .i64 u, .int .i64 g, .slice ga NG gc] 25) = w0 at hx HB HG HA hs0 ⊢
      obtain ⟨c0, c1, c2⟩ := Bk.three hx
      have HX := Lib.hid hx
      clear hx
      go_wp2_with fail
      refine (HIC.out _ HG.out).mono ?_
      rintro e w1 ⟨rfl, hb⟩
      replace HX := Lib.hid (HX.out.all hb)
      replace HB := Lib.hid (HB.out.trans (hb.mono HB.out.size))
      replace HG := Lib.hid (Ni.holds_below HG.out hb)
      replace HA := Lib.hid (Ae.holds_below HA.out hb)
      have hs1 : w.heap.size < w1.heap.size := Nat.lt_of_lt_of_le hs0 hb.size
      clear c0 c1 c2 hb hs0
      obtain ⟨c0, c1, c2⟩ := Bk.three HX.out
      go_wp2_with fail
      refine (HIA.out _ HA.out).mono ?_
      rintro e w2 ⟨rfl, hb⟩
      replace HX := Lib.hid (HX.out.all hb)
      replace HB := Lib.hid (HB.out.trans (hb.mono HB.out.size))
      replace HG := Lib.hid (Ni.holds_below HG.out hb)
      replace HA := Lib.hid (Ae.holds_below HA.out hb)
      have hs2 : w.heap.size < w2.heap.size := Nat.lt_of_lt_of_le hs1 hb.size
      clear c0 c1 c2 hb hs1
      obtain ⟨c0, c1, c2⟩ := Bk.three HX.out
      go_wp2
      go_ret
      exact ⟨ret_bool HV.out.symm, HB.out⟩
    · rw [hacl] at HIA
      cases huid : userB uid
      · have HV := Lib.hid (show allowedV (u, g, gl) uid gid mode l want = false by simp only [allowedV, argsB, huid, Bool.and_false, Bool.false_and, Bool.and_assoc])
        rw [huid] at HU1
        clear hcred hacl huid
        go_enter Try.func32, Try.ntmps32
        go_wp2_with fail
        generalize w.alloc (.cells #[.int .i64 u, .int .i64 g, .slice ga NG gc] 25) = w0 at hx HB HG HA hs0 ⊢
        obtain ⟨c0, c1, c2⟩ := Bk.three hx
        have HX := Lib.hid hx
        clear hx
        go_wp2_with fail
        refine (HIC.out _ HG.out).mono ?_
        rintro e w1 ⟨rfl, hb⟩
        replace HX := Lib.hid (HX.out.all hb)
        replace HB := Lib.hid (HB.out.trans (hb.mono HB.out.size))
        replace HG := Lib.hid (Ni.holds_below HG.out hb)
        replace HA := Lib.hid (Ae.holds_below HA.out hb)
        have hs1 : w.heap.size < w1.heap.size := Nat.lt_of_lt_of_le hs0 hb.size
        clear c0 c1 c2 hb hs0
        obtain ⟨c0, c1, c2⟩ := Bk.three HX.out
        go_wp2_with fail
        refine (HIA.out _ HA.out).mono ?_
        rintro e w2 ⟨rfl, hb⟩
        replace HX := Lib.hid (HX.out.all hb)
        replace HB := Lib.hid (HB.out.trans (hb.mono HB.out.size))
        replace HG := Lib.hid (Ni.holds_below HG.out hb)
        replace HA := Lib.hid (Ae.holds_below HA.out hb)
        have hs2 : w.heap.size < w2.heap.size := Nat.lt_of_lt_of_le hs1 hb.size
        clear c0 c1 c2 hb hs1
        obtain ⟨c0, c1, c2⟩ := Bk.three HX.out
        go_wp2_with fail
        refine (HU1.out _).mono ?_
        rintro e wq ⟨rfl, rfl⟩
        go_wp2
        go_ret
        exact ⟨ret_bool HV.out.symm, HB.out⟩
      · rw [huid] at HU1
        cases hgid : userB gid
        · have HV := Lib.hid (show allowedV (u, g, gl) uid gid mode l want = false by simp only [allowedV, argsB, hgid, Bool.and_false, Bool.false_and, Bool.and_assoc])
          rw [hgid] at HU2
          clear hcred hacl huid hgid
          go_enter Try.func32, Try.ntmps32
          go_wp2_with fail
          generalize w.alloc (.cells #[.int .i64 u, .int .i64 g, .slice ga NG gc] 25) = w0 at hx HB HG HA hs0 ⊢
          obtain ⟨c0, c1, c2⟩ := Bk.three hx
          have HX := Lib.hid hx
          clear hx
          go_wp2_with fail
          refine (HIC.out _ HG.out).mono ?_
          rintro e w1 ⟨rfl, hb⟩
          replace HX := Lib.hid (HX.out.all hb)
          replace HB := Lib.hid (HB.out.trans (hb.mono HB.out.size))
          replace HG := Lib.hid (Ni.holds_below HG.out hb)
          replace HA := Lib.hid (Ae.holds_below HA.out hb)
          have hs1 : w.heap.size < w1.heap.size := Nat.lt_of_lt_of_le hs0 hb.size
          clear c0 c1 c2 hb hs0
          obtain ⟨c0, c1, c2⟩ := Bk.three HX.out
          go_wp2_with fail
          refine (HIA.out _ HA.out).mono ?_
          rintro e w2 ⟨rfl, hb⟩
          replace HX := Lib.hid (HX.out.all hb)
          replace HB := Lib.hid (HB.out.trans (hb.mono HB.out.size))
          replace HG := Lib.hid (Ni.holds_below HG.out hb)
          replace HA := Lib.hid (Ae.holds_below HA.out hb)
          have hs2 : w.heap.size < w2.heap.size := Nat.lt_of_lt_of_le hs1 hb.size
          clear c0 c1 c2 hb hs1
          obtain ⟨c0, c1, c2⟩ := Bk.three HX.out
          go_wp2_with fail
          refine (HU1.out _).mono ?_
          rintro e wq ⟨rfl, rfl⟩
          go_wp2_with fail
          refine (HU2.out _).mono ?_
          rintro e wq ⟨rfl, rfl⟩
          go_wp2
          go_ret
          exact ⟨ret_bool HV.out.symm, HB.out⟩
        · rw [hgid] at HU2
          cases hmode : modeB mode
          · have HV := Lib.hid (show allowedV (u, g, gl) uid gid mode l want = false by simp only [allowedV, argsB, hmode, Bool.and_false, Bool.false_and, Bool.and_assoc])
            rw [hmode] at HM
            clear hcred hacl huid hgid hmode
            go_enter Try.func32, Try.ntmps32
            go_wp2_with fail
            generalize w.alloc (.cells #[.int .i64 u, .int .i64 g, .slice ga NG gc] 25) = w0 at hx HB HG HA hs0 ⊢
            obtain ⟨c0, c1, c2⟩ := Bk.three hx
            have HX := Lib.hid hx
            clear hx
            go_wp2_with fail
            refine (HIC.out _ HG.out).mono ?_
            rintro e w1 ⟨rfl, hb⟩
            replace HX := Lib.hid (HX.out.all hb)
            replace HB := Lib.hid (HB.out.trans (hb.mono HB.out.size))
            replace HG := Lib.hid (Ni.holds_below HG.out hb)
            replace HA := Lib.hid (Ae.holds_below HA.out hb)
            have hs1 : w.heap.size < w1.heap.size := Nat.lt_of_lt_of_le hs0 hb.size
            clear c0 c1 c2 hb hs0
            obtain ⟨c0, c1, c2⟩ := Bk.three HX.out
            go_wp2_with fail
            refine (HIA.out _ HA.out).mono ?_
            rintro e w2 ⟨rfl, hb⟩
            replace HX := Lib.hid (HX.out.all hb)
            replace HB := Lib.hid (HB.out.trans (hb.mono HB.out.size))
            replace HG := Lib.hid (Ni.holds_below HG.out hb)
            replace HA := Lib.hid (Ae.holds_below HA.out hb)
            have hs2 : w.heap.size < w2.heap.size := Nat.lt_of_lt_of_le hs1 hb.size
            clear c0 c1 c2 hb hs1
            obtain ⟨c0, c1, c2⟩ := Bk.three HX.out
            go_wp2_with fail
            refine (HU1.out _).mono ?_
            rintro e wq ⟨rfl, rfl⟩
            go_wp2_with fail
            refine (HU2.out _).mono ?_
            rintro e wq ⟨rfl, rfl⟩
            go_wp2_with fail
            refine (HM.out _).mono ?_
            rintro e wq ⟨rfl, rfl⟩
            go_wp2
            go_ret
            exact ⟨ret_bool HV.out.symm, HB.out⟩
          · rw [hmode] at HM
            cases hwant : (decide (0 ≤ want) && decide (want ≤ 7))
            · have HV := Lib.hid (show allowedV (u, g, gl) uid gid mode l want = false by rw [allowedV, argsB, Bool.and_assoc (credB (u, g, gl) && okB l && userB uid && userB gid && modeB mode), hwant, Bool.and_false, Bool.false_and])
              rw [hwant] at HW
              clear hcred hacl huid hgid hmode hwant
              go_enter Try.func32, Try.ntmps32
              go_wp2_with fail
              generalize w.alloc (.cells #[.int .i64 u, .int .i64 g, .slice ga NG gc] 25) = w0 at hx HB HG HA hs0 ⊢
              obtain ⟨c0, c1, c2⟩ := Bk.three hx
              have HX := Lib.hid hx
              clear hx
              go_wp2_with fail
              refine (HIC.out _ HG.out).mono ?_
              rintro e w1 ⟨rfl, hb⟩
              replace HX := Lib.hid (HX.out.all hb)
              replace HB := Lib.hid (HB.out.trans (hb.mono HB.out.size))
              replace HG := Lib.hid (Ni.holds_below HG.out hb)
              replace HA := Lib.hid (Ae.holds_below HA.out hb)
              have hs1 : w.heap.size < w1.heap.size := Nat.lt_of_lt_of_le hs0 hb.size
              clear c0 c1 c2 hb hs0
              obtain ⟨c0, c1, c2⟩ := Bk.three HX.out
              go_wp2_with fail
              refine (HIA.out _ HA.out).mono ?_
              rintro e w2 ⟨rfl, hb⟩
              replace HX := Lib.hid (HX.out.all hb)
              replace HB := Lib.hid (HB.out.trans (hb.mono HB.out.size))
              replace HG := Lib.hid (Ni.holds_below HG.out hb)
              replace HA := Lib.hid (Ae.holds_below HA.out hb)
              have hs2 : w.heap.size < w2.heap.size := Nat.lt_of_lt_of_le hs1 hb.size
              clear c0 c1 c2 hb hs1
              obtain ⟨c0, c1, c2⟩ := Bk.three HX.out
              go_wp2_with fail
              refine (HU1.out _).mono ?_
              rintro e wq ⟨rfl, rfl⟩
              go_wp2_with fail
              refine (HU2.out _).mono ?_
              rintro e wq ⟨rfl, rfl⟩
              go_wp2_with fail
              refine (HM.out _).mono ?_
              rintro e wq ⟨rfl, rfl⟩
              go_wp2_with fail
              refine (HW.out _).mono ?_
              rintro e wq ⟨rfl, rfl⟩
              go_wp2
              go_ret
              exact ⟨ret_bool HV.out.symm, HB.out⟩
            · rw [hwant] at HW
              have hw8 : In8 want := by simp only [Bool.and_eq_true, decide_eq_true_eq] at hwant; exact hwant
              have HV := Lib.hid (show allowedV (u, g, gl) uid gid mode l want = decideV (u, g, gl) uid gid mode l want by rw [allowedV, argsB, Bool.and_assoc (credB (u, g, gl) && okB l && userB uid && userB gid && modeB mode), hwant, huid, hgid, hmode, hacl, hcred]; rfl)
              have HW8 := Lib.hid hw8
              have HOK := Lib.hid hacl
              clear hcred hacl huid hgid hmode hwant hw8
              by_cases h0 : u = 0
              · have HV2 := Lib.hid (show decideV (u, g, gl) uid gid mode l want = true by rw [decideV, if_pos h0])
                subst h0
                go_enter Try.func32, Try.ntmps32
                go_wp2_with fail
                generalize w.alloc (.cells #[.int .i64 0, .int .i64 g, .slice ga NG gc] 25) = w0 at hx HB HG HA hs0 ⊢
                obtain ⟨c0, c1, c2⟩ := Bk.three hx
                have HX := Lib.hid hx
                clear hx
                go_wp2_with fail
                refine (HIC.out _ HG.out).mono ?_
                rintro e w1 ⟨rfl, hb⟩
                replace HX := Lib.hid (HX.out.all hb)
                replace HB := Lib.hid (HB.out.trans (hb.mono HB.out.size))
                replace HG := Lib.hid (Ni.holds_below HG.out hb)
                replace HA := Lib.hid (Ae.holds_below HA.out hb)
                have hs1 : w.heap.size < w1.heap.size := Nat.lt_of_lt_of_le hs0 hb.size
                clear c0 c1 c2 hb hs0
                obtain ⟨c0, c1, c2⟩ := Bk.three HX.out
                go_wp2_with fail
                refine (HIA.out _ HA.out).mono ?_
                rintro e w2 ⟨rfl, hb⟩
                replace HX := Lib.hid (HX.out.all hb)
                replace HB := Lib.hid (HB.out.trans (hb.mono HB.out.size))
                replace HG := Lib.hid (Ni.holds_below HG.out hb)
                replace HA := Lib.hid (Ae.holds_below HA.out hb)
                have hs2 : w.heap.size < w2.heap.size := Nat.lt_of_lt_of_le hs1 hb.size
                clear c0 c1 c2 hb hs1
                obtain ⟨c0, c1, c2⟩ := Bk.three HX.out
                go_wp2_with fail
                refine (HU1.out _).mono ?_
                rintro e wq ⟨rfl, rfl⟩
                go_wp2_with fail
                refine (HU2.out _).mono ?_
                rintro e wq ⟨rfl, rfl⟩
                go_wp2_with fail
                refine (HM.out _).mono ?_
                rintro e wq ⟨rfl, rfl⟩
                go_wp2_with fail
                refine (HW.out _).mono ?_
                rintro e wq ⟨rfl, rfl⟩
                go_wp2
                go_ret
                exact ⟨ret_bool (by rw [HV.out, HV2.out]), HB.out⟩
              · by_cases h1 : u = uid
                · have HV2 := Lib.hid (show decideV (u, g, gl) uid gid mode l want = covB (permOfV mode 0) want by rw [decideV, if_neg h0, if_pos h1])
                  have HC0 := Lib.hid (fun W => Md.perm_spec mode 0 W)
                  have HI0 := Lib.hid (fun W => Pm.covers_any (permOfV mode 0) want W (permOf_range _ _) HW8.out)
                  have hu0 : (u == 0) = false := beq_eq_false_iff_ne.2 h0
                  generalize permOfV mode 0 = p0 at HV2 HC0 HI0
                  subst h1
                  clear h0
                  go_enter Try.func32, Try.ntmps32
                  go_wp2_with fail
                  generalize w.alloc (.cells #[.int .i64 u, .int .i64 g, .slice ga NG gc] 25) = w0 at hx HB HG HA hs0 ⊢
                  obtain ⟨c0, c1, c2⟩ := Bk.three hx
                  have HX := Lib.hid hx
                  clear hx
                  go_wp2_with fail
                  refine (HIC.out _ HG.out).mono ?_
                  rintro e w1 ⟨rfl, hb⟩
                  replace HX := Lib.hid (HX.out.all hb)
                  replace HB := Lib.hid (HB.out.trans (hb.mono HB.out.size))
                  replace HG := Lib.hid (Ni.holds_below HG.out hb)
                  replace HA := Lib.hid (Ae.holds_below HA.out hb)
                  have hs1 : w.heap.size < w1.heap.size := Nat.lt_of_lt_of_le hs0 hb.size
                  clear c0 c1 c2 hb hs0
                  obtain ⟨c0, c1, c2⟩ := Bk.three HX.out
                  go_wp2_with fail
                  refine (HIA.out _ HA.out).mono ?_
                  rintro e w2 ⟨rfl, hb⟩
                  replace HX := Lib.hid (HX.out.all hb)
                  replace HB := Lib.hid (HB.out.trans (hb.mono HB.out.size))
                  replace HG := Lib.hid (Ni.holds_below HG.out hb)
                  replace HA := Lib.hid (Ae.holds_below HA.out hb)
                  have hs2 : w.heap.size < w2.heap.size := Nat.lt_of_lt_of_le hs1 hb.size
                  clear c0 c1 c2 hb hs1
                  obtain ⟨c0, c1, c2⟩ := Bk.three HX.out
                  go_wp2_with fail
                  refine (HU1.out _).mono ?_
                  rintro e wq ⟨rfl, rfl⟩
                  go_wp2_with fail
                  refine (HU2.out _).mono ?_
                  rintro e wq ⟨rfl, rfl⟩
                  go_wp2_with fail
                  refine (HM.out _).mono ?_
                  rintro e wq ⟨rfl, rfl⟩
                  go_wp2_with fail
                  refine (HW.out _).mono ?_
                  rintro e wq ⟨rfl, rfl⟩
                  go_wp2_with fail
                  refine (HC0.out _).mono ?_
                  rintro e wq ⟨rfl, rfl⟩
                  go_wp2_with fail
                  refine (HI0.out _).mono ?_
                  rintro e wq ⟨rfl, rfl⟩
                  go_wp2
                  go_ret
                  exact ⟨ret_bool (by rw [HV.out, HV2.out]), HB.out⟩
                · have HM8 := Lib.hid (mask_in HOK.out)
                  have HP8 := Lib.hid (perm_in HOK.out 1 u)
                  have HCM := Lib.hid (fun W => Pm.covers_any (maskV l) want W HM8.out HW8.out)
                  have hu0 : (u == 0) = false := beq_eq_false_iff_ne.2 h0
                  have hu1 : (u == uid) = false := beq_eq_false_iff_ne.2 h1
                  generalize hpv : permV l 1 u = pv at HPM HP8
                  obtain ⟨pn, pb⟩ := pv
                  have HPV := Lib.hid hpv
                  clear hpv
                  dsimp only at HP8
                  cases pb
                  · have HDV := Lib.hid (show decideV (u, g, gl) uid gid mode l want = if (inB (u, g, gl) gid || l.any (grpB (u, g, gl))) = true then ((inB (u, g, gl) gid && covB (permOfV mode 1) want) || l.any fun x => grpB (u, g, gl) x && covB x.2.2 want) && covB (maskV l) want else covB (permOfV mode 2) want by rw [decideV, if_neg h0, if_neg h1]; dsimp only; rw [HPV.out, if_neg (by simp)])
                    have HIG := Lib.hid (fun W h => HIN.out W gid h)
                    clear h0 h1 HM8
                    cases hin : inB (u, g, gl) gid
                    · rw [hin] at HIG
                      rw [hin, Bool.false_and] at HDV
                      clear hin
                      generalize hmk : maskV l = mk at HMA HCM HDV
                      have HMK := Lib.hid hmk
                      clear hmk
                      go_enter Try.func32, Try.ntmps32
                      go_wp2_with fail
                      generalize w.alloc (.cells #[.int .i64 u, .int .i64 g, .slice ga NG gc] 25) = w0 at hx HB HG HA hs0 ⊢
                      obtain ⟨c0, c1, c2⟩ := Bk.three hx
                      have HX := Lib.hid hx
                      clear hx
                      go_wp2_with fail
                      refine (HIC.out _ HG.out).mono ?_
                      rintro e w1 ⟨rfl, hb⟩
                      replace HX := Lib.hid (HX.out.all hb)
                      replace HB := Lib.hid (HB.out.trans (hb.mono HB.out.size))
                      replace HG := Lib.hid (Ni.holds_below HG.out hb)
                      replace HA := Lib.hid (Ae.holds_below HA.out hb)
                      have hs1 : w.heap.size < w1.heap.size := Nat.lt_of_lt_of_le hs0 hb.size
                      clear c0 c1 c2 hb hs0
                      obtain ⟨c0, c1, c2⟩ := Bk.three HX.out
                      go_wp2_with fail
                      refine (HIA.out _ HA.out).mono ?_
                      rintro e w2 ⟨rfl, hb⟩
                      replace HX := Lib.hid (HX.out.all hb)
                      replace HB := Lib.hid (HB.out.trans (hb.mono HB.out.size))
                      replace HG := Lib.hid (Ni.holds_below HG.out hb)
                      replace HA := Lib.hid (Ae.holds_below HA.out hb)
                      have hs2 : w.heap.size < w2.heap.size := Nat.lt_of_lt_of_le hs1 hb.size
                      clear c0 c1 c2 hb hs1
                      obtain ⟨c0, c1, c2⟩ := Bk.three HX.out
                      go_wp2_with fail
                      refine (HU1.out _).mono ?_
                      rintro e wq ⟨rfl, rfl⟩
                      go_wp2_with fail
                      refine (HU2.out _).mono ?_
                      rintro e wq ⟨rfl, rfl⟩
                      go_wp2_with fail
                      refine (HM.out _).mono ?_
                      rintro e wq ⟨rfl, rfl⟩
                      go_wp2_with fail
                      refine (HW.out _).mono ?_
                      rintro e wq ⟨rfl, rfl⟩
                      go_wp2_with fail
                      refine (HMA.out _ HA.out).mono ?_
                      rintro e w3 ⟨rfl, hb⟩
                      replace HX := Lib.hid (HX.out.all hb)
                      replace HB := Lib.hid (HB.out.trans (hb.mono HB.out.size))
                      replace HG := Lib.hid (Ni.holds_below HG.out hb)
                      replace HA := Lib.hid (Ae.holds_below HA.out hb)
                      have hs3 : w.heap.size < w3.heap.size := Nat.lt_of_lt_of_le hs2 hb.size
                      clear c0 c1 c2 hb hs2
                      obtain ⟨c0, c1, c2⟩ := Bk.three HX.out
                      go_wp2_with fail
                      refine (HPM.out _ HA.out).mono ?_
                      rintro e w4 ⟨rfl, hb⟩
                      replace HX := Lib.hid (HX.out.all hb)
                      replace HB := Lib.hid (HB.out.trans (hb.mono HB.out.size))
                      replace HG := Lib.hid (Ni.holds_below HG.out hb)
                      replace HA := Lib.hid (Ae.holds_below HA.out hb)
                      have hs4 : w.heap.size < w4.heap.size := Nat.lt_of_lt_of_le hs3 hb.size
                      dsimp only [AclQ.res]
                      clear c0 c1 c2 hb hs3
                      obtain ⟨c0, c1, c2⟩ := Bk.three HX.out
                      go_wp2_with fail
                      refine (HIG.out _ HG.out).mono ?_
                      rintro e w5 ⟨rfl, hb⟩
                      replace HX := Lib.hid (HX.out.all hb)
                      replace HB := Lib.hid (HB.out.trans (hb.mono HB.out.size))
                      replace HG := Lib.hid (Ni.holds_below HG.out hb)
                      replace HA := Lib.hid (Ae.holds_below HA.out hb)
                      have hs5 : w.heap.size < w5.heap.size := Nat.lt_of_lt_of_le hs4 hb.size
                      clear c0 c1 c2 hb hs4
                      obtain ⟨c0, c1, c2⟩ := Bk.three HX.out
                      go_wp2_with fail
                      go_loopw [16, 17, 83] (fun mv fv iv wr => ∃ (k : Nat) (mb fb : Bool), k ≤ N ∧ iv = .int .i64 k ∧ mv = .bool mb ∧ fv = .bool fb ∧ mb = (false || (l.take k).any (grpB (u, g, gl))) ∧ fb = (false || (l.take k).any (fun x => grpB (u, g, gl) x && covB x.2.2 want)) ∧ Below w5.heap.size w5 wr) (fun _ _ iv _ => N - (intOf iv).toNat)
                      case atStart => exact ⟨0, false, false, Nat.zero_le _, rfl, rfl, rfl, by simp, by simp, Below.refl _ _⟩
                      case round =>
                        obtain ⟨k, mb, fb, hk, rfl, rfl, rfl, hmb, hfb, hbel⟩ := hrel
                        have HMB := Lib.hid hmb
                        have HFB := Lib.hid hfb
                        have HBEL := Lib.hid hbel
                        have HBR := Lib.hid (HB.out.trans (hbel.mono HB.out.size))
                        have hwr : w.heap.size < wr.heap.size := Nat.lt_of_lt_of_le hs5 hbel.size
                        have hsz := hbel.size
                        have HXR := Lib.hid (HX.out.all hbel)
                        obtain ⟨c0, c1, c2⟩ := Bk.three HXR.out
                        clear hmb hfb hbel
                        by_cases hlt : k < N
                        · have hlx : k < l.length := by rw [← HN.out]; exact hlt
                          obtain ⟨b, o, rfl, hb, g0, g1, g2⟩ := HAT.out k hlx
                          rw [← HBR.out.cell (p := ⟨b, _, none⟩) hb] at g0 g1 g2
                          have HQ1 := Lib.hid (any_next (grpB (u, g, gl)) hlx)
                          have HQ2 := Lib.hid (any_next (fun x => grpB (u, g, gl) x && covB x.2.2 want) hlx)
                          have HE8 := Lib.hid (ent_in HOK.out (getD_mem hlx))
                          have HGR := Lib.hid (Ni.holds_below HG.out HBEL.out)
                          cases hgq : grpB (u, g, gl) (l.getD k a0)
                          · have HM1 := Lib.hid (show mb = (false || (l.take (k + 1)).any (grpB (u, g, gl))) by rw [HQ1.out, hgq, Bool.or_false]; exact HMB.out)
                            have HM2 := Lib.hid (show fb = (false || (l.take (k + 1)).any (fun x => grpB (u, g, gl) x && covB x.2.2 want)) by rw [HQ2.out, hgq, Bool.false_and, Bool.or_false]; exact HFB.out)
                            have HGQ := Lib.hid hgq
                            clear hgq HQ1 HQ2
                            generalize l.getD k a0 = x at g0 g1 g2 HGQ HE8
                            obtain ⟨n0, n1, n2⟩ := x
                            dsimp only at g0 g1 g2
                            have HB2 := Lib.hid (HBEL.out.alloc hsz (.cells #[.int .i64 n0, .int .i64 n1, .int .i64 n2] 69))
                            have HG2 := Lib.hid (Ni.holds_below HGR.out ((Below.refl wr.heap.size wr).alloc (Nat.le_refl _) (.cells #[.int .i64 n0, .int .i64 n1, .int .i64 n2] 69)))
                            by_cases h0 : n0 = 2
                            · have hib : inB (u, g, gl) n1 = false := by have := HGQ.out; simp only [grpB, h0, decide_true, Bool.true_and] at this; exact this
                              subst h0
                              have HI := Lib.hid (HIN.out _ n1 HG2.out)
                              rw [hib] at HI
                              clear hib
                              go_wp2_with fail
                              refine HI.out.mono ?_
                              rintro e w9 ⟨rfl, hb5⟩
                              replace HB2 := Lib.hid (HB2.out.trans (hb5.mono HB2.out.size))
                              clear hb5
                              go_wp2
                              go_roundw
                              case rel => exact ⟨k + 1, mb, fb, by omega, by go_num, rfl, rfl, HM1.out, HM2.out, HB2.out⟩
                              case measure => simp [intOf]; omega
                            · have h1 : (n0 == 2) = false := beq_eq_false_iff_ne.2 h0
                              clear h0
                              go_wp2
                              go_roundw
                              case rel => exact ⟨k + 1, mb, fb, by omega, by go_num, rfl, rfl, HM1.out, HM2.out, HB2.out⟩
                              case measure => simp [intOf]; omega
                          · have HM1 := Lib.hid (show true = (false || (l.take (k + 1)).any (grpB (u, g, gl))) by rw [HQ1.out, hgq]; simp)
                            have HM2 := Lib.hid (show (fb || covB (l.getD k a0).2.2 want) = (false || (l.take (k + 1)).any (fun x => grpB (u, g, gl) x && covB x.2.2 want)) by rw [HQ2.out, hgq, Bool.true_and, HFB.out, Bool.or_assoc])
                            have HGQ := Lib.hid hgq
                            clear hgq HQ1 HQ2
                            generalize l.getD k a0 = x at g0 g1 g2 HGQ HE8 HM2
                            obtain ⟨n0, n1, n2⟩ := x
                            dsimp only at g0 g1 g2 HM2 HE8
                            have HCE := Lib.hid (fun W => Pm.covers_any n2 want W HE8.out HW8.out)
                            have hib : n0 = 2 ∧ inB (u, g, gl) n1 = true := by
                              have := HGQ.out
                              simp only [grpB, Bool.and_eq_true, decide_eq_true_eq] at this
                              exact this
                            obtain ⟨rfl, hib⟩ := hib
                            have HB2 := Lib.hid (HBEL.out.alloc hsz (.cells #[.int .i64 2, .int .i64 n1, .int .i64 n2] 69))
                            have HG2 := Lib.hid (Ni.holds_below HGR.out ((Below.refl wr.heap.size wr).alloc (Nat.le_refl _) (.cells #[.int .i64 2, .int .i64 n1, .int .i64 n2] 69)))
                            have HI := Lib.hid (HIN.out _ n1 HG2.out)
                            rw [hib] at HI
                            have y2 := cells_new wr #[.int .i64 2, .int .i64 n1, .int .i64 n2] 69 2 _ rfl
                            clear hib HGQ
                            go_wp2_with fail
                            refine HI.out.mono ?_
                            rintro e w9 ⟨rfl, hb5⟩
                            have q2 := (hb5.cell (p := ⟨wr.heap.size, 2, none⟩) (by simp)).trans y2
                            replace HB2 := Lib.hid (HB2.out.trans (hb5.mono HB2.out.size))
                            clear hb5 y2
                            cases fb
                            · go_wp2_with fail
                              refine (HCE.out _).mono ?_
                              rintro e wq ⟨rfl, rfl⟩
                              go_wp2
                              go_roundw
                              case rel => exact ⟨k + 1, true, _, by omega, by go_num, rfl, rfl, HM1.out, HM2.out, HB2.out⟩
                              case measure => simp [intOf]; omega
                            · go_wp2
                              go_roundw
                              case rel => exact ⟨k + 1, true, true, by omega, by go_num, rfl, rfl, HM1.out, by rw [← HM2.out, Bool.true_or], HB2.out⟩
                              case measure => simp [intOf]; omega
                        · obtain rfl : k = N := by omega
                          have HR := Lib.hid (show decideV (u, g, gl) uid gid mode l want = if mb = true then (fb && covB mk want) else covB (permOfV mode 2) want by
                            have e1 := HMB.out
                            have e2 := HFB.out
                            rw [HN.out, List.take_length] at e1 e2
                            rw [HDV.out, e1, e2])
                          cases mb
                          · rw [if_neg (by simp)] at HR
                            have HC2 := Lib.hid (fun W => Md.perm_spec mode 2 W)
                            have HI2 := Lib.hid (fun W => Pm.covers_any (permOfV mode 2) want W (permOf_range _ _) HW8.out)
                            generalize permOfV mode 2 = p2 at HR HC2 HI2
                            go_wp2_with fail
                            refine (HC2.out _).mono ?_
                            rintro e wq ⟨rfl, rfl⟩
                            go_wp2_with fail
                            refine (HI2.out _).mono ?_
                            rintro e wq ⟨rfl, rfl⟩
                            go_wp2
                            go_ret
                            exact ⟨ret_bool (by rw [HV.out, HR.out]), HBR.out⟩
                          · rw [if_pos rfl] at HR
                            cases fb
                            · rw [Bool.false_and] at HR
                              go_wp2
                              go_ret
                              exact ⟨ret_bool (by rw [HV.out, HR.out]), HBR.out⟩
                            · rw [Bool.true_and] at HR
                              go_wp2_with fail
                              refine (HCM.out _).mono ?_
                              rintro e wq ⟨rfl, rfl⟩
                              go_wp2
                              go_ret
                              exact ⟨ret_bool (by rw [HV.out, HR.out]), HBR.out⟩
                    · rw [hin] at HIG
                      rw [hin, Bool.true_and] at HDV
                      clear hin
                      have HC1 := Lib.hid (fun W => Md.perm_spec mode 1 W)
                      have HI1 := Lib.hid (fun W => Pm.covers_any (permOfV mode 1) want W (permOf_range _ _) HW8.out)
                      generalize permOfV mode 1 = p1 at HDV HC1 HI1
                      generalize covB p1 want = cv1 at HDV HI1
                      generalize hmk : maskV l = mk at HMA HCM HDV
                      have HMK := Lib.hid hmk
                      clear hmk
                      go_enter Try.func32, Try.ntmps32
                      go_wp2_with fail
                      generalize w.alloc (.cells #[.int .i64 u, .int .i64 g, .slice ga NG gc] 25) = w0 at hx HB HG HA hs0 ⊢
                      obtain ⟨c0, c1, c2⟩ := Bk.three hx
                      have HX := Lib.hid hx
                      clear hx
                      go_wp2_with fail
                      refine (HIC.out _ HG.out).mono ?_
                      rintro e w1 ⟨rfl, hb⟩
                      replace HX := Lib.hid (HX.out.all hb)
                      replace HB := Lib.hid (HB.out.trans (hb.mono HB.out.size))
                      replace HG := Lib.hid (Ni.holds_below HG.out hb)
                      replace HA := Lib.hid (Ae.holds_below HA.out hb)
                      have hs1 : w.heap.size < w1.heap.size := Nat.lt_of_lt_of_le hs0 hb.size
                      clear c0 c1 c2 hb hs0
                      obtain ⟨c0, c1, c2⟩ := Bk.three HX.out
                      go_wp2_with fail
                      refine (HIA.out _ HA.out).mono ?_
                      rintro e w2 ⟨rfl, hb⟩
                      replace HX := Lib.hid (HX.out.all hb)
                      replace HB := Lib.hid (HB.out.trans (hb.mono HB.out.size))
                      replace HG := Lib.hid (Ni.holds_below HG.out hb)
                      replace HA := Lib.hid (Ae.holds_below HA.out hb)
                      have hs2 : w.heap.size < w2.heap.size := Nat.lt_of_lt_of_le hs1 hb.size
                      clear c0 c1 c2 hb hs1
                      obtain ⟨c0, c1, c2⟩ := Bk.three HX.out
                      go_wp2_with fail
                      refine (HU1.out _).mono ?_
                      rintro e wq ⟨rfl, rfl⟩
                      go_wp2_with fail
                      refine (HU2.out _).mono ?_
                      rintro e wq ⟨rfl, rfl⟩
                      go_wp2_with fail
                      refine (HM.out _).mono ?_
                      rintro e wq ⟨rfl, rfl⟩
                      go_wp2_with fail
                      refine (HW.out _).mono ?_
                      rintro e wq ⟨rfl, rfl⟩
                      go_wp2_with fail
                      refine (HMA.out _ HA.out).mono ?_
                      rintro e w3 ⟨rfl, hb⟩
                      replace HX := Lib.hid (HX.out.all hb)
                      replace HB := Lib.hid (HB.out.trans (hb.mono HB.out.size))
                      replace HG := Lib.hid (Ni.holds_below HG.out hb)
                      replace HA := Lib.hid (Ae.holds_below HA.out hb)
                      have hs3 : w.heap.size < w3.heap.size := Nat.lt_of_lt_of_le hs2 hb.size
                      clear c0 c1 c2 hb hs2
                      obtain ⟨c0, c1, c2⟩ := Bk.three HX.out
                      go_wp2_with fail
                      refine (HPM.out _ HA.out).mono ?_
                      rintro e w4 ⟨rfl, hb⟩
                      replace HX := Lib.hid (HX.out.all hb)
                      replace HB := Lib.hid (HB.out.trans (hb.mono HB.out.size))
                      replace HG := Lib.hid (Ni.holds_below HG.out hb)
                      replace HA := Lib.hid (Ae.holds_below HA.out hb)
                      have hs4 : w.heap.size < w4.heap.size := Nat.lt_of_lt_of_le hs3 hb.size
                      dsimp only [AclQ.res]
                      clear c0 c1 c2 hb hs3
                      obtain ⟨c0, c1, c2⟩ := Bk.three HX.out
                      go_wp2_with fail
                      refine (HIG.out _ HG.out).mono ?_
                      rintro e w5 ⟨rfl, hb⟩
                      replace HX := Lib.hid (HX.out.all hb)
                      replace HB := Lib.hid (HB.out.trans (hb.mono HB.out.size))
                      replace HG := Lib.hid (Ni.holds_below HG.out hb)
                      replace HA := Lib.hid (Ae.holds_below HA.out hb)
                      have hs5 : w.heap.size < w5.heap.size := Nat.lt_of_lt_of_le hs4 hb.size
                      clear c0 c1 c2 hb hs4
                      obtain ⟨c0, c1, c2⟩ := Bk.three HX.out
                      go_wp2_with fail
                      refine (HC1.out _).mono ?_
                      rintro e wq ⟨rfl, rfl⟩
                      go_wp2_with fail
                      refine (HI1.out _).mono ?_
                      rintro e wq ⟨rfl, rfl⟩
                      go_wp2_with fail
                      go_loopw [16, 17, 83] (fun mv fv iv wr => ∃ (k : Nat) (mb fb : Bool), k ≤ N ∧ iv = .int .i64 k ∧ mv = .bool mb ∧ fv = .bool fb ∧ mb = (true || (l.take k).any (grpB (u, g, gl))) ∧ fb = (cv1 || (l.take k).any (fun x => grpB (u, g, gl) x && covB x.2.2 want)) ∧ Below w5.heap.size w5 wr) (fun _ _ iv _ => N - (intOf iv).toNat)
                      case atStart => exact ⟨0, true, cv1, Nat.zero_le _, rfl, rfl, rfl, by simp, by simp, Below.refl _ _⟩
                      case round =>
                        obtain ⟨k, mb, fb, hk, rfl, rfl, rfl, hmb, hfb, hbel⟩ := hrel
                        have HMB := Lib.hid hmb
                        have HFB := Lib.hid hfb
                        have HBEL := Lib.hid hbel
                        have HBR := Lib.hid (HB.out.trans (hbel.mono HB.out.size))
                        have hwr : w.heap.size < wr.heap.size := Nat.lt_of_lt_of_le hs5 hbel.size
                        have hsz := hbel.size
                        have HXR := Lib.hid (HX.out.all hbel)
                        obtain ⟨c0, c1, c2⟩ := Bk.three HXR.out
                        clear hmb hfb hbel
                        by_cases hlt : k < N
                        · have hlx : k < l.length := by rw [← HN.out]; exact hlt
                          obtain ⟨b, o, rfl, hb, g0, g1, g2⟩ := HAT.out k hlx
                          rw [← HBR.out.cell (p := ⟨b, _, none⟩) hb] at g0 g1 g2
                          have HQ1 := Lib.hid (any_next (grpB (u, g, gl)) hlx)
                          have HQ2 := Lib.hid (any_next (fun x => grpB (u, g, gl) x && covB x.2.2 want) hlx)
                          have HE8 := Lib.hid (ent_in HOK.out (getD_mem hlx))
                          have HGR := Lib.hid (Ni.holds_below HG.out HBEL.out)
                          cases hgq : grpB (u, g, gl) (l.getD k a0)
                          · have HM1 := Lib.hid (show mb = (true || (l.take (k + 1)).any (grpB (u, g, gl))) by rw [HQ1.out, hgq, Bool.or_false]; exact HMB.out)
                            have HM2 := Lib.hid (show fb = (cv1 || (l.take (k + 1)).any (fun x => grpB (u, g, gl) x && covB x.2.2 want)) by rw [HQ2.out, hgq, Bool.false_and, Bool.or_false]; exact HFB.out)
                            have HGQ := Lib.hid hgq
                            clear hgq HQ1 HQ2
                            generalize l.getD k a0 = x at g0 g1 g2 HGQ HE8
                            obtain ⟨n0, n1, n2⟩ := x
                            dsimp only at g0 g1 g2
                            have HB2 := Lib.hid (HBEL.out.alloc hsz (.cells #[.int .i64 n0, .int .i64 n1, .int .i64 n2] 69))
                            have HG2 := Lib.hid (Ni.holds_below HGR.out ((Below.refl wr.heap.size wr).alloc (Nat.le_refl _) (.cells #[.int .i64 n0, .int .i64 n1, .int .i64 n2] 69)))
                            by_cases h0 : n0 = 2
                            · have hib : inB (u, g, gl) n1 = false := by have := HGQ.out; simp only [grpB, h0, decide_true, Bool.true_and] at this; exact this
                              subst h0
                              have HI := Lib.hid (HIN.out _ n1 HG2.out)
                              rw [hib] at HI
                              clear hib
                              go_wp2_with fail
                              refine HI.out.mono ?_
                              rintro e w9 ⟨rfl, hb5⟩
                              replace HB2 := Lib.hid (HB2.out.trans (hb5.mono HB2.out.size))
                              clear hb5
                              go_wp2
                              go_roundw
                              case rel => exact ⟨k + 1, mb, fb, by omega, by go_num, rfl, rfl, HM1.out, HM2.out, HB2.out⟩
                              case measure => simp [intOf]; omega
                            · have h1 : (n0 == 2) = false := beq_eq_false_iff_ne.2 h0
                              clear h0
                              go_wp2
                              go_roundw
                              case rel => exact ⟨k + 1, mb, fb, by omega, by go_num, rfl, rfl, HM1.out, HM2.out, HB2.out⟩
                              case measure => simp [intOf]; omega
                          · have HM1 := Lib.hid (show true = (true || (l.take (k + 1)).any (grpB (u, g, gl))) by rw [HQ1.out, hgq]; simp)
                            have HM2 := Lib.hid (show (fb || covB (l.getD k a0).2.2 want) = (cv1 || (l.take (k + 1)).any (fun x => grpB (u, g, gl) x && covB x.2.2 want)) by rw [HQ2.out, hgq, Bool.true_and, HFB.out, Bool.or_assoc])
                            have HGQ := Lib.hid hgq
                            clear hgq HQ1 HQ2
                            generalize l.getD k a0 = x at g0 g1 g2 HGQ HE8 HM2
                            obtain ⟨n0, n1, n2⟩ := x
                            dsimp only at g0 g1 g2 HM2 HE8
                            have HCE := Lib.hid (fun W => Pm.covers_any n2 want W HE8.out HW8.out)
                            have hib : n0 = 2 ∧ inB (u, g, gl) n1 = true := by
                              have := HGQ.out
                              simp only [grpB, Bool.and_eq_true, decide_eq_true_eq] at this
                              exact this
                            obtain ⟨rfl, hib⟩ := hib
                            have HB2 := Lib.hid (HBEL.out.alloc hsz (.cells #[.int .i64 2, .int .i64 n1, .int .i64 n2] 69))
                            have HG2 := Lib.hid (Ni.holds_below HGR.out ((Below.refl wr.heap.size wr).alloc (Nat.le_refl _) (.cells #[.int .i64 2, .int .i64 n1, .int .i64 n2] 69)))
                            have HI := Lib.hid (HIN.out _ n1 HG2.out)
                            rw [hib] at HI
                            have y2 := cells_new wr #[.int .i64 2, .int .i64 n1, .int .i64 n2] 69 2 _ rfl
                            clear hib HGQ
                            go_wp2_with fail
                            refine HI.out.mono ?_
                            rintro e w9 ⟨rfl, hb5⟩
                            have q2 := (hb5.cell (p := ⟨wr.heap.size, 2, none⟩) (by simp)).trans y2
                            replace HB2 := Lib.hid (HB2.out.trans (hb5.mono HB2.out.size))
                            clear hb5 y2
                            cases fb
                            · go_wp2_with fail
                              refine (HCE.out _).mono ?_
                              rintro e wq ⟨rfl, rfl⟩
                              go_wp2
                              go_roundw
                              case rel => exact ⟨k + 1, true, _, by omega, by go_num, rfl, rfl, HM1.out, HM2.out, HB2.out⟩
                              case measure => simp [intOf]; omega
                            · go_wp2
                              go_roundw
                              case rel => exact ⟨k + 1, true, true, by omega, by go_num, rfl, rfl, HM1.out, by rw [← HM2.out, Bool.true_or], HB2.out⟩
                              case measure => simp [intOf]; omega
                        · obtain rfl : k = N := by omega
                          have HR := Lib.hid (show decideV (u, g, gl) uid gid mode l want = if mb = true then (fb && covB mk want) else covB (permOfV mode 2) want by
                            have e1 := HMB.out
                            have e2 := HFB.out
                            rw [HN.out, List.take_length] at e1 e2
                            rw [HDV.out, e1, e2])
                          cases mb
                          · rw [if_neg (by simp)] at HR
                            have HC2 := Lib.hid (fun W => Md.perm_spec mode 2 W)
                            have HI2 := Lib.hid (fun W => Pm.covers_any (permOfV mode 2) want W (permOf_range _ _) HW8.out)
                            generalize permOfV mode 2 = p2 at HR HC2 HI2
                            go_wp2_with fail
                            refine (HC2.out _).mono ?_
                            rintro e wq ⟨rfl, rfl⟩
                            go_wp2_with fail
                            refine (HI2.out _).mono ?_
                            rintro e wq ⟨rfl, rfl⟩
                            go_wp2
                            go_ret
                            exact ⟨ret_bool (by rw [HV.out, HR.out]), HBR.out⟩
                          · rw [if_pos rfl] at HR
                            cases fb
                            · rw [Bool.false_and] at HR
                              go_wp2
                              go_ret
                              exact ⟨ret_bool (by rw [HV.out, HR.out]), HBR.out⟩
                            · rw [Bool.true_and] at HR
                              go_wp2_with fail
                              refine (HCM.out _).mono ?_
                              rintro e wq ⟨rfl, rfl⟩
                              go_wp2
                              go_ret
                              exact ⟨ret_bool (by rw [HV.out, HR.out]), HBR.out⟩
                  · have HV2 := Lib.hid (show decideV (u, g, gl) uid gid mode l want = covB (andP pn (maskV l)) want by rw [decideV, if_neg h0, if_neg h1]; dsimp only; rw [HPV.out, if_pos rfl])
                    have hband := and_bits HP8.out.1 HP8.out.2 HM8.out.1 HM8.out.2
                    have HCA := Lib.hid (fun W => Pm.covers_any (andP pn (maskV l)) want W (and_in HP8.out HM8.out) HW8.out)
                    generalize andP pn (maskV l) = am at hband HCA HV2
                    generalize maskV l = mk at hband HMA
                    clear h0 h1 HCM HM8
                    go_enter Try.func32, Try.ntmps32
                    go_wp2_with fail
                    generalize w.alloc (.cells #[.int .i64 u, .int .i64 g, .slice ga NG gc] 25) = w0 at hx HB HG HA hs0 ⊢
                    obtain ⟨c0, c1, c2⟩ := Bk.three hx
                    have HX := Lib.hid hx
                    clear hx
                    go_wp2_with fail
                    refine (HIC.out _ HG.out).mono ?_
                    rintro e w1 ⟨rfl, hb⟩
                    replace HX := Lib.hid (HX.out.all hb)
                    replace HB := Lib.hid (HB.out.trans (hb.mono HB.out.size))
                    replace HG := Lib.hid (Ni.holds_below HG.out hb)
                    replace HA := Lib.hid (Ae.holds_below HA.out hb)
                    have hs1 : w.heap.size < w1.heap.size := Nat.lt_of_lt_of_le hs0 hb.size
                    clear c0 c1 c2 hb hs0
                    obtain ⟨c0, c1, c2⟩ := Bk.three HX.out
                    go_wp2_with fail
                    refine (HIA.out _ HA.out).mono ?_
                    rintro e w2 ⟨rfl, hb⟩
                    replace HX := Lib.hid (HX.out.all hb)
                    replace HB := Lib.hid (HB.out.trans (hb.mono HB.out.size))
                    replace HG := Lib.hid (Ni.holds_below HG.out hb)
                    replace HA := Lib.hid (Ae.holds_below HA.out hb)
                    have hs2 : w.heap.size < w2.heap.size := Nat.lt_of_lt_of_le hs1 hb.size
                    clear c0 c1 c2 hb hs1
                    obtain ⟨c0, c1, c2⟩ := Bk.three HX.out
                    go_wp2_with fail
                    refine (HU1.out _).mono ?_
                    rintro e wq ⟨rfl, rfl⟩
                    go_wp2_with fail
                    refine (HU2.out _).mono ?_
                    rintro e wq ⟨rfl, rfl⟩
                    go_wp2_with fail
                    refine (HM.out _).mono ?_
                    rintro e wq ⟨rfl, rfl⟩
                    go_wp2_with fail
                    refine (HW.out _).mono ?_
                    rintro e wq ⟨rfl, rfl⟩
                    go_wp2_with fail
                    refine (HMA.out _ HA.out).mono ?_
                    rintro e w3 ⟨rfl, hb⟩
                    replace HX := Lib.hid (HX.out.all hb)
                    replace HB := Lib.hid (HB.out.trans (hb.mono HB.out.size))
                    replace HG := Lib.hid (Ni.holds_below HG.out hb)
                    replace HA := Lib.hid (Ae.holds_below HA.out hb)
                    have hs3 : w.heap.size < w3.heap.size := Nat.lt_of_lt_of_le hs2 hb.size
                    clear c0 c1 c2 hb hs2
                    obtain ⟨c0, c1, c2⟩ := Bk.three HX.out
                    go_wp2_with fail
                    refine (HPM.out _ HA.out).mono ?_
                    rintro e w4 ⟨rfl, hb⟩
                    replace HX := Lib.hid (HX.out.all hb)
                    replace HB := Lib.hid (HB.out.trans (hb.mono HB.out.size))
                    replace HG := Lib.hid (Ni.holds_below HG.out hb)
                    replace HA := Lib.hid (Ae.holds_below HA.out hb)
                    have hs4 : w.heap.size < w4.heap.size := Nat.lt_of_lt_of_le hs3 hb.size
                    dsimp only [AclQ.res]
                    clear c0 c1 c2 hb hs3
                    obtain ⟨c0, c1, c2⟩ := Bk.three HX.out
                    go_wp2_with fail
                    refine (HCA.out _).mono ?_
                    rintro e wq ⟨rfl, rfl⟩
                    go_wp2
                    go_ret
                    exact ⟨ret_bool (by rw [HV.out, HV2.out]), HB.out⟩
end Go.Proofs.Ytjdehgadfjopiaa.As
