/- Contracts: the program's MayRemove and the model's. Condition: the number of groups. -/
import Derived.Test.YtjdehgadfjopiaaMp
namespace Go.Proofs.Ytjdehgadfjopiaa.Mr
open Go.ChangeShapes Go.WideShapes Go.ChangeAt Go.RowKit
open Bx CredV ModeV
open Ni (HoldsN)
open Dk (ret_bool)
open Strs (ret_int)
set_option linter.unusedVariables false


set_option maxRecDepth 100000 in
set_option maxHeartbeats 1600000 in
theorem may_impl (w : World) (u g : Int) (gv : Value) (l : List Int) (d m x : Int) (hn : l.length ≤ 1073741824) (h : HoldsN w gv l) :
    Calls Try.prog 24 #[.agg #[.int .i64 u, .int .i64 g, gv], .int .i64 d, .int .i64 m, .int .i64 x] w fun e w' => e = .returned (.bool (mayV (u, g, l) d m x)) ∧ Below w.heap.size w w' := by
  have HB := Lib.hid ((Below.refl w.heap.size w).alloc (Nat.le_refl _) (.cells #[.int .i64 u, .int .i64 g, gv] 25))
  have HX := Lib.hid (new w #[.int .i64 u, .int .i64 g, gv] 25)
  have HC := Lib.hid (CrI.cred_impl _ u g gv l hn (Ni.holds_below h HB.out))
  have HM := Lib.hid (fun W => Pm.mode_impl m W)
  obtain ⟨a, c, rfl, _⟩ := h
  cases hc : credB (u, g, l)
  · have HV := Lib.hid (show mayV (u, g, l) d m x = false by simp [mayV, hc])
    rw [hc] at HC
    clear hc
    go_enter Try.func24, Try.ntmps24
    go_wp2_with fail
    refine HC.out.mono ?_
    rintro e w1 ⟨rfl, hb⟩
    replace HB := Lib.hid (HB.out.trans (hb.mono HB.out.size))
    clear hb HX
    go_wp2
    go_ret
    exact ⟨ret_bool HV.out.symm, HB.out⟩
  · rw [hc] at HC
    cases hm : modeB m
    · have HV := Lib.hid (show mayV (u, g, l) d m x = false by simp [mayV, hm])
      rw [hm] at HM
      clear hc hm
      go_enter Try.func24, Try.ntmps24
      go_wp2_with fail
      refine HC.out.mono ?_
      rintro e w1 ⟨rfl, hb⟩
      replace HB := Lib.hid (HB.out.trans (hb.mono HB.out.size))
      clear hb HX
      go_wp2_with fail
      refine (HM.out _).mono ?_
      rintro e w2 ⟨rfl, rfl⟩
      go_wp2
      go_ret
      exact ⟨ret_bool HV.out.symm, HB.out⟩
    · rw [hm] at HM
      have HV := Lib.hid (show mayV (u, g, l) d m x = (!stickyB m || decide (u = 0) || decide (u = d) || decide (u = x)) by simp [mayV, hc, hm])
      have e9 : (bits .and .i64 m 512 != 0) = stickyB m := Md.bit_in ((mode_iff m).1 hm).1 ((mode_iff m).1 hm).2 9 (by omega) 512 rfl
      have e8 : (bits .and .i64 m 512 == 0) = !stickyB m := by rw [← e9]; simp [bne]
      generalize mayV (u, g, l) d m x = r at HV ⊢
      generalize stickyB m = sb at HV e9 e8
      have E := Lib.hid (And.intro e9 e8)
      clear hc hm e9 e8
      go_enter Try.func24, Try.ntmps24
      go_wp2_with fail
      refine HC.out.mono ?_
      rintro e w1 ⟨rfl, hb⟩
      obtain ⟨c0, c1, c2⟩ := Bk.three (HX.out.all hb)
      replace HB := Lib.hid (HB.out.trans (hb.mono HB.out.size))
      clear hb HX
      go_wp2_with fail
      refine (HM.out _).mono ?_
      rintro e w2 ⟨rfl, rfl⟩
      obtain ⟨e9, e8⟩ := E.out
      cases sb
      all_goals
        go_wp2
        all_goals
          go_ret
          exact ⟨ret_bool (by rw [HV.out]; first | (simp_all; done) | (simp_all; rename_i h1 h2; rw [beq_eq_false_iff_ne.2 h1, beq_eq_false_iff_ne.2 h2]; rfl)), HB.out⟩


set_option maxRecDepth 100000 in
set_option maxHeartbeats 1600000 in
theorem may_spec (w : World) (u g : Int) (gv : Value) (l : List Int) (d m x : Int) (hn : l.length ≤ 1073741824) (h : HoldsN w gv l) :
    Calls Try.prog 37 #[.agg #[.int .i64 u, .int .i64 g, gv], .int .i64 d, .int .i64 m, .int .i64 x] w fun e w' => e = .returned (.bool (mayV (u, g, l) d m x)) ∧ Below w.heap.size w w' := by
  have HB := Lib.hid ((Below.refl w.heap.size w).alloc (Nat.le_refl _) (.cells #[.int .i64 u, .int .i64 g, gv] 25))
  have HX := Lib.hid (new w #[.int .i64 u, .int .i64 g, gv] 25)
  have HC := Lib.hid (CrI.cred_spec _ u g gv l hn (Ni.holds_below h HB.out))
  have HM := Lib.hid (fun W => Pm.mode_spec m W)
  obtain ⟨a, c, rfl, _⟩ := h
  cases hc : credB (u, g, l)
  · have HV := Lib.hid (show mayV (u, g, l) d m x = false by simp [mayV, hc])
    rw [hc] at HC
    clear hc
    go_enter Try.func37, Try.ntmps37
    go_wp2_with fail
    refine HC.out.mono ?_
    rintro e w1 ⟨rfl, hb⟩
    replace HB := Lib.hid (HB.out.trans (hb.mono HB.out.size))
    clear hb HX
    go_wp2
    go_ret
    exact ⟨ret_bool HV.out.symm, HB.out⟩
  · rw [hc] at HC
    cases hm : modeB m
    · have HV := Lib.hid (show mayV (u, g, l) d m x = false by simp [mayV, hm])
      rw [hm] at HM
      clear hc hm
      go_enter Try.func37, Try.ntmps37
      go_wp2_with fail
      refine HC.out.mono ?_
      rintro e w1 ⟨rfl, hb⟩
      replace HB := Lib.hid (HB.out.trans (hb.mono HB.out.size))
      clear hb HX
      go_wp2_with fail
      refine (HM.out _).mono ?_
      rintro e w2 ⟨rfl, rfl⟩
      go_wp2
      go_ret
      exact ⟨ret_bool HV.out.symm, HB.out⟩
    · rw [hm] at HM
      have HV := Lib.hid (show mayV (u, g, l) d m x = (!stickyB m || decide (u = 0) || decide (u = d) || decide (u = x)) by simp [mayV, hc, hm])
      have e9 : (bits .and .i64 m 512 != 0) = stickyB m := Md.bit_in ((mode_iff m).1 hm).1 ((mode_iff m).1 hm).2 9 (by omega) 512 rfl
      have e8 : (bits .and .i64 m 512 == 0) = !stickyB m := by rw [← e9]; simp [bne]
      generalize mayV (u, g, l) d m x = r at HV ⊢
      generalize stickyB m = sb at HV e9 e8
      have E := Lib.hid (And.intro e9 e8)
      clear hc hm e9 e8
      go_enter Try.func37, Try.ntmps37
      go_wp2_with fail
      refine HC.out.mono ?_
      rintro e w1 ⟨rfl, hb⟩
      obtain ⟨c0, c1, c2⟩ := Bk.three (HX.out.all hb)
      replace HB := Lib.hid (HB.out.trans (hb.mono HB.out.size))
      clear hb HX
      go_wp2_with fail
      refine (HM.out _).mono ?_
      rintro e w2 ⟨rfl, rfl⟩
      obtain ⟨e9, e8⟩ := E.out
      cases sb
      all_goals
        go_wp2
        all_goals
          go_ret
          exact ⟨ret_bool (by rw [HV.out]; first | (simp_all; done) | (simp_all; rename_i h1 h2; rw [beq_eq_false_iff_ne.2 h1, beq_eq_false_iff_ne.2 h2]; rfl)), HB.out⟩

end Go.Proofs.Ytjdehgadfjopiaa.Mr
