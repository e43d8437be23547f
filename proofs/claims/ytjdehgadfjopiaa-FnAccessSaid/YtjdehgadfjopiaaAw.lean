/- Contracts: the program's Allowed and the model's. Conditions: the number of groups and of entries. -/
import Derived.Test.YtjdehgadfjopiaaAl
namespace Go.Proofs.Ytjdehgadfjopiaa.Aw
open Go.ChangeShapes Go.WideShapes Go.ChangeAt Go.RowKit
open Bx CredV ModeV Al
open AclV (At a0 okB permV maskV)
open Ni (HoldsN)
open Dk (ret_bool)
open Strs (ret_int own_below)
open AclB (cells_new)
set_option linter.unusedVariables false

theorem and_both : ∀ a, a < 8 → ∀ b, b < 8 → ∀ c, c < 8 → (((a &&& b : Nat) &&& c) = c ↔ (a &&& c = c ∧ b &&& c = c)) := by decide +kernel
theorem cov_both {a b c : Int} (ha : In8 a) (hb : In8 b) (hc : In8 c) : covB (andP a b) c = (covB b c && covB a c) := by
  rw [Bool.eq_iff_iff, Bool.and_eq_true, cov_iff hc.1, cov_iff hc.1, cov_iff hc.1]
  have := and_both a.toNat (by have := ha.1; have := ha.2; omega) b.toNat (by have := hb.1; have := hb.2; omega) c.toNat (by have := hc.1; have := hc.2; omega)
  have e : (andP a b).toNat = a.toNat &&& b.toNat := by unfold andP; omega
  rw [e, this, And.comm]
theorem grpL_nil {c : Cr} {gid mode : Int} {l : List At} : grpL c gid mode l = [] ↔ (inB c gid || l.any (grpB c)) = false := by
  unfold grpL
  cases h1 : inB c gid
  · rw [if_neg (by simp), List.nil_append, List.map_eq_nil_iff, List.filter_eq_nil_iff, Bool.false_or, List.any_eq_false]
  · rw [if_pos rfl]; simp
theorem grpL_any {c : Cr} {gid mode : Int} {l : List At} {want : Int} : anyB (grpL c gid mode l) want = ((inB c gid && covB (permOfV mode 1) want) || l.any fun x => grpB c x && covB x.2.2 want) := by
  have e : ((l.filter (grpB c)).map fun x => x.2.2).any (fun x => covB x want) = l.any fun x => grpB c x && covB x.2.2 want := by
    rw [List.any_map, List.any_filter]; rfl
  unfold grpL anyB
  rw [List.any_append, e]
  cases h1 : inB c gid
  · rw [if_neg (by simp)]; simp
  · rw [if_pos rfl]; simp
theorem decide_masked {c : Cr} {uid gid mode : Int} {l : List At} {want : Int} (hl : okB l = true) (hw : In8 want) (h0 : c.1 ≠ 0) (h1 : c.1 ≠ uid) :
    decideV c uid gid mode l want = if maskL c gid mode l = [] then covB (permOfV mode 2) want else (covB (maskV l) want && anyB (maskL c gid mode l) want) := by
  rw [decideV, if_neg h0, if_neg h1]
  by_cases hn : (permV l 1 c.1).2 = true
  · rw [if_pos hn, maskL, if_pos hn, if_neg (by simp), cov_both (perm_in hl _ _) (mask_in hl) hw]
    simp [anyB]
  · rw [if_neg hn, maskL, if_neg hn]
    by_cases h3 : (inB c gid || l.any (grpB c)) = true
    · rw [if_pos h3, if_neg (by rw [grpL_nil, h3]; simp), grpL_any, Bool.and_comm]
    · rw [if_neg h3, if_pos (grpL_nil.2 (by simpa using h3))]
theorem maskL_in {c : Cr} {gid mode : Int} {l : List At} (hl : okB l = true) : ∀ y ∈ maskL c gid mode l, In8 y := by
  intro y hy
  unfold maskL at hy
  by_cases hn : (permV l 1 c.1).2 = true
  · rw [if_pos hn, List.mem_singleton] at hy
    subst hy
    exact perm_in hl _ _
  · rw [if_neg hn, grpL, List.mem_append] at hy
    rcases hy with hy | hy
    · by_cases hi : inB c gid = true
      · rw [if_pos hi, List.mem_singleton] at hy
        subst hy
        exact permOf_range _ _
      · rw [if_neg hi] at hy; cases hy
    · obtain ⟨x, hx, rfl⟩ := List.mem_map.1 hy
      exact ent_in hl (List.mem_filter.1 hx).1
theorem maskL_len {c : Cr} {gid mode : Int} {l : List At} (hl : l.length ≤ 1048576) : (maskL c gid mode l).length ≤ 1048577 := by
  unfold maskL
  split
  · simp
  · unfold grpL
    rw [List.length_append, List.length_map]
    have := List.length_filter_le (grpB c) l
    split <;> simp <;> omega
theorem any_next {l : List At} {k : Nat} (q : At → Bool) (hk : k < l.length) : (l.take (k + 1)).any q = ((l.take k).any q || q (l.getD k a0)) := by
  have eg : l.getD k a0 = l[k] := by rw [List.getD_eq_getElem?_getD, List.getElem?_eq_getElem hk]; rfl
  rw [List.take_succ_eq_append_getElem hk, List.any_append, eg]; simp
theorem getD_mem {l : List At} {k : Nat} (hk : k < l.length) : l.getD k a0 ∈ l := by
  rw [List.getD_eq_getElem?_getD, List.getElem?_eq_getElem hk]
  exact List.getElem_mem hk


set_option maxRecDepth 100000 in
set_option maxHeartbeats 6400000 in
theorem allowed_impl (w : World) (u g : Int) (gv : Value) (gl : List Int) (uid gid mode : Int) (av : Value) (l : List At) (want : Int) (hgl : gl.length ≤ 1073741824) (hal : l.length ≤ 1048576) (hG : HoldsN w gv gl) (hA : Ae.Holds w av l) :
    Calls Try.prog 16 #[.agg #[.int .i64 u, .int .i64 g, gv], .int .i64 uid, .int .i64 gid, .int .i64 mode, av, .int .i64 want] w fun e w' => e = .returned (.bool (allowedV (u, g, gl) uid gid mode l want)) ∧ Below w.heap.size w w' := by
  have HB := Lib.hid ((Below.refl w.heap.size w).alloc (Nat.le_refl _) (.cells #[.int .i64 u, .int .i64 g, gv] 25))
  have hx := new w #[.int .i64 u, .int .i64 g, gv] 25
  have HG := Lib.hid (Ni.holds_below hG HB.out)
  have HA := Lib.hid (Ae.holds_below hA HB.out)
  obtain ⟨ga, gc, rfl, _⟩ := hG
  obtain ⟨aa, ac, rfl, hat⟩ := Ae.atL hA
  have HAT := Lib.hid hat
  clear hA hat
  have hs0 : w.heap.size < (w.alloc (.cells #[.int .i64 u, .int .i64 g, .slice ga gl.length gc] 25)).heap.size := by simp
  have HU1 := Lib.hid (fun W => Pm.user_impl uid W)
  have HU2 := Lib.hid (fun W => Pm.user_impl gid W)
  have HM := Lib.hid (fun W => Pm.mode_impl mode W)
  have HW := Lib.hid (fun W => AclS.perm_any want W)
  have HIA := Lib.hid (fun W h => AclI.impl_any W (.slice aa l.length ac) l (by omega) h)
  have HIC := Lib.hid (fun W h => CrI.cred_impl W u g (.slice ga gl.length gc) gl hgl h)
  have HMA := Lib.hid (fun W h => AclQ.mask_impl W (.slice aa l.length ac) l (by omega) h)
  have HMP := Lib.hid (fun W h1 h2 => masked_any W u g (.slice ga gl.length gc) gl gid mode (.slice aa l.length ac) l hgl hal h1 h2)
  have HML := Lib.hid (maskL_len (c := (u, g, gl)) (gid := gid) (mode := mode) hal)
  obtain ⟨NG, hNG⟩ : ∃ NG, NG = gl.length := ⟨_, rfl⟩
  rw [← hNG] at hx HB HG HA hs0 HIC HMP ⊢
  clear hNG hgl
  obtain ⟨N, hN⟩ : ∃ N, N = l.length := ⟨_, rfl⟩
  rw [← hN] at HA HIA HMA HMP hal ⊢
  have HN := Lib.hid hN
  clear hN

  cases huid : userB uid
  · have HV := Lib.hid (show allowedV (u, g, gl) uid gid mode l want = false by simp only [allowedV, argsB, huid, Bool.and_false, Bool.false_and, Bool.and_assoc])
    rw [huid] at HU1
    clear huid
    go_enter Try.func16, Try.ntmps16
    go_wp2_with fail
    generalize w.alloc (.cells #[.int .i64 u, .int .i64 g, .slice ga NG gc] 25) = w0 at hx HB HG HA hs0 ⊢
    obtain ⟨c0, c1, c2⟩ := Bk.three hx
    have HX := Lib.hid hx
    clear hx
    go_wp2_with fail
    refine (HU1.out _).mono ?_
    rintro e wq ⟨rfl, rfl⟩
    go_wp2
    go_ret
    exact ⟨ret_bool HV.out.symm, HB.out⟩
  · rw [huid] at HU1
    cases hgid : userB gid
    · have HV := Lib.hid (show allowedV (u, g, gl) uid gid mode l want = false by simp only [allowedV, argsB, hgid, Bool.and_false, Bool.false_and, Bool.and_assoc])
      rw [hgid] at HU2
      clear huid hgid
      go_enter Try.func16, Try.ntmps16
      go_wp2_with fail
      generalize w.alloc (.cells #[.int .i64 u, .int .i64 g, .slice ga NG gc] 25) = w0 at hx HB HG HA hs0 ⊢
      obtain ⟨c0, c1, c2⟩ := Bk.three hx
      have HX := Lib.hid hx
      clear hx
      go_wp2_with fail
      refine (HU1.out _).mono ?_
      rintro e wq ⟨rfl, rfl⟩
      go_wp2_with fail
      refine (HU2.out _).mono ?_
      rintro e wq ⟨rfl, rfl⟩
      go_wp2
      go_ret
      exact ⟨ret_bool HV.out.symm, HB.out⟩
    · rw [hgid] at HU2
      cases hmode : modeB mode
      · have HV := Lib.hid (show allowedV (u, g, gl) uid gid mode l want = false by simp only [allowedV, argsB, hmode, Bool.and_false, Bool.false_and, Bool.and_assoc])
        rw [hmode] at HM
        clear huid hgid hmode
        go_enter Try.func16, Try.ntmps16
        go_wp2_with fail
        generalize w.alloc (.cells #[.int .i64 u, .int .i64 g, .slice ga NG gc] 25) = w0 at hx HB HG HA hs0 ⊢
        obtain ⟨c0, c1, c2⟩ := Bk.three hx
        have HX := Lib.hid hx
        clear hx
        go_wp2_with fail
        refine (HU1.out _).mono ?_
        rintro e wq ⟨rfl, rfl⟩
        go_wp2_with fail
        refine (HU2.out _).mono ?_
        rintro e wq ⟨rfl, rfl⟩
        go_wp2_with fail
        refine (HM.out _).mono ?_
        rintro e wq ⟨rfl, rfl⟩
        go_wp2
        go_ret
        exact ⟨ret_bool HV.out.symm, HB.out⟩
      · rw [hmode] at HM
        cases hacl : okB l
        · have HV := Lib.hid (show allowedV (u, g, gl) uid gid mode l want = false by simp only [allowedV, argsB, hacl, Bool.and_false, Bool.false_and, Bool.and_assoc])
          rw [hacl] at HIA
          clear huid hgid hmode hacl
          go_enter Try.func16, Try.ntmps16
          go_wp2_with fail
          generalize w.alloc (.cells #[.int .i64 u, .int .i64 g, .slice ga NG gc] 25) = w0 at hx HB HG HA hs0 ⊢
          obtain ⟨c0, c1, c2⟩ := Bk.three hx
          have HX := Lib.hid hx
          clear hx
          go_wp2_with fail
          refine (HU1.out _).mono ?_
          rintro e wq ⟨rfl, rfl⟩
          go_wp2_with fail
          refine (HU2.out _).mono ?_
          rintro e wq ⟨rfl, rfl⟩
          go_wp2_with fail
          refine (HM.out _).mono ?_
          rintro e wq ⟨rfl, rfl⟩
          go_wp2_with fail
          refine (HIA.out _ HA.out).mono ?_
          rintro e w1 ⟨rfl, hb⟩
          replace HX := Lib.hid (HX.out.all hb)
          replace HB := Lib.hid (HB.out.trans (hb.mono HB.out.size))
          replace HG := Lib.hid (Ni.holds_below HG.out hb)
          replace HA := Lib.hid (Ae.holds_below HA.out hb)
          have hs1 : w.heap.size < w1.heap.size := Nat.lt_of_lt_of_le hs0 hb.size
          clear c0 c1 c2 hb hs0
          obtain ⟨c0, c1, c2⟩ := Bk.three HX.out
          go_wp2
          go_ret
          exact ⟨ret_bool HV.out.symm, HB.out⟩
        · rw [hacl] at HIA
          cases hcred : credB (u, g, gl)
          · have HV := Lib.hid (show allowedV (u, g, gl) uid gid mode l want = false by simp only [allowedV, argsB, hcred, Bool.and_false, Bool.false_and, Bool.and_assoc])
            rw [hcred] at HIC
            clear huid hgid hmode hacl hcred
            go_enter Try.func16, Try.ntmps16
            go_wp2_with fail
            generalize w.alloc (.cells #[.int .i64 u, .int .i64 g, .slice ga NG gc] 25) = w0 at hx HB HG HA hs0 ⊢
            obtain ⟨c0, c1, c2⟩ := Bk.three hx
            have HX := Lib.hid hx
            clear hx
            go_wp2_with fail
            refine (HU1.out _).mono ?_
            rintro e wq ⟨rfl, rfl⟩
            go_wp2_with fail
            refine (HU2.out _).mono ?_
            rintro e wq ⟨rfl, rfl⟩
            go_wp2_with fail
            refine (HM.out _).mono ?_
            rintro e wq ⟨rfl, rfl⟩
            go_wp2_with fail
            refine (HIA.out _ HA.out).mono ?_
            rintro e w1 ⟨rfl, hb⟩
            replace HX := Lib.hid (HX.out.all hb)
            replace HB := Lib.hid (HB.out.trans (hb.mono HB.out.size))
            replace HG := Lib.hid (Ni.holds_below HG.out hb)
            replace HA := Lib.hid (Ae.holds_below HA.out hb)
            have hs1 : w.heap.size < w1.heap.size := Nat.lt_of_lt_of_le hs0 hb.size
            clear c0 c1 c2 hb hs0
            obtain ⟨c0, c1, c2⟩ := Bk.three HX.out
            go_wp2_with fail
            refine (HIC.out _ HG.out).mono ?_
            rintro e w2 ⟨rfl, hb⟩
            replace HX := Lib.hid (HX.out.all hb)
            replace HB := Lib.hid (HB.out.trans (hb.mono HB.out.size))
            replace HG := Lib.hid (Ni.holds_below HG.out hb)
            replace HA := Lib.hid (Ae.holds_below HA.out hb)
            have hs2 : w.heap.size < w2.heap.size := Nat.lt_of_lt_of_le hs1 hb.size
            clear c0 c1 c2 hb hs1
            obtain ⟨c0, c1, c2⟩ := Bk.three HX.out
            go_wp2
            go_ret
            exact ⟨ret_bool HV.out.symm, HB.out⟩
          · rw [hcred] at HIC
            cases hwant : (decide (0 ≤ want) && decide (want ≤ 7))
            · have HV := Lib.hid (show allowedV (u, g, gl) uid gid mode l want = false by rw [allowedV, argsB, Bool.and_assoc (credB (u, g, gl) && okB l && userB uid && userB gid && modeB mode), hwant, Bool.and_false, Bool.false_and])
              rw [hwant] at HW
              clear huid hgid hmode hacl hcred hwant
              go_enter Try.func16, Try.ntmps16
              go_wp2_with fail
              generalize w.alloc (.cells #[.int .i64 u, .int .i64 g, .slice ga NG gc] 25) = w0 at hx HB HG HA hs0 ⊢
              obtain ⟨c0, c1, c2⟩ := Bk.three hx
              have HX := Lib.hid hx
              clear hx
              go_wp2_with fail
              refine (HU1.out _).mono ?_
              rintro e wq ⟨rfl, rfl⟩
              go_wp2_with fail
              refine (HU2.out _).mono ?_
              rintro e wq ⟨rfl, rfl⟩
              go_wp2_with fail
              refine (HM.out _).mono ?_
              rintro e wq ⟨rfl, rfl⟩
              go_wp2_with fail
              refine (HIA.out _ HA.out).mono ?_
              rintro e w1 ⟨rfl, hb⟩
              replace HX := Lib.hid (HX.out.all hb)
              replace HB := Lib.hid (HB.out.trans (hb.mono HB.out.size))
              replace HG := Lib.hid (Ni.holds_below HG.out hb)
              replace HA := Lib.hid (Ae.holds_below HA.out hb)
              have hs1 : w.heap.size < w1.heap.size := Nat.lt_of_lt_of_le hs0 hb.size
              clear c0 c1 c2 hb hs0
              obtain ⟨c0, c1, c2⟩ := Bk.three HX.out
              go_wp2_with fail
              refine (HIC.out _ HG.out).mono ?_
              rintro e w2 ⟨rfl, hb⟩
              replace HX := Lib.hid (HX.out.all hb)
              replace HB := Lib.hid (HB.out.trans (hb.mono HB.out.size))
              replace HG := Lib.hid (Ni.holds_below HG.out hb)
              replace HA := Lib.hid (Ae.holds_below HA.out hb)
              have hs2 : w.heap.size < w2.heap.size := Nat.lt_of_lt_of_le hs1 hb.size
              clear c0 c1 c2 hb hs1
              obtain ⟨c0, c1, c2⟩ := Bk.three HX.out
              go_wp2_with fail
              refine (HW.out _).mono ?_
              rintro e wq ⟨rfl, rfl⟩
              go_wp2
              go_ret
              exact ⟨ret_bool HV.out.symm, HB.out⟩
            · rw [hwant] at HW
              have hw8 : In8 want := by simp only [Bool.and_eq_true, decide_eq_true_eq] at hwant; exact hwant
              have HV := Lib.hid (show allowedV (u, g, gl) uid gid mode l want = decideV (u, g, gl) uid gid mode l want by rw [allowedV, argsB, Bool.and_assoc (credB (u, g, gl) && okB l && userB uid && userB gid && modeB mode), hwant, huid, hgid, hmode, hacl, hcred]; rfl)
              have HW8 := Lib.hid hw8
              have HOK := Lib.hid hacl
              clear huid hgid hmode hacl hcred hwant hw8
              by_cases h0 : u = 0
              · have HV2 := Lib.hid (show decideV (u, g, gl) uid gid mode l want = true by rw [decideV, if_pos h0])
                subst h0
                go_enter Try.func16, Try.ntmps16
                go_wp2_with fail
                generalize w.alloc (.cells #[.int .i64 0, .int .i64 g, .slice ga NG gc] 25) = w0 at hx HB HG HA hs0 ⊢
                obtain ⟨c0, c1, c2⟩ := Bk.three hx
                have HX := Lib.hid hx
                clear hx
                go_wp2_with fail
                refine (HU1.out _).mono ?_
                rintro e wq ⟨rfl, rfl⟩
                go_wp2_with fail
                refine (HU2.out _).mono ?_
                rintro e wq ⟨rfl, rfl⟩
                go_wp2_with fail
                refine (HM.out _).mono ?_
                rintro e wq ⟨rfl, rfl⟩
                go_wp2_with fail
                refine (HIA.out _ HA.out).mono ?_
                rintro e w1 ⟨rfl, hb⟩
                replace HX := Lib.hid (HX.out.all hb)
                replace HB := Lib.hid (HB.out.trans (hb.mono HB.out.size))
                replace HG := Lib.hid (Ni.holds_below HG.out hb)
                replace HA := Lib.hid (Ae.holds_below HA.out hb)
                have hs1 : w.heap.size < w1.heap.size := Nat.lt_of_lt_of_le hs0 hb.size
                clear c0 c1 c2 hb hs0
                obtain ⟨c0, c1, c2⟩ := Bk.three HX.out
                go_wp2_with fail
                refine (HIC.out _ HG.out).mono ?_
                rintro e w2 ⟨rfl, hb⟩
                replace HX := Lib.hid (HX.out.all hb)
                replace HB := Lib.hid (HB.out.trans (hb.mono HB.out.size))
                replace HG := Lib.hid (Ni.holds_below HG.out hb)
                replace HA := Lib.hid (Ae.holds_below HA.out hb)
                have hs2 : w.heap.size < w2.heap.size := Nat.lt_of_lt_of_le hs1 hb.size
                clear c0 c1 c2 hb hs1
                obtain ⟨c0, c1, c2⟩ := Bk.three HX.out
                go_wp2_with fail
                refine (HW.out _).mono ?_
                rintro e wq ⟨rfl, rfl⟩
                go_wp2
                go_ret
                exact ⟨ret_bool (by rw [HV.out, HV2.out]), HB.out⟩
              · by_cases h1 : u = uid
                · have HV2 := Lib.hid (show decideV (u, g, gl) uid gid mode l want = covB (permOfV mode 0) want by rw [decideV, if_neg h0, if_pos h1])
                  have HC0 := Lib.hid (fun W => class_any mode 0 W)
                  have HI0 := Lib.hid (fun W => Pm.isin_any want (permOfV mode 0) W HW8.out (permOf_range _ _))
                  have hu0 : (u == 0) = false := beq_eq_false_iff_ne.2 h0
                  generalize permOfV mode 0 = p0 at HV2 HC0 HI0
                  subst h1
                  clear h0
                  go_enter Try.func16, Try.ntmps16
                  go_wp2_with fail
                  generalize w.alloc (.cells #[.int .i64 u, .int .i64 g, .slice ga NG gc] 25) = w0 at hx HB HG HA hs0 ⊢
                  obtain ⟨c0, c1, c2⟩ := Bk.three hx
                  have HX := Lib.hid hx
                  clear hx
                  go_wp2_with fail
                  refine (HU1.out _).mono ?_
                  rintro e wq ⟨rfl, rfl⟩
                  go_wp2_with fail
                  refine (HU2.out _).mono ?_
                  rintro e wq ⟨rfl, rfl⟩
                  go_wp2_with fail
                  refine (HM.out _).mono ?_
                  rintro e wq ⟨rfl, rfl⟩
                  go_wp2_with fail
                  refine (HIA.out _ HA.out).mono ?_
                  rintro e w1 ⟨rfl, hb⟩
                  replace HX := Lib.hid (HX.out.all hb)
                  replace HB := Lib.hid (HB.out.trans (hb.mono HB.out.size))
                  replace HG := Lib.hid (Ni.holds_below HG.out hb)
                  replace HA := Lib.hid (Ae.holds_below HA.out hb)
                  have hs1 : w.heap.size < w1.heap.size := Nat.lt_of_lt_of_le hs0 hb.size
                  clear c0 c1 c2 hb hs0
                  obtain ⟨c0, c1, c2⟩ := Bk.three HX.out
                  go_wp2_with fail
                  refine (HIC.out _ HG.out).mono ?_
                  rintro e w2 ⟨rfl, hb⟩
                  replace HX := Lib.hid (HX.out.all hb)
                  replace HB := Lib.hid (HB.out.trans (hb.mono HB.out.size))
                  replace HG := Lib.hid (Ni.holds_below HG.out hb)
                  replace HA := Lib.hid (Ae.holds_below HA.out hb)
                  have hs2 : w.heap.size < w2.heap.size := Nat.lt_of_lt_of_le hs1 hb.size
                  clear c0 c1 c2 hb hs1
                  obtain ⟨c0, c1, c2⟩ := Bk.three HX.out
                  go_wp2_with fail
                  refine (HW.out _).mono ?_
                  rintro e wq ⟨rfl, rfl⟩
                  go_wp2_with fail
                  refine (HC0.out _).mono ?_
                  rintro e wq ⟨rfl, rfl⟩
                  go_wp2_with fail
                  refine (HI0.out _).mono ?_
                  rintro e wq ⟨rfl, rfl⟩
                  go_wp2
                  go_ret
                  exact ⟨ret_bool (by rw [HV.out, HV2.out]), HB.out⟩
                · have HD := Lib.hid (decide_masked (c := (u, g, gl)) (uid := uid) (gid := gid) (mode := mode) (l := l) (want := want) HOK.out HW8.out h0 h1)
                  have HIN := Lib.hid (maskL_in (c := (u, g, gl)) (gid := gid) (mode := mode) (l := l) HOK.out)
                  have hu0 : (u == 0) = false := beq_eq_false_iff_ne.2 h0
                  have hu1 : (u == uid) = false := beq_eq_false_iff_ne.2 h1
                  clear h0 h1
                  generalize maskL (u, g, gl) gid mode l = ml at HD HIN HMP HML
                  by_cases hml : ml = []
                  · subst hml
                    rw [if_pos rfl] at HD
                    have HC2 := Lib.hid (fun W => class_any mode 2 W)
                    have HI2 := Lib.hid (fun W => Pm.isin_any want (permOfV mode 2) W HW8.out (permOf_range _ _))
                    generalize permOfV mode 2 = p2 at HD HC2 HI2
                    go_enter Try.func16, Try.ntmps16
                    go_wp2_with fail
                    generalize w.alloc (.cells #[.int .i64 u, .int .i64 g, .slice ga NG gc] 25) = w0 at hx HB HG HA hs0 ⊢
                    obtain ⟨c0, c1, c2⟩ := Bk.three hx
                    have HX := Lib.hid hx
                    clear hx
                    go_wp2_with fail
                    refine (HU1.out _).mono ?_
                    rintro e wq ⟨rfl, rfl⟩
                    go_wp2_with fail
                    refine (HU2.out _).mono ?_
                    rintro e wq ⟨rfl, rfl⟩
                    go_wp2_with fail
                    refine (HM.out _).mono ?_
                    rintro e wq ⟨rfl, rfl⟩
                    go_wp2_with fail
                    refine (HIA.out _ HA.out).mono ?_
                    rintro e w1 ⟨rfl, hb⟩
                    replace HX := Lib.hid (HX.out.all hb)
                    replace HB := Lib.hid (HB.out.trans (hb.mono HB.out.size))
                    replace HG := Lib.hid (Ni.holds_below HG.out hb)
                    replace HA := Lib.hid (Ae.holds_below HA.out hb)
                    have hs1 : w.heap.size < w1.heap.size := Nat.lt_of_lt_of_le hs0 hb.size
                    clear c0 c1 c2 hb hs0
                    obtain ⟨c0, c1, c2⟩ := Bk.three HX.out
                    go_wp2_with fail
                    refine (HIC.out _ HG.out).mono ?_
                    rintro e w2 ⟨rfl, hb⟩
                    replace HX := Lib.hid (HX.out.all hb)
                    replace HB := Lib.hid (HB.out.trans (hb.mono HB.out.size))
                    replace HG := Lib.hid (Ni.holds_below HG.out hb)
                    replace HA := Lib.hid (Ae.holds_below HA.out hb)
                    have hs2 : w.heap.size < w2.heap.size := Nat.lt_of_lt_of_le hs1 hb.size
                    clear c0 c1 c2 hb hs1
                    obtain ⟨c0, c1, c2⟩ := Bk.three HX.out
                    go_wp2_with fail
                    refine (HW.out _).mono ?_
                    rintro e wq ⟨rfl, rfl⟩
                    go_wp2_with fail
                    refine (HMP.out _ HG.out HA.out).mono ?_
                    rintro e w3 ⟨mv, rfl, hown, hb⟩
                    obtain ⟨ma, mc, rfl⟩ := Dk.slice_of hown
                    clear hown
                    simp only [List.length_nil]
                    replace HX := Lib.hid (HX.out.all hb)
                    replace HB := Lib.hid (HB.out.trans (hb.mono HB.out.size))
                    replace HG := Lib.hid (Ni.holds_below HG.out hb)
                    replace HA := Lib.hid (Ae.holds_below HA.out hb)
                    have hs3 : w.heap.size < w3.heap.size := Nat.lt_of_lt_of_le hs2 hb.size
                    clear c0 c1 c2 hb hs2
                    obtain ⟨c0, c1, c2⟩ := Bk.three HX.out
                    go_wp2_with fail
                    refine (HC2.out _).mono ?_
                    rintro e wq ⟨rfl, rfl⟩
                    go_wp2_with fail
                    refine (HI2.out _).mono ?_
                    rintro e wq ⟨rfl, rfl⟩
                    go_wp2
                    go_ret
                    exact ⟨ret_bool (by rw [HV.out, HD.out]), HB.out⟩
                  · rw [if_neg hml] at HD
                    have hpos : 0 < ml.length := List.length_pos_iff.2 hml
                    have HI3 := Lib.hid (fun W => Pm.isin_any want (maskV l) W HW8.out (mask_in HOK.out))
                    have HON := Lib.hid (fun W v h => oneof_any W v ml want (by have := HML.out; omega) HW8.out HIN.out h)
                    obtain ⟨NM, hNM⟩ : ∃ NM, NM = ml.length := ⟨_, rfl⟩
                    have HNM := Lib.hid hNM
                    rw [← hNM] at hpos
                    have hne : (0 : Int) < (NM : Int) := by omega
                    clear hml hNM
                    generalize maskV l = mk at HD HI3 HMA
                    cases hcv : covB mk want
                    · rw [hcv] at HI3
                      rw [hcv, Bool.false_and] at HD
                      clear hcv
                      go_enter Try.func16, Try.ntmps16
                      go_wp2_with fail
                      generalize w.alloc (.cells #[.int .i64 u, .int .i64 g, .slice ga NG gc] 25) = w0 at hx HB HG HA hs0 ⊢
                      obtain ⟨c0, c1, c2⟩ := Bk.three hx
                      have HX := Lib.hid hx
                      clear hx
                      go_wp2_with fail
                      refine (HU1.out _).mono ?_
                      rintro e wq ⟨rfl, rfl⟩
                      go_wp2_with fail
                      refine (HU2.out _).mono ?_
                      rintro e wq ⟨rfl, rfl⟩
                      go_wp2_with fail
                      refine (HM.out _).mono ?_
                      rintro e wq ⟨rfl, rfl⟩
                      go_wp2_with fail
                      refine (HIA.out _ HA.out).mono ?_
                      rintro e w1 ⟨rfl, hb⟩
                      replace HX := Lib.hid (HX.out.all hb)
                      replace HB := Lib.hid (HB.out.trans (hb.mono HB.out.size))
                      replace HG := Lib.hid (Ni.holds_below HG.out hb)
                      replace HA := Lib.hid (Ae.holds_below HA.out hb)
                      have hs1 : w.heap.size < w1.heap.size := Nat.lt_of_lt_of_le hs0 hb.size
                      clear c0 c1 c2 hb hs0
                      obtain ⟨c0, c1, c2⟩ := Bk.three HX.out
                      go_wp2_with fail
                      refine (HIC.out _ HG.out).mono ?_
                      rintro e w2 ⟨rfl, hb⟩
                      replace HX := Lib.hid (HX.out.all hb)
                      replace HB := Lib.hid (HB.out.trans (hb.mono HB.out.size))
                      replace HG := Lib.hid (Ni.holds_below HG.out hb)
                      replace HA := Lib.hid (Ae.holds_below HA.out hb)
                      have hs2 : w.heap.size < w2.heap.size := Nat.lt_of_lt_of_le hs1 hb.size
                      clear c0 c1 c2 hb hs1
                      obtain ⟨c0, c1, c2⟩ := Bk.three HX.out
                      go_wp2_with fail
                      refine (HW.out _).mono ?_
                      rintro e wq ⟨rfl, rfl⟩
                      go_wp2_with fail
                      refine (HMP.out _ HG.out HA.out).mono ?_
                      rintro e w3 ⟨mv, rfl, hown, hb⟩
                      have HOL := Lib.hid (Ni.holds_of_own (bs := ml) hown)
                      obtain ⟨ma, mc, rfl⟩ := Dk.slice_of hown
                      clear hown
                      rw [← HNM.out] at HOL ⊢
                      replace HX := Lib.hid (HX.out.all hb)
                      replace HB := Lib.hid (HB.out.trans (hb.mono HB.out.size))
                      replace HG := Lib.hid (Ni.holds_below HG.out hb)
                      replace HA := Lib.hid (Ae.holds_below HA.out hb)
                      have hs3 : w.heap.size < w3.heap.size := Nat.lt_of_lt_of_le hs2 hb.size
                      clear c0 c1 c2 hb hs2
                      obtain ⟨c0, c1, c2⟩ := Bk.three HX.out
                      go_wp2_with fail
                      refine (HMA.out _ HA.out).mono ?_
                      rintro e w4 ⟨rfl, hb⟩
                      replace HX := Lib.hid (HX.out.all hb)
                      replace HB := Lib.hid (HB.out.trans (hb.mono HB.out.size))
                      replace HG := Lib.hid (Ni.holds_below HG.out hb)
                      replace HA := Lib.hid (Ae.holds_below HA.out hb)
                      have hs4 : w.heap.size < w4.heap.size := Nat.lt_of_lt_of_le hs3 hb.size
                      replace HOL := Lib.hid (Ni.holds_below HOL.out hb)
                      clear c0 c1 c2 hb hs3
                      obtain ⟨c0, c1, c2⟩ := Bk.three HX.out
                      go_wp2_with fail
                      refine (HI3.out _).mono ?_
                      rintro e wq ⟨rfl, rfl⟩
                      go_wp2
                      go_ret
                      exact ⟨ret_bool (by rw [HV.out, HD.out]), HB.out⟩
                    · rw [hcv] at HI3
                      rw [hcv, Bool.true_and] at HD
                      clear hcv
                      go_enter Try.func16, Try.ntmps16
                      go_wp2_with fail
                      generalize w.alloc (.cells #[.int .i64 u, .int .i64 g, .slice ga NG gc] 25) = w0 at hx HB HG HA hs0 ⊢
                      obtain ⟨c0, c1, c2⟩ := Bk.three hx
                      have HX := Lib.hid hx
                      clear hx
                      go_wp2_with fail
                      refine (HU1.out _).mono ?_
                      rintro e wq ⟨rfl, rfl⟩
                      go_wp2_with fail
                      refine (HU2.out _).mono ?_
                      rintro e wq ⟨rfl, rfl⟩
                      go_wp2_with fail
                      refine (HM.out _).mono ?_
                      rintro e wq ⟨rfl, rfl⟩
                      go_wp2_with fail
                      refine (HIA.out _ HA.out).mono ?_
                      rintro e w1 ⟨rfl, hb⟩
                      replace HX := Lib.hid (HX.out.all hb)
                      replace HB := Lib.hid (HB.out.trans (hb.mono HB.out.size))
                      replace HG := Lib.hid (Ni.holds_below HG.out hb)
                      replace HA := Lib.hid (Ae.holds_below HA.out hb)
                      have hs1 : w.heap.size < w1.heap.size := Nat.lt_of_lt_of_le hs0 hb.size
                      clear c0 c1 c2 hb hs0
                      obtain ⟨c0, c1, c2⟩ := Bk.three HX.out
                      go_wp2_with fail
                      refine (HIC.out _ HG.out).mono ?_
                      rintro e w2 ⟨rfl, hb⟩
                      replace HX := Lib.hid (HX.out.all hb)
                      replace HB := Lib.hid (HB.out.trans (hb.mono HB.out.size))
                      replace HG := Lib.hid (Ni.holds_below HG.out hb)
                      replace HA := Lib.hid (Ae.holds_below HA.out hb)
                      have hs2 : w.heap.size < w2.heap.size := Nat.lt_of_lt_of_le hs1 hb.size
                      clear c0 c1 c2 hb hs1
                      obtain ⟨c0, c1, c2⟩ := Bk.three HX.out
                      go_wp2_with fail
                      refine (HW.out _).mono ?_
                      rintro e wq ⟨rfl, rfl⟩
                      go_wp2_with fail
                      refine (HMP.out _ HG.out HA.out).mono ?_
                      rintro e w3 ⟨mv, rfl, hown, hb⟩
                      have HOL := Lib.hid (Ni.holds_of_own (bs := ml) hown)
                      obtain ⟨ma, mc, rfl⟩ := Dk.slice_of hown
                      clear hown
                      rw [← HNM.out] at HOL ⊢
                      replace HX := Lib.hid (HX.out.all hb)
                      replace HB := Lib.hid (HB.out.trans (hb.mono HB.out.size))
                      replace HG := Lib.hid (Ni.holds_below HG.out hb)
                      replace HA := Lib.hid (Ae.holds_below HA.out hb)
                      have hs3 : w.heap.size < w3.heap.size := Nat.lt_of_lt_of_le hs2 hb.size
                      clear c0 c1 c2 hb hs2
                      obtain ⟨c0, c1, c2⟩ := Bk.three HX.out
                      go_wp2_with fail
                      refine (HMA.out _ HA.out).mono ?_
                      rintro e w4 ⟨rfl, hb⟩
                      replace HX := Lib.hid (HX.out.all hb)
                      replace HB := Lib.hid (HB.out.trans (hb.mono HB.out.size))
                      replace HG := Lib.hid (Ni.holds_below HG.out hb)
                      replace HA := Lib.hid (Ae.holds_below HA.out hb)
                      have hs4 : w.heap.size < w4.heap.size := Nat.lt_of_lt_of_le hs3 hb.size
                      replace HOL := Lib.hid (Ni.holds_below HOL.out hb)
                      clear c0 c1 c2 hb hs3
                      obtain ⟨c0, c1, c2⟩ := Bk.three HX.out
                      go_wp2_with fail
                      refine (HI3.out _).mono ?_
                      rintro e wq ⟨rfl, rfl⟩
                      go_wp2_with fail
                      refine (HON.out _ _ HOL.out).mono ?_
                      rintro e wq ⟨rfl, rfl⟩
                      go_wp2
                      go_ret
                      exact ⟨ret_bool (by rw [HV.out, HD.out]), HB.out⟩
end Go.Proofs.Ytjdehgadfjopiaa.Aw
