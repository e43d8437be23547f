/- Proved: for every drawn code, the law FnAcls returns true: a valid access list is recovered from its text and from its bytes, and every entry's perm is found in it. Condition: the library's table of powers of ten and its two sentinel errors read as their initialisers lay them (the card ties that to the program's text). -/
import Derived.Test.YtgilmmofbpembaaDoorADraw
import Derived.Test.YtgilmmofbpembaaDoorAclZ
import Derived.Test.YtgilmmofbpembaaDoorCode
import Derived.Test.YtgilmmofbpembaaDoorFam
import Derived.Test.YtgilmmofbpembaaDoorCards
import Derived.Test.YtgilmmofbpembaaDoorTie
import Derived.SevenTiedAt
namespace Go.Proofs.YtgilmmofbpembaaDoor.FnAcls
open Go.ChangeShapes Go.WideShapes Go.ChangeAt Go.RowKit
open Cur AclV AclY ADraw
open AclB (cells_new)
open AclU (resR)
set_option linter.unusedVariables false

theorem text_back {l : List At} (h : okB l = true) : resR (parseV (formatV l)) = (l, true) := by rw [parse_of h]; rfl
theorem bytes_back {l : List At} (h : okB l = true) : resR (unpackV (packV l)) = (l, true) := by rw [unpack_of h]; rfl
theorem format_size {l : List At} (h : okB l = true) : (formatV l).size ≤ 1048576 := by
  have h6 := ok_len h
  unfold formatV
  rw [if_pos h]
  by_cases hl : l = []
  · rw [if_pos hl]; decide
  · rw [if_neg hl]
    have := fmtL_len l hl
    show (fmtL l).toArray.size ≤ _
    rw [List.size_toArray]; omega

set_option maxRecDepth 100000 in
set_option maxHeartbeats 4000000 in
theorem law_any (cv : Value) (ns : List Nat) (w : World) (hc : CodeIn w w.heap.size cv ns) (hv : Vars w) :
    Calls Tryd.prog 3 #[cv] w fun e w' => e = .returned (.bool true) ∧ Below w.heap.size w w' := by
  have HV := Lib.hid hv
  have HMK := Lib.hid (make_any w cv ns 1 (by omega) hc)
  obtain ⟨a, cap, rfl⟩ : ∃ a cap, cv = .slice a ns.length cap := ⟨_, _, hc.choose_spec.choose_spec.1⟩
  have hlen := hc.choose_spec.choose_spec.2.1
  have hl2 : ¬ (1048576 : Int) < (ns.length : Int) := by omega
  clear hc hv
  go_enter Tryd.func3, Tryd.ntmps3
  go_wp2_with fail
  refine HMK.out.mono ?_
  rintro e w1 ⟨v, l, rfl, hok, hown, hb⟩
  have HB := Lib.hid hb
  have HO := Lib.hid hown
  have HL := Lib.hid (Ae.holds_of_own hown)
  have h6 := ok_len hok
  have h30 : l.length ≤ 1073741824 := by omega
  have HT := Lib.hid (text_back hok)
  have HBY := Lib.hid (bytes_back hok)
  have HFS := Lib.hid (format_size hok)
  have hps : (packV l).size ≤ 1048576 := by rw [pack_size hok]; omega
  have HPS := Lib.hid hps
  have HOK := Lib.hid hok
  have HFM := Lib.hid (fun (W : World) (u : Value) (h : Ae.Holds W u l) => AclF.impl_any W u l h30 h)
  obtain ⟨va, vc, rfl⟩ := Dk.slice_of hown
  clear hown hb hps HMK
  go_wp2_with fail
  refine (HFM.out _ _ HL.out).mono ?_
  rintro e w2 ⟨rfl, hb⟩
  replace HL := Lib.hid (Ae.holds_below HL.out hb)
  replace HO := Lib.hid (Strs.own_below HO.out hb)
  replace HB := Lib.hid (HB.out.trans (hb.mono HB.out.size))
  clear hb
  go_wp2_with fail
  refine (AclX.impl_any (formatV l) _ HFS.out (HV.out.below HB.out)).mono ?_
  rw [HT.out]
  rintro e w3 ⟨av, rfl, hown, hb⟩
  have HA := Lib.hid (Ae.holds_of_own hown)
  replace HL := Lib.hid (Ae.holds_below HL.out hb)
  replace HO := Lib.hid (Strs.own_below HO.out hb)
  replace HB := Lib.hid (HB.out.trans (hb.mono HB.out.size))
  clear hb hown
  go_wp2_with fail
  refine (AclK.impl_any _ _ l h30 HL.out).mono ?_
  rintro e w4 ⟨rfl, hb⟩
  replace HL := Lib.hid (Ae.holds_below HL.out hb)
  replace HA := Lib.hid (Ae.holds_below HA.out hb)
  replace HO := Lib.hid (Strs.own_below HO.out hb)
  replace HB := Lib.hid (HB.out.trans (hb.mono HB.out.size))
  clear hb
  go_wp2_with fail
  refine (AclU.impl_any (packV l) _ HPS.out).mono ?_
  rw [HBY.out]
  rintro e w5 ⟨bv, rfl, hown, hb⟩
  have HBB := Lib.hid (Ae.holds_of_own hown)
  replace HL := Lib.hid (Ae.holds_below HL.out hb)
  replace HA := Lib.hid (Ae.holds_below HA.out hb)
  replace HO := Lib.hid (Strs.own_below HO.out hb)
  replace HB := Lib.hid (HB.out.trans (hb.mono HB.out.size))
  clear hb hown
  dsimp only
  go_wp2_with fail
  refine (AclI.impl_any _ _ l h30 HL.out).mono ?_
  rw [HOK.out]
  rintro e w6 ⟨rfl, hb⟩
  replace HL := Lib.hid (Ae.holds_below HL.out hb)
  replace HA := Lib.hid (Ae.holds_below HA.out hb)
  replace HBB := Lib.hid (Ae.holds_below HBB.out hb)
  replace HO := Lib.hid (Strs.own_below HO.out hb)
  replace HB := Lib.hid (HB.out.trans (hb.mono HB.out.size))
  clear hb
  generalize formatV l = FT at HFM ⊢
  go_wp2_with fail
  refine (HFM.out _ _ HA.out).mono ?_
  rintro e w7 ⟨rfl, hb⟩
  replace HL := Lib.hid (Ae.holds_below HL.out hb)
  replace HA := Lib.hid (Ae.holds_below HA.out hb)
  replace HBB := Lib.hid (Ae.holds_below HBB.out hb)
  replace HO := Lib.hid (Strs.own_below HO.out hb)
  replace HB := Lib.hid (HB.out.trans (hb.mono HB.out.size))
  clear hb
  go_wp2_with fail
  refine (HFM.out _ _ HL.out).mono ?_
  rintro e w8 ⟨rfl, hb⟩
  replace HL := Lib.hid (Ae.holds_below HL.out hb)
  replace HA := Lib.hid (Ae.holds_below HA.out hb)
  replace HBB := Lib.hid (Ae.holds_below HBB.out hb)
  replace HO := Lib.hid (Strs.own_below HO.out hb)
  replace HB := Lib.hid (HB.out.trans (hb.mono HB.out.size))
  clear hb
  go_wp2_with fail
  refine (HFM.out _ _ HBB.out).mono ?_
  rintro e w9 ⟨rfl, hb⟩
  replace HL := Lib.hid (Ae.holds_below HL.out hb)
  replace HA := Lib.hid (Ae.holds_below HA.out hb)
  replace HBB := Lib.hid (Ae.holds_below HBB.out hb)
  replace HO := Lib.hid (Strs.own_below HO.out hb)
  replace HB := Lib.hid (HB.out.trans (hb.mono HB.out.size))
  clear hb
  go_wp2_with fail
  refine (HFM.out _ _ HL.out).mono ?_
  rintro e w10 ⟨rfl, hb⟩
  replace HL := Lib.hid (Ae.holds_below HL.out hb)
  replace HA := Lib.hid (Ae.holds_below HA.out hb)
  replace HBB := Lib.hid (Ae.holds_below HBB.out hb)
  replace HO := Lib.hid (Strs.own_below HO.out hb)
  replace HB := Lib.hid (HB.out.trans (hb.mono HB.out.size))
  clear hb
  clear HA HBB HFM
  obtain ⟨N, hN⟩ : ∃ N, N = l.length := ⟨_, rfl⟩
  have HN := Lib.hid hN
  rw [← hN] at h6 ⊢
  clear hN
  obtain ⟨va2, vc2, hve, hat⟩ := Ae.atL HL.out
  rw [← HN.out] at hve
  obtain ⟨e1, e2⟩ : va = va2 ∧ vc = vc2 := by simpa using hve
  subst e1
  subst e2
  have HAT := Lib.hid hat
  clear hat hve
  go_wp2_with fail
  go_loopw [56] (fun iv wr => ∃ k : Nat, k ≤ N ∧ iv = .int .i64 k ∧ Below w10.heap.size w10 wr) (fun iv _ => N - (intOf iv).toNat)
  case atStart => exact ⟨0, Nat.zero_le _, rfl, Below.refl _ _⟩
  case round =>
    obtain ⟨k, hk, rfl, hbel⟩ := hrel
    have HBEL := Lib.hid hbel
    have hsz := hbel.size
    clear hbel
    by_cases hlt : k < N
    · have hlx : k < l.length := by rw [← HN.out]; exact hlt
      have HLR := Lib.hid (Ae.holds_below HL.out HBEL.out)
      obtain ⟨b, o, rfl, hb, g0, g1, g2⟩ := HAT.out k hlx
      rw [← HBEL.out.cell (p := ⟨b, _, none⟩) hb] at g0 g1 g2
      have HPM := Lib.hid (perm_ok HOK.out hlx)
      generalize l.getD k a0 = x at g0 g1 g2 HPM
      obtain ⟨n0, n1, n2⟩ := x
      dsimp only at g0 g1 g2 HPM
      have hperm := fun (W : World) (h : Ae.Holds W (.slice (some ⟨b, o, none⟩) l.length vc) l) => AclQ.perm_impl W _ l n0 n1 h30 h
      rw [HPM.out, ← HN.out] at hperm
      have HPE := Lib.hid hperm
      rw [← HN.out] at HLR
      clear hperm
      have HB2 := Lib.hid (HBEL.out.alloc hsz (.cells #[.int .i64 n0, .int .i64 n1, .int .i64 n2] 30))
      have HLA := Lib.hid (Ae.holds_below HLR.out ((Below.refl wr.heap.size wr).alloc (Nat.le_refl _) (.cells #[.int .i64 n0, .int .i64 n1, .int .i64 n2] 30)))
      have y2 := cells_new wr #[.int .i64 n0, .int .i64 n1, .int .i64 n2] 30 2 _ rfl
      go_wp2_with fail
      refine (HPE.out _ HLA.out).mono ?_
      rintro e w11 ⟨rfl, hb1⟩
      have q2 := (hb1.cell (p := ⟨wr.heap.size, 2, none⟩) (by simp)).trans y2
      have HB3 := Lib.hid (HB2.out.trans (hb1.mono HB2.out.size))
      clear hb1 y2
      dsimp only [AclQ.res]
      go_wp2
      go_roundw
      case rel => exact ⟨k + 1, by omega, by go_num, HB3.out⟩
      case measure => simp [intOf]; omega
    · obtain rfl : k = N := by omega
      have HLR := Lib.hid (Ae.holds_below HL.out HBEL.out)
      have HBR := Lib.hid (HB.out.trans (HBEL.out.mono HB.out.size))
      by_cases hz : k = 0
      · subst hz
        go_wp2
        refine Fam.region (by kernel_rfl) (by kernel_rfl) ?_
        repeat (go_big_quiet_step (fail))
        refine wpQuiet_nil ?_
        intro _ hw'
        obtain ⟨nq, hw''⟩ := hw'
        subst hw''
        have hbq := Fam.wld_below wr nq
        generalize Fam.wld wr nq = w12 at hbq ⊢
        go_wp2
        go_ret
        exact ⟨rfl, HBR.out.trans (hbq.mono HBR.out.size)⟩
      · obtain ⟨p, rfl⟩ : ∃ p, k = p + 1 := ⟨k - 1, by omega⟩
        obtain ⟨b, o, rfl, hb, g0, g1, g2⟩ := HAT.out p (by rw [← HN.out]; omega)
        rw [← HBEL.out.cell (p := ⟨b, _, none⟩) hb] at g0 g1 g2
        have hmk := mask_ok HOK.out HN.out.symm
        have hne : (((p + 1 : Nat) : Int) == 0) = false := beq_eq_false_iff_ne.2 (by omega)
        have hne2 : ((p : Int) + 1 == 0) = false := beq_eq_false_iff_ne.2 (by omega)
        have hblt : b < wr.heap.size := Nat.lt_of_lt_of_le hb hsz
        have hma := fun (n : Fam.Ix wr) => AclQ.mask_impl (Fam.wld wr n) _ l h30 (Ae.holds_below HLR.out (Fam.wld_below wr n))
        rw [hmk, ← HN.out] at hma
        generalize l.getD p a0 = x at g0 g1 g2 hma
        obtain ⟨n0, n1, n2⟩ := x
        dsimp only at g0 g1 g2 hma
        have HMA := Lib.hid hma
        clear hma hmk
        have z2 := Fam.cell (W := wr) (p := ⟨b, o + p * 3 + 2, none⟩) hblt g2
        go_wp2
        refine Fam.region (by kernel_rfl) (by kernel_rfl) ?_
        repeat (go_big_quiet_step (first | (go_at_call 13; with_reducible refine Fam.calls (HMA.out _))))
        refine wpQuiet_nil ?_
        intro _ hw'
        obtain ⟨nq, hw''⟩ := hw'
        subst hw''
        have hbq := Fam.wld_below wr nq
        generalize Fam.wld wr nq = w12 at hbq ⊢
        go_wp2
        go_ret
        exact ⟨by simp, HBR.out.trans (hbq.mono HBR.out.size)⟩
theorem law_big (a0 : Option Addr) (len0 cap0 : Nat) (w : World) (h : 1048576 < len0) :
    Calls Tryd.prog 3 #[.slice a0 len0 cap0] w fun e w' => e = .returned (.bool true) ∧ Below w.heap.size w w' := by
  have h2 : (1048576 : Int) < (len0 : Int) := by omega
  go_enter Tryd.func3, Tryd.ntmps3
  go_wp2_with fail
  go_ret
  exact ⟨rfl, Below.refl _ _⟩

set_option maxRecDepth 100000 in
theorem lifted (os : Os) (started : os.Started) (H : Type) (enc : TypeId × Value → H) :
    ReturnsInHanded {} Tryd.checked os 3 .any (fun w args => (Rows.fnAclsSpec.pre enc Tryd.prog Tryd.f3 [] false w args ∧ laidMetH Tryd.prog Rows.fnAclsRow.laid w) ∧ sizedMet enc Tryd.prog Tryd.f3 (OpenSpec.ofChange Rows.fnAclsSpec) false w args)
      (Rows.fnAclsSpec.post enc Tryd.prog Tryd.f3 false true false false) := by
  refine returnsInHanded_of_change_and (C := Tryd.checked) (X := fun w _ => laidMetH Tryd.prog Rows.fnAclsRow.laid w) (fun _ _ _ hh h => h.of_heap hh) Kit.own started (by kernel_rfl) Tryd.func3
    (ChangeSpec.witness_shaped (enc := enc) (C := Tryd.checked) (os := os) (X := fun w _ => laidMetH Tryd.prog Rows.fnAclsRow.laid w) false (World.doorLaid Tryd.prog 400 os) #[.slice none 0 0] 8 rfl (World.shaped_of_RefB (by kernel_rfl) (by kernel_rfl)) (by kernel_rfl) (by kernel_rfl) (by kernel_rfl) (Laid.door5 os _)) ?_
  intro W base args ds gs before hval0 hW _ _ hL _
  have hval : ∀ (j : Nat) t v, Tryd.f3.params[j]? = some t → args[j]? = some v → Value.okWide Tryd.prog W .any base t v := hval0
  have hW' := hW
  obtain ⟨p, q, hA0, hV, rfl, hfz, hnd⟩ := hW
  have hA : DataW.TrodAll enc Tryd.prog W 0 (fun _ => true) true Tryd.f3.params.toList args.toList ds p := hA0
  rw [Tryd.params3] at hA hval
  obtain ⟨v0, d0, rfl, rfl, h0⟩ := trodAll_one hA
  obtain ⟨a0, len0, cap0, rfl⟩ := okWide_slice Tryd.underlying22 (hval 0 22 v0 rfl rfl)
  have hlaw : Calls Tryd.prog 3 #[.slice a0 len0 cap0] W fun e w' => e = .returned (.bool true) ∧ Below W.heap.size W w' := by
    by_cases hbig : 1048576 < len0
    · exact law_big _ _ _ W hbig
    · obtain ⟨ns, hns, hcode⟩ := Cur.open_code h0 (by omega)
      exact law_any _ ns W hcode (AclZ.vars_of hL)
  refine hlaw.mono fun e W' ⟨he, hbel⟩ => ?_
  subst he
  exact ⟨_, rfl, Kit.law_post Kit.laidOut (by kernel_rfl) Tryd.underlying4 rfl rfl (fun H ds hl => by match ds, hl with | [d], _ => rfl) hW' hbel⟩

theorem said : Rows.FnAclsSaid :=
  OpenClaim.holds_of_wide 3 Tryd.f3 rfl rfl rfl rfl rfl rfl rfl ⟨rfl, rfl, rfl, rfl, rfl⟩ rfl rfl rfl rfl rfl (by kernel_rfl) Tryd.func3 (by kernel_rfl)
    (of_decide_eq_true (by kernel_rfl)) (by unfold Func.isWrapper; first | (rw [if_pos (by decide +kernel)]; kernel_rfl) | (rw [if_neg (by decide +kernel)]; exact ⟨rfl, rfl⟩))
    (fun os started H enc _ => lifted os started H enc)

theorem plain (f : FuncId) (fn : Func) (hf : Tryd.pinned.checked.prog.funcNamed "loop.example/g00817/laws.FnAcls" = some f) (hfn : Tryd.pinned.checked.prog.funcs[f]? = some fn) :
    true = Tryd.pinned.checked.prog.looks [] ∧ ∀ (j : Nat) t, fn.params[j]? = some t → Tryd.pinned.checked.prog.wantsStandIn t = false := by
  obtain rfl : f = 3 := Option.some.inj ((show Tryd.prog.funcNamed "loop.example/g00817/laws.FnAcls" = some 3 by kernel_rfl).symm.trans hf) |>.symm
  obtain rfl : fn = Tryd.f3 := (Option.some.inj (Tryd.func3.symm.trans hfn)).symm
  refine ⟨by kernel_rfl, fun j t ht => ?_⟩
  rw [Tryd.params3] at ht
  obtain rfl : t = 22 := by simpa using Array.mem_of_getElem? ht
  exact (show Tryd.prog.wantsStandIn 22 = false by kernel_rfl)

theorem holds : Rows.FnAclsCardSaid :=
  Claim7.holds_tied_plain_at .later [] _ _ _ _ said (fun _ h => by cases h) (by kernel_rfl) (fun _ h => by cases h) fnAcls_row_tie rfl ⟨rfl, rfl⟩ (by kernel_rfl) rfl plain (by kernel_rfl)
#print axioms holds
end Go.Proofs.YtgilmmofbpembaaDoor.FnAcls

