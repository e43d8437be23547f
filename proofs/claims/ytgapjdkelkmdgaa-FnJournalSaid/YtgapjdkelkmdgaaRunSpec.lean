/- Contracts: the program's RunSteps at a row of the call's own; the model's RunSteps: the disk behind the first steps, in rows of the call's own. Conditions: the lengths. -/
import Derived.Test.YtgapjdkelkmdgaaRunSteps
namespace Go.Proofs.Ytgapjdkelkmdgaa.Run
open Go.ChangeShapes Go.WideShapes Go.ChangeAt Go.RowKit
open Wr (Wt d0)
open Dk (D Holds Ok Own Box RowIn blk_new)
open Txn (St s0 fl stepV runL runV)
open Sp (AtSp scells)
set_option linter.unusedVariables false

set_option maxRecDepth 100000 in
set_option maxHeartbeats 4000000 in
theorem impl_none (w : World) (vs vp : Value) (d : D) (n : Int) (h1 : d.1.length ≤ 1073741824) (h2 : d.2.length ≤ 1073741824) (h : Holds w vs vp d) :
    Calls Try.prog 20 #[.agg #[vs, vp], .slice none 0 0, .int .i64 n] w fun e w' => ∃ us up, e = .returned (.agg #[us, up]) ∧ Own w' w.heap.size w'.heap.size us up d ∧ Below w.heap.size w w' := by
  have H := Lib.hid h
  clear h
  have HB := Lib.hid ((Below.refl w.heap.size w).alloc (Nat.le_refl _) (.cells #[vs, vp] 26) |>.alloc (by simp) (.cells #[.slice none 0 0, .slice none 0 0] 26))
  have BD := Lib.hid (show Box ((w.alloc (.cells #[vs, vp] 26)).alloc (.cells #[.slice none 0 0, .slice none 0 0] 26)) w.heap.size vs vp 26 from Dk.blk_alloc (Dk.blk_new w _) _)
  have BR := Lib.hid (show Box ((w.alloc (.cells #[vs, vp] 26)).alloc (.cells #[.slice none 0 0, .slice none 0 0] 26)) (w.heap.size + 1) (.slice none 0 0) (.slice none 0 0) 26 from by have hk := Dk.blk_new (w.alloc (.cells #[vs, vp] 26)) (.cells #[.slice none 0 0, .slice none 0 0] 26); simp only [World.size_alloc] at hk; exact hk)
  have hs0 : w.heap.size + 1 + 1 ≤ ((w.alloc (.cells #[vs, vp] 26)).alloc (.cells #[.slice none 0 0, .slice none 0 0] 26)).heap.size := by simp
  have HM := Lib.hid (show max 0 (min n 0) = 0 by omega)
  obtain ⟨b0, b1, b2, b3⟩ := Dk.Box.four BD.out
  go_enter Try.func20, Try.ntmps20
  go_wp2_with fail
  generalize (w.alloc (.cells #[vs, vp] 26)).alloc (.cells #[.slice none 0 0, .slice none 0 0] 26) = w0 at HB BD BR hs0 b0 b1 b2 b3 ⊢
  refine (Copy.impl_any w0 vs vp d h1 h2 (H.out.below HB.out)).mono ?_
  rintro e w1 ⟨_, _, rfl, hown, hb⟩
  obtain ⟨⟨ua, un, uc, rfl⟩, ⟨ub, um, ud, rfl⟩⟩ := hown.forms
  have s1 := hb.size
  replace HB := Lib.hid (HB.out.trans (hb.mono HB.out.size))
  replace BD := Lib.hid (Dk.Box.below BD.out hb)
  replace BR := Lib.hid (Dk.Box.below BR.out hb)
  have HO := Lib.hid hown
  clear hown hb b0 b1 b2 b3
  obtain ⟨b0, b1, b2, b3⟩ := Dk.Box.four BD.out
  have HI1 := Lib.hid (Dk.Own.set (i := 1) (u := (.slice ub um ud)) (Dk.Own.set (i := 0) (u := (.slice ua un uc)) HO.out BD.out) (Dk.Box.set0 (u := (.slice ua un uc)) BD.out))
  have HD1 := Lib.hid (Dk.Box.set1 (u := (.slice ub um ud)) (Dk.Box.set0 (u := (.slice ua un uc)) BD.out))
  have HR1 := Lib.hid (Dk.Box.other (i := 1) (u := (.slice ub um ud)) (c := w.heap.size) (Dk.Box.other (i := 0) (u := (.slice ua un uc)) (c := w.heap.size) BR.out (by omega)) (by omega))
  have HB1 := Lib.hid (Dk.below_into (b := w.heap.size) HB.out (Nat.le_refl _) (.slice ua un uc) (.slice ub um ud))
  have HS1 := Lib.hid (show ((w1.setCell ⟨w.heap.size, 0, none⟩ (.slice ua un uc)).setCell ⟨w.heap.size, 1, none⟩ (.slice ub um ud)).heap.size = w1.heap.size by simp only [World.size_setCell])
  go_wp2_with fail
  simp only [HM.out]
  generalize (w1.setCell ⟨w.heap.size, 0, none⟩ (.slice ua un uc)).setCell ⟨w.heap.size, 1, none⟩ (.slice ub um ud) = wi at HI1 HD1 HR1 HB1 HS1 b0 b1 b2 b3 ⊢
  replace HO := Lib.hid (HI1.out.wide (Nat.le_refl _) (show w1.heap.size ≤ wi.heap.size by rw [HS1.out]; exact Nat.le_refl _))
  replace HB := HB1
  replace BR := HR1
  clear b0 b1 b2 b3 HI1 HB1 HR1
  obtain ⟨b0, b1, b2, b3⟩ := Dk.Box.four HD1.out
  refine wp_loop_rounds 1 ?_
  rw [rounds_succ]
  obtain ⟨r0, r1, r2, r3⟩ := Dk.Box.four BR.out
  go_wp2
  obtain ⟨hO, hF, hS⟩ := Dk.Own.into HO.out BR.out
  have hBB := Dk.below_into (b := w.heap.size + 1) HB.out (by omega) (.slice ua un uc) (.slice ub um ud)
  generalize (wi.setCell ⟨w.heap.size + 1, 0, none⟩ (.slice ua un uc)).setCell ⟨w.heap.size + 1, 1, none⟩ (.slice ub um ud) = wf at hO hF hS hBB ⊢
  obtain ⟨c0, c1, _, _⟩ := Dk.Box.four hF
  exact bodyPost_ret (v := .agg #[.slice ua un uc, .slice ub um ud]) (by simp [results, Try.results20, go_sem, c0, c1]) rfl ⟨_, _, rfl, by exact hO.wide (by omega) (by rw [hS]; (try simp only [World.size_alloc]); first | exact Nat.le_refl _ | omega), hBB⟩

/-- The program's RunSteps at a row of the call's own. -/
theorem impl_own (w : World) (vs vp lv : Value) (d : D) (l : List St) (n : Int) (base nn : Nat) (h1 : d.1.length ≤ 1073741824) (h2 : d.2.length ≤ 1073741824) (h3 : l.length ≤ 1073741824) (h4 : ∀ x ∈ l, x.2.2.size ≤ 1073741824) (h : Holds w vs vp d) (hl : w.ownsRow base 88 3 lv nn (scells l)) :
    Calls Try.prog 20 #[.agg #[vs, vp], lv, .int .i64 n] w fun e w' => ∃ us up, e = .returned (.agg #[us, up]) ∧ Own w' w.heap.size w'.heap.size us up (runV d l n) ∧ Below w.heap.size w w' := by
  have hlen := hl.1
  rw [Sp.scells_length] at hlen
  obtain ⟨a, cap, hv, hat⟩ := Sp.atSp (Sp.holds_of_own hl)
  rcases hl.2 with ⟨rfl, h0⟩ | ⟨g, cap', cur, rfl, hb, hg, hnc, hm, hz, htake⟩
  · have hl0 : l = [] := List.eq_nil_of_length_eq_zero (by omega)
    subst hl0
    rw [show runV d [] n = d from by unfold runV; rw [List.take_nil]; rfl]
    exact impl_none w vs vp d n h1 h2 h
  · have hn : nn = l.length := by omega
    subst hn
    have e : a = some ⟨g, 0, none⟩ := by
      have : some (⟨g, 0, none⟩ : Addr) = a ∧ cap' = cap := by simpa using hv
      exact this.1.symm
    subst e
    rcases Int.lt_or_le n 0 with hn | hn
    · have e1 : runV d l n = runL d (l.take 0) := by unfold runV; rw [Int.toNat_of_nonpos (by omega)]
      rw [e1]
      exact impl_some w vs vp d g 0 cap' l n 0 (by omega) (.inr (.inl ⟨hn, rfl⟩)) hnc h1 h2 h3 h4 h hat
    · rcases Int.lt_or_le (l.length : Int) n with hn2 | hn2
      · have e1 : runV d l n = runL d (l.take l.length) := by unfold runV; rw [List.take_of_length_le (by omega), List.take_of_length_le (Nat.le_refl _)]
        rw [e1]
        exact impl_some w vs vp d g 0 cap' l n l.length (Nat.le_refl _) (.inr (.inr ⟨hn2, rfl⟩)) hnc h1 h2 h3 h4 h hat
      · exact impl_some w vs vp d g 0 cap' l n n.toNat (by omega) (.inl ⟨hn, hn2, (Int.toNat_of_nonneg hn).symm⟩) hnc h1 h2 h3 h4 h hat

set_option maxRecDepth 100000 in
set_option maxHeartbeats 8000000 in
theorem spec_any (w : World) (vs vp lv : Value) (d : D) (l : List St) (n : Int) (h1 : d.1.length ≤ 1073741824) (h2 : d.2.length ≤ 1073741824) (h3 : l.length ≤ 1073741824) (h4 : ∀ x ∈ l, x.2.2.size ≤ 1073741824) (h : Holds w vs vp d) (hl : Sp.Holds w lv l) :
    Calls Try.prog 45 #[.agg #[vs, vp], lv, .int .i64 n] w fun e w' => ∃ us up, e = .returned (.agg #[us, up]) ∧ Own w' w.heap.size w'.heap.size us up (runV d l n) ∧ Below w.heap.size w w' := by
  obtain ⟨a, cap, rfl, hat⟩ := Sp.atSp hl
  have H := Lib.hid h
  have HL := Lib.hid hat
  have HSZ := Lib.hid h4
  clear h hl h4 hat
  have HLEN := Lib.hid (fun k => run_len d (l.take k))
  obtain ⟨L, hL⟩ : ∃ L, L = l.length := ⟨_, rfl⟩
  rw [← hL] at h3 ⊢
  have HLL := Lib.hid hL
  clear hL
  have HB := Lib.hid ((Below.refl w.heap.size w).alloc (Nat.le_refl _) (.cells #[vs, vp] 26) |>.alloc (by simp) (.cells #[.slice none 0 0, .slice none 0 0] 26))
  have BD := Lib.hid (show Box ((w.alloc (.cells #[vs, vp] 26)).alloc (.cells #[.slice none 0 0, .slice none 0 0] 26)) w.heap.size vs vp 26 from Dk.blk_alloc (Dk.blk_new w _) _)
  have BR := Lib.hid (show Box ((w.alloc (.cells #[vs, vp] 26)).alloc (.cells #[.slice none 0 0, .slice none 0 0] 26)) (w.heap.size + 1) (.slice none 0 0) (.slice none 0 0) 26 from by have hk := Dk.blk_new (w.alloc (.cells #[vs, vp] 26)) (.cells #[.slice none 0 0, .slice none 0 0] 26); simp only [World.size_alloc] at hk; exact hk)
  have hs0 : w.heap.size + 1 + 1 ≤ ((w.alloc (.cells #[vs, vp] 26)).alloc (.cells #[.slice none 0 0, .slice none 0 0] 26)).heap.size := by simp
  obtain ⟨b0, b1, b2, b3⟩ := Dk.Box.four BD.out
  go_enter Try.func45, Try.ntmps45
  go_wp2_with fail
  generalize (w.alloc (.cells #[vs, vp] 26)).alloc (.cells #[.slice none 0 0, .slice none 0 0] 26) = w0 at HB BD BR hs0 b0 b1 b2 b3 ⊢
  refine (Copy.spec_any w0 vs vp d h1 h2 (H.out.below HB.out)).mono ?_
  rintro e w1 ⟨_, _, rfl, hown, hb⟩
  obtain ⟨⟨ua, un, uc, rfl⟩, ⟨ub, um, ud, rfl⟩⟩ := hown.forms
  have s1 := hb.size
  replace HB := Lib.hid (HB.out.trans (hb.mono HB.out.size))
  replace BR := Lib.hid (Dk.Box.below BR.out hb)
  have HO := Lib.hid (hown.wide hs0 (Nat.le_refl _))
  clear hown hb b0 b1 b2 b3 BD
  have hb := Joins.below_alloc1 w1 (.cells #[.slice ua un uc, .slice ub um ud] 26)
  replace HB := Lib.hid (HB.out.trans (hb.mono HB.out.size))
  replace BR := Lib.hid (Dk.Box.below BR.out hb)
  replace HO := Lib.hid ((Dk.Own.below HO.out hb).wide (Nat.le_refl _) hb.size)
  have BO := Lib.hid (show Box (w1.alloc (.cells #[.slice ua un uc, .slice ub um ud] 26)) w1.heap.size (.slice ua un uc) (.slice ub um ud) 26 from blk_new w1 _)
  clear hb
  go_wp2_with fail
  generalize w1.alloc (.cells #[.slice ua un uc, .slice ub um ud] 26) = wi at HB BR HO BO ⊢
  obtain ⟨B0, hB0⟩ : ∃ B, B = w1.heap.size := ⟨_, rfl⟩
  rw [← hB0] at BO ⊢
  have hB1 : w.heap.size + 1 + 1 ≤ B0 := by omega
  clear hB0
  go_loopw [16] (fun iv wx => ∃ (k : Nat) (us up : Value), k ≤ L ∧ (k : Int) ≤ max n 0 ∧ iv = .int .i64 k ∧ Box wx B0 us up 26 ∧ Box wx (w.heap.size + 1) (.slice none 0 0) (.slice none 0 0) 26 ∧ Own wx (w.heap.size + 1 + 1) wx.heap.size us up (runL d (l.take k)) ∧ Below w.heap.size w wx) (fun iv _ => L - (intOf iv).toNat)
  case atStart => exact ⟨0, _, _, Nat.zero_le _, by omega, rfl, BO.out, BR.out, HO.out, HB.out⟩
  case round =>
    obtain ⟨k, us, up, hk, hkn, rfl, hbd, hbr, hown, hbel⟩ := hrel
    clear HB BO BR HO
    have HB := Lib.hid hbel
    have BO := Lib.hid hbd
    have BR := Lib.hid hbr
    have HO := Lib.hid hown
    have hsz : B0 < wr.heap.size := Dk.Box.lt hbd
    obtain ⟨⟨va, vn, vc, rfl⟩, ⟨vb, vm, vd, rfl⟩⟩ := hown.forms
    clear hbel hbd hbr hown
    obtain ⟨b0, b1, b2, b3⟩ := Dk.Box.four BO.out
    by_cases hlt : k < L
    · have hlx : k < l.length := by rw [← HLL.out]; omega
      obtain ⟨b', o', rfl, hb', hc0, hc1, hc2⟩ := (HL.out.below HB.out) k hlx
      have HSU := Lib.hid (runL_succ d l k hlx)
      have htt : (l.getD k s0).2.2.size ≤ 1073741824 := HSZ.out _ (by rw [List.getD_eq_getElem?_getD, List.getElem?_eq_getElem hlx]; exact List.getElem_mem _)
      generalize l.getD k s0 = x at hc0 hc1 hc2 HSU htt
      obtain ⟨z0, z1, z2⟩ := Sp.three (blk_new wr (.cells #[.bool x.1, .int .i64 x.2.1, .string x.2.2] 88))
      have hb := Joins.below_alloc1 wr (.cells #[.bool x.1, .int .i64 x.2.1, .string x.2.2] 88)
      replace HB := Lib.hid (HB.out.trans (hb.mono HB.out.size))
      replace BO := Lib.hid (Dk.Box.below BO.out hb)
      replace BR := Lib.hid (Dk.Box.below BR.out hb)
      replace HO := Lib.hid ((Dk.Own.below HO.out hb).wide (Nat.le_refl _) hb.size)
      have hsa : wr.heap.size < (wr.alloc (.cells #[.bool x.1, .int .i64 x.2.1, .string x.2.2] 88)).heap.size := by simp
      clear hb b0 b1 b2 b3
      obtain ⟨b0, b1, b2, b3⟩ := Dk.Box.four BO.out
      by_cases hge : n ≤ (k : Int)
      · have HKK := Lib.hid (show runL d (l.take k) = runV d l n by unfold runV; rw [show n.toNat = k from by omega])
        obtain ⟨r0, r1, r2, r3⟩ := Dk.Box.four BR.out
        go_wp2
        obtain ⟨hO, hF, hS⟩ := Dk.Own.into HO.out BR.out
        have hBB := Dk.below_into (b := w.heap.size + 1) HB.out (by omega) (.slice va vn vc) (.slice vb vm vd)
        generalize ((wr.alloc (.cells #[.bool x.1, .int .i64 x.2.1, .string x.2.2] 88)).setCell ⟨w.heap.size + 1, 0, none⟩ (.slice va vn vc)).setCell ⟨w.heap.size + 1, 1, none⟩ (.slice vb vm vd) = wf at hO hF hS hBB ⊢
        obtain ⟨c0, c1, _, _⟩ := Dk.Box.four hF
        exact bodyPost_ret (v := .agg #[.slice va vn vc, .slice vb vm vd]) (by simp [results, Try.results45, go_sem, c0, c1]) rfl ⟨_, _, rfl, by rw [← HKK.out]; exact hO.wide (by omega) (by rw [hS]; exact Nat.le_refl _), hBB⟩
      · have hE := HLEN.out k
        generalize runL d (l.take k) = E at hE HSU HO
        have hE1 : E.1.length ≤ 1073741824 := by omega
        have hE2 : E.2.length ≤ 1073741824 := by omega
        have hgi : (k : Int) < n := by omega
        clear hE
        cases hx : x.1 with
        | true =>
          have HRS := Lib.hid (show runL d (l.take (k + 1)) = Store.storeV Store.allP E by rw [HSU.out]; unfold stepV; rw [if_pos hx])
          obtain ⟨f, n', t⟩ := x
          have hxf : f = true := hx
          subst hxf
          dsimp only at hc0 hc1 hc2 z0 z1 z2 HB BO BR HO hsa
          clear hx
          go_wp2_with fail
          generalize wr.alloc (.cells #[.bool true, .int .i64 n', .string t] 88) = wa at HB BO BR HO z0 z1 z2 hsa b0 b1 b2 b3 ⊢
          refine (Flush.spec_all wa _ _ E hE1 hE2 HO.out.holds).mono ?_
          rintro e w3 ⟨_, _, rfl, hown, hb⟩
          obtain ⟨⟨ua, un, uc, rfl⟩, ⟨ub, um, ud, rfl⟩⟩ := hown.forms
          have s3 := hb.size
          replace HB := Lib.hid (HB.out.trans (hb.mono HB.out.size))
          replace BO := Lib.hid (Dk.Box.below BO.out hb)
          replace BR := Lib.hid (Dk.Box.below BR.out hb)
          have HN := Lib.hid (Dk.Own.wide hown (show w.heap.size + 1 + 1 ≤ wa.heap.size by omega) (Nat.le_refl _))
          clear hb hown z0 z1 z2 b0 b1 b2 b3
          obtain ⟨b0, b1, b2, b3⟩ := Dk.Box.four BO.out
          go_wp2
          have hO2 := Dk.Own.set (i := 1) (u := (.slice ub um ud)) (Dk.Own.set (i := 0) (u := (.slice ua un uc)) HN.out BO.out) (Dk.Box.set0 (u := (.slice ua un uc)) BO.out)
          have hD2 := Dk.Box.set1 (u := (.slice ub um ud)) (Dk.Box.set0 (u := (.slice ua un uc)) BO.out)
          have hR2 := Dk.Box.other (i := 1) (u := (.slice ub um ud)) (c := B0) (Dk.Box.other (i := 0) (u := (.slice ua un uc)) (c := B0) BR.out (by omega)) (by omega)
          have hB2 := Dk.below_into (b := B0) HB.out (by omega) (.slice ua un uc) (.slice ub um ud)
          have hs2 : ((w3.setCell ⟨B0, 0, none⟩ (.slice ua un uc)).setCell ⟨B0, 1, none⟩ (.slice ub um ud)).heap.size = w3.heap.size := by simp only [World.size_setCell]
          generalize (w3.setCell ⟨B0, 0, none⟩ (.slice ua un uc)).setCell ⟨B0, 1, none⟩ (.slice ub um ud) = w5 at hO2 hD2 hR2 hB2 hs2 ⊢
          have HO5 := Lib.hid (show Own w5 (w.heap.size + 1 + 1) w5.heap.size (.slice ua un uc) (.slice ub um ud) (runL d (l.take (k + 1))) by rw [HRS.out, hs2]; exact hO2)
          have HD5 := Lib.hid hD2
          have HR5 := Lib.hid hR2
          have HB5 := Lib.hid hB2
          clear hO2 hD2 hR2 hB2 hs2
          go_wp2
          go_roundw
          case rel => exact ⟨k + 1, _, _, by omega, by omega, by go_num, HD5.out, HR5.out, HO5.out, HB5.out⟩
          case measure => simp [intOf]; omega
        | false =>
          have HRS := Lib.hid (show runL d (l.take (k + 1)) = (WriteS.writeF E x.2.1 x.2.2).1 by rw [HSU.out]; unfold stepV; rw [if_neg (by rw [hx]; decide)])
          obtain ⟨f, n', t⟩ := x
          have hxf : f = false := hx
          subst hxf
          dsimp only at hc0 hc1 hc2 z0 z1 z2 HB BO BR HO hsa HRS htt
          clear hx
          go_wp2_with fail
          generalize wr.alloc (.cells #[.bool false, .int .i64 n', .string t] 88) = wa at HB BO BR HO z0 z1 z2 hsa b0 b1 b2 b3 ⊢
          refine (WriteS.spec_any wa _ _ E n' t hE1 hE2 htt HO.out.holds).mono ?_
          rintro e w2 ⟨_, _, rfl, hown, hb⟩
          obtain ⟨⟨ua, un, uc, rfl⟩, ⟨ub, um, ud, rfl⟩⟩ := hown.forms
          have s3 := hb.size
          replace HB := Lib.hid (HB.out.trans (hb.mono HB.out.size))
          replace BO := Lib.hid (Dk.Box.below BO.out hb)
          replace BR := Lib.hid (Dk.Box.below BR.out hb)
          have HN := Lib.hid (Dk.Own.wide hown (show w.heap.size + 1 + 1 ≤ wa.heap.size by omega) (Nat.le_refl _))
          clear hb hown z0 z1 z2 b0 b1 b2 b3
          generalize (WriteS.writeF E n' t).2 = fl2
          have hb := Joins.below_alloc1 w2 (.cells #[.slice ua un uc, .slice ub um ud] 26)
          replace HB := Lib.hid (HB.out.trans (hb.mono HB.out.size))
          replace BO := Lib.hid (Dk.Box.below BO.out hb)
          replace BR := Lib.hid (Dk.Box.below BR.out hb)
          replace HN := Lib.hid ((Dk.Own.below HN.out hb).wide (Nat.le_refl _) hb.size)
          have BT := Lib.hid (show Box (w2.alloc (.cells #[.slice ua un uc, .slice ub um ud] 26)) w2.heap.size (.slice ua un uc) (.slice ub um ud) 26 from blk_new w2 _)
          obtain ⟨t0, t1, t2, t3⟩ := Dk.Box.four BT.out
          obtain ⟨b0, b1, b2, b3⟩ := Dk.Box.four BO.out
          clear hb
          go_wp2
          generalize w2.alloc (.cells #[.slice ua un uc, .slice ub um ud] 26) = w3 at HB BO BR HN BT t0 t1 t2 t3 b0 b1 b2 b3 ⊢
          have hO2 := Dk.Own.set (i := 1) (u := (.slice ub um ud)) (Dk.Own.set (i := 0) (u := (.slice ua un uc)) HN.out BO.out) (Dk.Box.set0 (u := (.slice ua un uc)) BO.out)
          have hD2 := Dk.Box.set1 (u := (.slice ub um ud)) (Dk.Box.set0 (u := (.slice ua un uc)) BO.out)
          have hR2 := Dk.Box.other (i := 1) (u := (.slice ub um ud)) (c := B0) (Dk.Box.other (i := 0) (u := (.slice ua un uc)) (c := B0) BR.out (by omega)) (by omega)
          have hB2 := Dk.below_into (b := B0) HB.out (by omega) (.slice ua un uc) (.slice ub um ud)
          have hs2 : ((w3.setCell ⟨B0, 0, none⟩ (.slice ua un uc)).setCell ⟨B0, 1, none⟩ (.slice ub um ud)).heap.size = w3.heap.size := by simp only [World.size_setCell]
          generalize (w3.setCell ⟨B0, 0, none⟩ (.slice ua un uc)).setCell ⟨B0, 1, none⟩ (.slice ub um ud) = w5 at hO2 hD2 hR2 hB2 hs2 ⊢
          have HO5 := Lib.hid (show Own w5 (w.heap.size + 1 + 1) w5.heap.size (.slice ua un uc) (.slice ub um ud) (runL d (l.take (k + 1))) by rw [HRS.out, hs2]; exact hO2)
          have HD5 := Lib.hid hD2
          have HR5 := Lib.hid hR2
          have HB5 := Lib.hid hB2
          clear hO2 hD2 hR2 hB2 hs2
          go_wp2
          go_roundw
          case rel => exact ⟨k + 1, _, _, by omega, by omega, by go_num, HD5.out, HR5.out, HO5.out, HB5.out⟩
          case measure => simp [intOf]; omega
    · have HKK := Lib.hid (show runL d (l.take k) = runV d l n by unfold runV; rw [List.take_of_length_le (by rw [← HLL.out]; omega), List.take_of_length_le (by rw [← HLL.out]; omega)])
      obtain ⟨r0, r1, r2, r3⟩ := Dk.Box.four BR.out
      go_wp2
      obtain ⟨hO, hF, hS⟩ := Dk.Own.into HO.out BR.out
      have hBB := Dk.below_into (b := w.heap.size + 1) HB.out (by omega) (.slice va vn vc) (.slice vb vm vd)
      generalize (wr.setCell ⟨w.heap.size + 1, 0, none⟩ (.slice va vn vc)).setCell ⟨w.heap.size + 1, 1, none⟩ (.slice vb vm vd) = wf at hO hF hS hBB ⊢
      obtain ⟨c0, c1, _, _⟩ := Dk.Box.four hF
      exact bodyPost_ret (v := .agg #[.slice va vn vc, .slice vb vm vd]) (by simp [results, Try.results45, go_sem, c0, c1]) rfl ⟨_, _, rfl, by rw [← HKK.out]; exact hO.wide (by omega) (by rw [hS]; (try simp only [World.size_alloc]); first | exact Nat.le_refl _ | omega), hBB⟩
end Go.Proofs.Ytgapjdkelkmdgaa.Run
