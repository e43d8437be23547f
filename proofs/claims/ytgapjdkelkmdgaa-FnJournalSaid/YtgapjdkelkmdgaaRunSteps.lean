/- Contract: the program's RunSteps: the disk behind the first steps, in rows of the call's own. Conditions: the lengths; the slice of steps has room for its length. -/
import Derived.Test.YtgapjdkelkmdgaaRun
import Derived.Test.YtgapjdkelkmdgaaHexOf
namespace Go.Proofs.Ytgapjdkelkmdgaa.Run
open Go.ChangeShapes Go.WideShapes Go.ChangeAt Go.RowKit
open Wr (Wt d0)
open Dk (D Holds Ok Own Box RowIn blk_new)
open Txn (St s0 fl stepV runL runV)
open Go.Proofs.Ytgapjdkelkmdgaa.Steps (pcell)
open Sp (AtSp)
set_option linter.unusedVariables false

theorem meth_f (w : World) : Sem.run Try.prog (method 279 131 (.agg #[]) "loop.example/g00817/impl.runOn") w = .ok (153, .agg #[]) w := by kernel_rfl
theorem meth_w (n : Int) (s : ByteArray) (w : World) : Sem.run Try.prog (method 279 129 (.agg #[.int .i64 n, .string s]) "loop.example/g00817/impl.runOn") w = .ok (152, .agg #[.int .i64 n, .string s]) w := by kernel_rfl

set_option maxRecDepth 100000 in
set_option maxHeartbeats 8000000 in
/-- The loop over the first K steps. -/
theorem impl_some (w : World) (vs vp : Value) (d : D) (b0' o0' cap : Nat) (l : List St) (n : Int) (K : Nat) (hK : K ≤ l.length) (hKn : (0 ≤ n ∧ n ≤ l.length ∧ n = K) ∨ (n < 0 ∧ K = 0) ∨ ((l.length : Int) < n ∧ K = l.length)) (hcap : l.length ≤ cap) (h1 : d.1.length ≤ 1073741824) (h2 : d.2.length ≤ 1073741824) (h3 : l.length ≤ 1073741824) (h4 : ∀ x ∈ l, x.2.2.size ≤ 1073741824) (h : Holds w vs vp d) (hl : AtSp w (some ⟨b0', o0', none⟩) l) :
    Calls Try.prog 20 #[.agg #[vs, vp], .slice (some ⟨b0', o0', none⟩) l.length cap, .int .i64 n] w fun e w' => ∃ us up, e = .returned (.agg #[us, up]) ∧ Own w' w.heap.size w'.heap.size us up (runL d (l.take K)) ∧ Below w.heap.size w w' := by
  have H := Lib.hid h
  have HL := Lib.hid hl
  have HSZ := Lib.hid h4
  clear h hl h4
  have HLEN := Lib.hid (fun k => run_len d (l.take k))
  obtain ⟨L, hL⟩ : ∃ L, L = l.length := ⟨_, rfl⟩
  rw [← hL] at hK hKn hcap h3 ⊢
  have HLL := Lib.hid hL
  clear hL
  have HB := Lib.hid ((Below.refl w.heap.size w).alloc (Nat.le_refl _) (.cells #[vs, vp] 26) |>.alloc (by simp) (.cells #[.slice none 0 0, .slice none 0 0] 26))
  have BD := Lib.hid (show Box ((w.alloc (.cells #[vs, vp] 26)).alloc (.cells #[.slice none 0 0, .slice none 0 0] 26)) w.heap.size vs vp 26 from Dk.blk_alloc (Dk.blk_new w _) _)
  have BR := Lib.hid (show Box ((w.alloc (.cells #[vs, vp] 26)).alloc (.cells #[.slice none 0 0, .slice none 0 0] 26)) (w.heap.size + 1) (.slice none 0 0) (.slice none 0 0) 26 from by have hk := Dk.blk_new (w.alloc (.cells #[vs, vp] 26)) (.cells #[.slice none 0 0, .slice none 0 0] 26); simp only [World.size_alloc] at hk; exact hk)
  have hs0 : w.heap.size + 1 + 1 ≤ ((w.alloc (.cells #[vs, vp] 26)).alloc (.cells #[.slice none 0 0, .slice none 0 0] 26)).heap.size := by simp
  obtain ⟨b0, b1, b2, b3⟩ := Dk.Box.four BD.out
  go_enter Try.func20, Try.ntmps20
  go_wp2_with fail
  generalize (w.alloc (.cells #[vs, vp] 26)).alloc (.cells #[.slice none 0 0, .slice none 0 0] 26) = w0 at HB BD BR hs0 b0 b1 b2 b3 ⊢
  refine (Copy.impl_any w0 vs vp d h1 h2 (H.out.below HB.out)).mono ?_
  rintro e w1 ⟨_, _, rfl, hown, hb⟩
  obtain ⟨⟨ua, un, uc, rfl⟩, ⟨ub, um, ud, rfl⟩⟩ := hown.forms
  have s1 := hb.size
  replace HB := Lib.hid (HB.out.trans (hb.mono HB.out.size))
  replace BD := Lib.hid (Dk.Box.below BD.out hb)
  replace BR := Lib.hid (Dk.Box.below BR.out hb)
  have HO := Lib.hid hown
  clear hown hb b0 b1 b2 b3
  obtain ⟨b0, b1, b2, b3⟩ := Dk.Box.four BD.out
  have hI1 := Dk.Own.set (i := 1) (u := (.slice ub um ud)) (Dk.Own.set (i := 0) (u := (.slice ua un uc)) HO.out BD.out) (Dk.Box.set0 (u := (.slice ua un uc)) BD.out)
  have hD1 := Dk.Box.set1 (u := (.slice ub um ud)) (Dk.Box.set0 (u := (.slice ua un uc)) BD.out)
  have hR1 := Dk.Box.other (i := 1) (u := (.slice ub um ud)) (c := w.heap.size) (Dk.Box.other (i := 0) (u := (.slice ua un uc)) (c := w.heap.size) BR.out (by omega)) (by omega)
  have hB1 := Dk.below_into (b := w.heap.size) HB.out (Nat.le_refl _) (.slice ua un uc) (.slice ub um ud)
  have hs1 : ((w1.setCell ⟨w.heap.size, 0, none⟩ (.slice ua un uc)).setCell ⟨w.heap.size, 1, none⟩ (.slice ub um ud)).heap.size = w1.heap.size := by simp only [World.size_setCell]
  have HI1 := Lib.hid hI1
  have HD1 := Lib.hid hD1
  have HR1 := Lib.hid hR1
  have HB1 := Lib.hid hB1
  have HS1 := Lib.hid hs1
  clear hI1 hD1 hR1 hB1 hs1
  have HM := Lib.hid (show max 0 (min n (L : Int)) = (K : Int) by omega)
  clear hKn
  go_wp2_with fail
  simp only [HM.out, Int.toNat_natCast]
  generalize (w1.setCell ⟨w.heap.size, 0, none⟩ (.slice ua un uc)).setCell ⟨w.heap.size, 1, none⟩ (.slice ub um ud) = wi at HI1 HD1 HR1 HB1 HS1 b0 b1 b2 b3 ⊢
  have HI2 := Lib.hid (show Own wi (w.heap.size + 1 + 1) wi.heap.size (.slice ua un uc) (.slice ub um ud) (runL d (l.take 0)) from Dk.Own.wide HI1.out hs0 (by rw [HS1.out]; exact Nat.le_refl _))
  clear b0 b1 b2 b3
  go_loopw [19] (fun iv wx => ∃ (k : Nat) (us up : Value), k ≤ K ∧ iv = .int .i64 k ∧ Box wx w.heap.size us up 26 ∧ Box wx (w.heap.size + 1) (.slice none 0 0) (.slice none 0 0) 26 ∧ Own wx (w.heap.size + 1 + 1) wx.heap.size us up (runL d (l.take k)) ∧ Below w.heap.size w wx) (fun iv _ => K - (intOf iv).toNat)
  case atStart => exact ⟨0, _, _, Nat.zero_le _, rfl, HD1.out, HR1.out, HI2.out, HB1.out⟩
  case round =>
    obtain ⟨k, us, up, hk, rfl, hbd, hbr, hown, hbel⟩ := hrel
    clear HB BD BR HO HI1 HD1 HR1 HB1 HS1 HI2
    have HB := Lib.hid hbel
    have BD := Lib.hid hbd
    have BR := Lib.hid hbr
    have HO := Lib.hid hown
    have hsz : w.heap.size + 1 < wr.heap.size := Dk.Box.lt hbr
    obtain ⟨⟨va, vn, vc, rfl⟩, ⟨vb, vm, vd, rfl⟩⟩ := hown.forms
    clear hbel hbd hbr hown
    by_cases hlt : k < K
    · have hlx : k < l.length := by rw [← HLL.out]; omega
      obtain ⟨b', o', he, hb', hc0, hc1, hc2⟩ := (HL.out.below HB.out) k hlx
      obtain ⟨e1, e2⟩ : b0' = b' ∧ o0' = o' := by simpa using he
      subst e1
      subst e2
      have hE := HLEN.out k
      have HSU := Lib.hid (runL_succ d l k hlx)
      have htt : (l.getD k s0).2.2.size ≤ 1073741824 := HSZ.out _ (by rw [List.getD_eq_getElem?_getD, List.getElem?_eq_getElem hlx]; exact List.getElem_mem _)
      generalize runL d (l.take k) = E at hE HSU HO
      have hE1 : E.1.length ≤ 1073741824 := by omega
      have hE2 : E.2.length ≤ 1073741824 := by omega
      clear hE he
      generalize l.getD k s0 = x at hc0 hc1 hc2 HSU htt
      obtain ⟨z0, z1, z2⟩ := Sp.three (blk_new wr (.cells #[.bool x.1, .int .i64 x.2.1, .string x.2.2] 88))
      have hb := Joins.below_alloc1 wr (.cells #[.bool x.1, .int .i64 x.2.1, .string x.2.2] 88)
      replace HB := Lib.hid (HB.out.trans (hb.mono HB.out.size))
      replace BD := Lib.hid (Dk.Box.below BD.out hb)
      replace BR := Lib.hid (Dk.Box.below BR.out hb)
      replace HO := Lib.hid (Dk.Own.below HO.out hb)
      have hsa : wr.heap.size < (wr.alloc (.cells #[.bool x.1, .int .i64 x.2.1, .string x.2.2] 88)).heap.size := by simp
      clear hb
      cases hx : x.1 with
      | true =>
        have HRS := Lib.hid (show runL d (l.take (k + 1)) = Store.storeV Store.allP E by rw [HSU.out]; unfold stepV; rw [if_pos hx])
        obtain ⟨f, n', t⟩ := x
        have hxf : f = true := hx
        subst hxf
        dsimp only at hc0 hc1 hc2 z0 z1 z2 HB BD BR HO hsa
        clear hx
        have hme := meth_f
        obtain ⟨b0, b1, b2, b3⟩ := Dk.Box.four BD.out
        go_wp2
        generalize wr.alloc (.cells #[.bool true, .int .i64 n', .string t] 88) = wa at HB BD BR HO z0 z1 z2 hsa b0 b1 b2 b3 ⊢
        go_region_law (first | (go_simp; go_at_call 67; refine (kind_any (true, n', t) _).mono ?_; rintro e w2 ⟨rfl, hb⟩; rw [show pcell (true, n', t) = .iface 131 (.agg #[]) from rfl]; have s2 := hb.size; simp only [World.size_drew] at s2; replace HB := Lib.hid (HB.out.drew.trans (hb.mono HB.out.drew.size)); replace BD := Lib.hid (Dk.Box.below (show Box wa.drew _ _ _ _ from BD.out) hb); replace BR := Lib.hid (Dk.Box.below (show Box wa.drew _ _ _ _ from BR.out) hb); replace HO := Lib.hid (Dk.Own.below (show Own wa.drew _ _ _ _ _ from HO.out) hb); clear hb; obtain ⟨b0, b1, b2, b3⟩ := Dk.Box.four BD.out) | (go_simp; go_at_call 153; refine (runF_any _ _ _ E hE1 hE2 HO.out.holds).mono ?_; rintro e w3 ⟨_, _, rfl, hown, hb⟩; obtain ⟨⟨ua, un, uc, rfl⟩, ⟨ub, um, ud, rfl⟩⟩ := hown.forms; have s3 := hb.size; replace HB := Lib.hid (HB.out.trans (hb.mono HB.out.size)); replace BD := Lib.hid (Dk.Box.below BD.out hb); replace BR := Lib.hid (Dk.Box.below BR.out hb); have HN := Lib.hid (Dk.Own.wide hown (show w.heap.size + 1 + 1 ≤ w2.heap.size by omega) (Nat.le_refl _)); clear hb hown; obtain ⟨d0, d1, d2, d3⟩ := Dk.Box.four BD.out))
        all_goals
          have hO2 := Dk.Own.set (i := 1) (u := (.slice ub um ud)) (Dk.Own.set (i := 0) (u := (.slice ua un uc)) HN.out BD.out) (Dk.Box.set0 (u := (.slice ua un uc)) BD.out)
          have hD2 := Dk.Box.set1 (u := (.slice ub um ud)) (Dk.Box.set0 (u := (.slice ua un uc)) BD.out)
          have hR2 := Dk.Box.other (i := 1) (u := (.slice ub um ud)) (c := w.heap.size) (Dk.Box.other (i := 0) (u := (.slice ua un uc)) (c := w.heap.size) BR.out (by omega)) (by omega)
          have hB2 := Dk.below_into (b := w.heap.size) HB.out (Nat.le_refl _) (.slice ua un uc) (.slice ub um ud)
          have hs2 : ((w3.setCell ⟨w.heap.size, 0, none⟩ (.slice ua un uc)).setCell ⟨w.heap.size, 1, none⟩ (.slice ub um ud)).heap.size = w3.heap.size := by simp only [World.size_setCell]
          generalize (w3.setCell ⟨w.heap.size, 0, none⟩ (.slice ua un uc)).setCell ⟨w.heap.size, 1, none⟩ (.slice ub um ud) = w5 at hO2 hD2 hR2 hB2 hs2 ⊢
          have HO5 := Lib.hid (show Own w5 (w.heap.size + 1 + 1) w5.heap.size (.slice ua un uc) (.slice ub um ud) (runL d (l.take (k + 1))) by rw [HRS.out, hs2]; exact hO2)
          have HD5 := Lib.hid hD2
          have HR5 := Lib.hid hR2
          have HB5 := Lib.hid hB2
          clear hO2 hD2 hR2 hB2 hs2
          go_wp2
          go_roundw
          case rel => exact ⟨k + 1, _, _, by omega, by go_num, HD5.out, HR5.out, HO5.out, HB5.out⟩
          case measure => simp [intOf]; omega
      | false =>
        have HRS := Lib.hid (show runL d (l.take (k + 1)) = (WriteS.writeF E x.2.1 x.2.2).1 by rw [HSU.out]; unfold stepV; rw [if_neg (by rw [hx]; decide)])
        obtain ⟨f, n', t⟩ := x
        have hxf : f = false := hx
        subst hxf
        dsimp only at hc0 hc1 hc2 z0 z1 z2 HB BD BR HO hsa HRS htt
        clear hx
        have hme := meth_w n' t
        obtain ⟨b0, b1, b2, b3⟩ := Dk.Box.four BD.out
        go_wp2
        generalize wr.alloc (.cells #[.bool false, .int .i64 n', .string t] 88) = wa at HB BD BR HO z0 z1 z2 hsa b0 b1 b2 b3 ⊢
        go_region_law (first | (go_simp; go_at_call 67; refine (kind_any (false, n', t) _).mono ?_; rintro e w2 ⟨rfl, hb⟩; rw [show pcell (false, n', t) = .iface 129 (.agg #[.int .i64 n', .string t]) from rfl]; have s2 := hb.size; simp only [World.size_drew] at s2; replace HB := Lib.hid (HB.out.drew.trans (hb.mono HB.out.drew.size)); replace BD := Lib.hid (Dk.Box.below (show Box wa.drew _ _ _ _ from BD.out) hb); replace BR := Lib.hid (Dk.Box.below (show Box wa.drew _ _ _ _ from BR.out) hb); replace HO := Lib.hid (Dk.Own.below (show Own wa.drew _ _ _ _ _ from HO.out) hb); clear hb; obtain ⟨b0, b1, b2, b3⟩ := Dk.Box.four BD.out) | (go_simp; go_at_call 152; refine (runW_any _ _ _ E (n', t) hE1 hE2 htt HO.out.holds).mono ?_; rintro e w3 ⟨_, _, rfl, hown, hb⟩; obtain ⟨⟨ua, un, uc, rfl⟩, ⟨ub, um, ud, rfl⟩⟩ := hown.forms; have s3 := hb.size; replace HB := Lib.hid (HB.out.trans (hb.mono HB.out.size)); replace BD := Lib.hid (Dk.Box.below BD.out hb); replace BR := Lib.hid (Dk.Box.below BR.out hb); have HN := Lib.hid (Dk.Own.wide hown (show w.heap.size + 1 + 1 ≤ w2.heap.size by omega) (Nat.le_refl _)); clear hb hown; obtain ⟨d0, d1, d2, d3⟩ := Dk.Box.four BD.out))
        all_goals
          have hO2 := Dk.Own.set (i := 1) (u := (.slice ub um ud)) (Dk.Own.set (i := 0) (u := (.slice ua un uc)) HN.out BD.out) (Dk.Box.set0 (u := (.slice ua un uc)) BD.out)
          have hD2 := Dk.Box.set1 (u := (.slice ub um ud)) (Dk.Box.set0 (u := (.slice ua un uc)) BD.out)
          have hR2 := Dk.Box.other (i := 1) (u := (.slice ub um ud)) (c := w.heap.size) (Dk.Box.other (i := 0) (u := (.slice ua un uc)) (c := w.heap.size) BR.out (by omega)) (by omega)
          have hB2 := Dk.below_into (b := w.heap.size) HB.out (Nat.le_refl _) (.slice ua un uc) (.slice ub um ud)
          have hs2 : ((w3.setCell ⟨w.heap.size, 0, none⟩ (.slice ua un uc)).setCell ⟨w.heap.size, 1, none⟩ (.slice ub um ud)).heap.size = w3.heap.size := by simp only [World.size_setCell]
          generalize (w3.setCell ⟨w.heap.size, 0, none⟩ (.slice ua un uc)).setCell ⟨w.heap.size, 1, none⟩ (.slice ub um ud) = w5 at hO2 hD2 hR2 hB2 hs2 ⊢
          have HO5 := Lib.hid (show Own w5 (w.heap.size + 1 + 1) w5.heap.size (.slice ua un uc) (.slice ub um ud) (runL d (l.take (k + 1))) by rw [HRS.out, hs2]; exact hO2)
          have HD5 := Lib.hid hD2
          have HR5 := Lib.hid hR2
          have HB5 := Lib.hid hB2
          clear hO2 hD2 hR2 hB2 hs2
          go_wp2
          go_roundw
          case rel => exact ⟨k + 1, _, _, by omega, by go_num, HD5.out, HR5.out, HO5.out, HB5.out⟩
          case measure => simp [intOf]; omega
    · have hkK : k = K := by omega
      obtain ⟨b0, b1, b2, b3⟩ := Dk.Box.four BD.out
      obtain ⟨r0, r1, r2, r3⟩ := Dk.Box.four BR.out
      have HKK := Lib.hid hkK
      clear hkK
      go_wp2
      obtain ⟨hO, hF, hS⟩ := Dk.Own.into HO.out BR.out
      have hBB := Dk.below_into (b := w.heap.size + 1) HB.out (by omega) (.slice va vn vc) (.slice vb vm vd)
      generalize (wr.setCell ⟨w.heap.size + 1, 0, none⟩ (.slice va vn vc)).setCell ⟨w.heap.size + 1, 1, none⟩ (.slice vb vm vd) = wf at hO hF hS hBB ⊢
      obtain ⟨c0, c1, _, _⟩ := Dk.Box.four hF
      exact bodyPost_ret (v := .agg #[.slice va vn vc, .slice vb vm vd]) (by simp [results, Try.results20, go_sem, c0, c1]) rfl ⟨_, _, rfl, by rw [← HKK.out]; exact hO.wide (by omega) (by rw [hS]; exact Nat.le_refl _), hBB⟩
end Go.Proofs.Ytgapjdkelkmdgaa.Run
