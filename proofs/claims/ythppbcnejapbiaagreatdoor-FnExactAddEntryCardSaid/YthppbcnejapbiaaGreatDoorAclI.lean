/- A part. -/
import Derived.Test.YthppbcnejapbiaaGreatDoorAclB
import Derived.Test.YthppbcnejapbiaaGreatDoorAe
import Derived.Test.YthppbcnejapbiaaGreatDoorFam
namespace Go.Proofs.YthppbcnejapbiaaGreatDoor.AclI
set_option maxHeartbeats 1600000
set_option maxRecDepth 100000
open Go.ChangeShapes Go.WideShapes Go.ChangeAt Go.RowKit
open AclV AclS AclB
open Dk (ret_bool blk_new)
open Strs (below_of_drew)
set_option linter.unusedVariables false
theorem not_ok {l : List At} {k : Nat} (hk : k < l.length) (h : upB l (k + 1) = false) : okB l = false := by
 cases h2 : okB l
 ·rfl
 ·have := upB_mono (ok_up h2) (show k + 1 <= l.length from hk)
  rw [h] at this; cases this
theorem ok_zero {l : List At} (h : l.length = 0) : okB l = true := by
 obtain rfl := List.eq_nil_of_length_eq_zero h
 rfl
theorem ok_last {l : List At} {p : Nat} (h : l.length = p + 1) (hu : upB l (p + 1) = true) : okB l = (decide (p + 1 <= 6) && decide ((l.getD p a0).1 = 3)) := by
 unfold okB
 rw [h, hu, Bool.true_and]
 cases l with
 | nil => simp at h
 | cons _ _ => simp
theorem ok_long {l : List At} (h : 6 < l.length) : okB l = false := by
 cases h2 : okB l
 ·rfl
 ·have := ok_len h2; omega
theorem up_zero {l : List At} (h : entB (l.getD 0 a0) = true) : upB l 1 = true := by
 rw [upB_succ, h]; rfl
theorem up_next {l : List At} {p : Nat} (hu : upB l (p + 1) = true) (h : entB (l.getD (p + 1) a0) = true) (h2 : ltB (l.getD p a0) (l.getD (p + 1) a0) = true) : upB l (p + 1 + 1) = true := by
 rw [upB_succ, hu, h, Nat.add_sub_cancel, h2]; simp
theorem up_no_ent {l : List At} {k : Nat} (h : entB (l.getD k a0) = false) : upB l (k + 1) = false := by
 rw [upB_succ, h]; simp
theorem up_no_lt {l : List At} {p : Nat} (h2 : ltB (l.getD p a0) (l.getD (p + 1) a0) = false) : upB l (p + 1 + 1) = false := by
 rw [upB_succ, Nat.add_sub_cancel, h2]; simp
theorem impl_any (w : World) (v : Value) (l : List At) (hn : l.length <= 1073741824) (h : Ae.Holds w v l) :
  Calls Tryz.prog 183 #[v] w fun e w' => e = .returned (.bool (okB l)) /\ Below w.heap.size w w' := by
 obtain ⟨a, c, rfl, hc⟩ := Ae.atL h
 clear h
 have HC := Lib.hid hc
 clear hc
 obtain ⟨N, hN⟩ : ∃ N, N = l.length := ⟨_, rfl⟩
 rw [<- hN] at hn ⊢
 have HN := Lib.hid hN
 clear hN
 by_cases h6 : 6 < N
 ·have HF := Lib.hid (ok_long (l := l) (by rw [<- HN.out]; exact h6))
  go_enter Tryz.func183, Tryz.ntmps183
  go_wp2
  go_ret
  exact ⟨ret_bool HF.out.symm, Below.refl _ _⟩
 have hd6 : decide (6 < N) = false := decide_eq_false h6
 go_enter Tryz.func183, Tryz.ntmps183
 go_wp2_with fail
 go_loopw [10] (fun iv wr => ∃ k : Nat, k <= N /\ iv = .int .i64 k /\ upB l k = true /\ Below w.heap.size w wr) (fun iv _ => N - (intOf iv).toNat)
 case atStart => exact ⟨0, Nat.zero_le _, rfl, rfl, Below.refl _ _⟩
 case round =>
  obtain ⟨k, hk, rfl, hup, hbel⟩ := hrel
  have HUP := Lib.hid hup
  have HBEL := Lib.hid hbel
  have hsz := hbel.size
  clear hup hbel
  by_cases hlt : k < N
  ·have hlx : k < l.length := by rw [<- HN.out]; exact hlt
   obtain ⟨b, o, rfl, hb, g0, g1, g2⟩ := HC.out k hlx
   have HCC := Lib.hid (HC.out.below HBEL.out)
   rw [<- HBEL.out.cell (p := ⟨b, _, none⟩) hb] at g0 g1 g2
   have HNO := Lib.hid (show upB l (k + 1) = false -> okB l = false from not_ok hlx)
   cases hent : entB (l.getD k a0)
   ·have HF := Lib.hid (HNO.out (up_no_ent hent))
    generalize l.getD k a0 = x at g0 g1 g2 hent
    obtain ⟨n0, n1, n2⟩ := x
    dsimp only at g0 g1 g2
    have he : ∀ W : World, Calls Tryz.prog 213 #[.agg #[.int .i64 n0, .int .i64 n1, .int .i64 n2]] W fun e w' => e = .returned (.bool false) /\ Below W.heap.size W w' := fun W => by
     have := entry_any (n0, n1, n2) W
     rw [hent] at this; exact this
    have HE := Lib.hid he
    have HB := Lib.hid (HBEL.out.alloc hsz (.cells #[.int .i64 n0, .int .i64 n1, .int .i64 n2] 161))
    have HS0 := Lib.hid hsz
    clear he hent
    go_wp2
    have y0 := cells_new wr #[.int .i64 n0, .int .i64 n1, .int .i64 n2] 161 0 _ rfl
    have y1 := cells_new wr #[.int .i64 n0, .int .i64 n1, .int .i64 n2] 161 1 _ rfl
    have y2 := cells_new wr #[.int .i64 n0, .int .i64 n1, .int .i64 n2] 161 2 _ rfl
    have hs9 : wr.heap.size < (wr.alloc (.cells #[.int .i64 n0, .int .i64 n1, .int .i64 n2] 161)).heap.size := by simp
    generalize wr.alloc (.cells #[.int .i64 n0, .int .i64 n1, .int .i64 n2] 161) = wa at y0 y1 y2 hs9 HB ⊢
    have z0 := Fam.cell (W := wa) (p := ⟨wr.heap.size, 0, none⟩) hs9 y0
    have z1 := Fam.cell (W := wa) (p := ⟨wr.heap.size, 1, none⟩) hs9 y1
    have z2 := Fam.cell (W := wa) (p := ⟨wr.heap.size, 2, none⟩) hs9 y2
    refine Fam.region (by kernel_rfl) (by kernel_rfl) ?_
    repeat (go_big_quiet_step (first | (go_at_call 213; with_reducible refine Fam.calls (HE.out _))))
    refine wpQuiet_nil ?_
    intro _ hw'
    obtain ⟨nq, hw''⟩ := hw'
    subst hw''
    have hbq := Fam.wld_below wa nq
    generalize Fam.wld wa nq = w9 at hbq ⊢
    replace HB := Lib.hid (HB.out.trans (hbq.mono HB.out.size))
    clear hbq z0 z1 z2
    go_wp2
    go_ret
    exact ⟨ret_bool HF.out.symm, HB.out⟩
   ·by_cases hk0 : k = 0
    ·subst hk0
     have HU1 := Lib.hid (up_zero hent)
     generalize l.getD 0 a0 = x at g0 g1 g2 hent
     obtain ⟨n0, n1, n2⟩ := x
     simp only [Nat.zero_mul, Nat.add_zero] at g0 g1 g2
     have he : ∀ W : World, Calls Tryz.prog 213 #[.agg #[.int .i64 n0, .int .i64 n1, .int .i64 n2]] W fun e w' => e = .returned (.bool true) /\ Below W.heap.size W w' := fun W => by
      have := entry_any (n0, n1, n2) W
      rw [hent] at this; exact this
     have HE := Lib.hid he
     have HB := Lib.hid (HBEL.out.alloc hsz (.cells #[.int .i64 n0, .int .i64 n1, .int .i64 n2] 161))
     have HS0 := Lib.hid hsz
     clear he hent
     go_wp2
     have y0 := cells_new wr #[.int .i64 n0, .int .i64 n1, .int .i64 n2] 161 0 _ rfl
     have y1 := cells_new wr #[.int .i64 n0, .int .i64 n1, .int .i64 n2] 161 1 _ rfl
     have y2 := cells_new wr #[.int .i64 n0, .int .i64 n1, .int .i64 n2] 161 2 _ rfl
     have hs9 : wr.heap.size < (wr.alloc (.cells #[.int .i64 n0, .int .i64 n1, .int .i64 n2] 161)).heap.size := by simp
     generalize wr.alloc (.cells #[.int .i64 n0, .int .i64 n1, .int .i64 n2] 161) = wa at y0 y1 y2 hs9 HB ⊢
     have z0 := Fam.cell (W := wa) (p := ⟨wr.heap.size, 0, none⟩) hs9 y0
     have z1 := Fam.cell (W := wa) (p := ⟨wr.heap.size, 1, none⟩) hs9 y1
     have z2 := Fam.cell (W := wa) (p := ⟨wr.heap.size, 2, none⟩) hs9 y2
     refine Fam.region (by kernel_rfl) (by kernel_rfl) ?_
     repeat (go_big_quiet_step (first | (go_at_call 213; with_reducible refine Fam.calls (HE.out _))))
     refine wpQuiet_nil ?_
     intro _ hw'
     obtain ⟨nq, hw''⟩ := hw'
     subst hw''
     have hbq := Fam.wld_below wa nq
     generalize Fam.wld wa nq = w9 at hbq ⊢
     replace HB := Lib.hid (HB.out.trans (hbq.mono HB.out.size))
     clear hbq z0 z1 z2
     go_wp2
     go_roundw
     case rel => exact ⟨1, by omega, by go_num, HU1.out, HB.out⟩
     case measure => simp [intOf]; omega
    ·obtain ⟨p, rfl⟩ : ∃ p, k = p + 1 := ⟨k - 1, by omega⟩
     have hp' : (0 : Int) < ((p + 1 : Nat) : Int) := by omega
     obtain ⟨b', o', heq, _, f0, f1, f2⟩ := HCC.out p (by omega)
     obtain ⟨e1, e2⟩ : b = b' /\ o = o' := by simpa using heq
     subst e1
     subst e2
     have HY := Lib.hid (fun h => up_next HUP.out hent h)
     have HNO2 := Lib.hid (fun h => HNO.out (up_no_lt h))
     generalize l.getD (p + 1) a0 = x at g0 g1 g2 hent HY HNO2
     generalize l.getD p a0 = y at f0 f1 f2 HY HNO2
     obtain ⟨n0, n1, n2⟩ := x
     obtain ⟨m0, m1, m2⟩ := y
     dsimp only at g0 g1 g2 f0 f1 f2
     have he : ∀ W : World, Calls Tryz.prog 213 #[.agg #[.int .i64 n0, .int .i64 n1, .int .i64 n2]] W fun e w' => e = .returned (.bool true) /\ Below W.heap.size W w' := fun W => by
      have := entry_any (n0, n1, n2) W
      rw [hent] at this; exact this
     have HE := Lib.hid he
     have HB := Lib.hid (HBEL.out.alloc hsz (.cells #[.int .i64 n0, .int .i64 n1, .int .i64 n2] 161))
     have hb9 : b < wr.heap.size := Nat.lt_of_lt_of_le hb hsz
     have hx := (Below.refl wr.heap.size wr).alloc (Nat.le_refl _) (.cells #[.int .i64 n0, .int .i64 n1, .int .i64 n2] 161)
     rw [<- hx.cell (p := ⟨b, _, none⟩) hb9] at f0 f1 f2
     have HS0 := Lib.hid (And.intro hsz hb9)
     clear he hent hx heq
     cases hltb : ltB (m0, m1, m2) (n0, n1, n2)
     ·have HF := Lib.hid (HNO2.out hltb)
      have hl : ∀ W : World, Calls Tryz.prog 214 #[.agg #[.int .i64 m0, .int .i64 m1, .int .i64 m2], .agg #[.int .i64 n0, .int .i64 n1, .int .i64 n2]] W fun e w' => e = .returned (.bool false) /\ Below W.heap.size W w' := fun W => by
       have := before_any (m0, m1, m2) (n0, n1, n2) W
       rw [hltb] at this; exact this
      have HLT := Lib.hid hl
      clear hl hltb
      go_wp2
      have y0 := cells_new wr #[.int .i64 n0, .int .i64 n1, .int .i64 n2] 161 0 _ rfl
      have y1 := cells_new wr #[.int .i64 n0, .int .i64 n1, .int .i64 n2] 161 1 _ rfl
      have y2 := cells_new wr #[.int .i64 n0, .int .i64 n1, .int .i64 n2] 161 2 _ rfl
      have hs9 : wr.heap.size < (wr.alloc (.cells #[.int .i64 n0, .int .i64 n1, .int .i64 n2] 161)).heap.size := by simp
      generalize wr.alloc (.cells #[.int .i64 n0, .int .i64 n1, .int .i64 n2] 161) = wa at y0 y1 y2 hs9 HB ⊢ f0 f1 f2
      have z0 := Fam.cell (W := wa) (p := ⟨wr.heap.size, 0, none⟩) hs9 y0
      have z1 := Fam.cell (W := wa) (p := ⟨wr.heap.size, 1, none⟩) hs9 y1
      have z2 := Fam.cell (W := wa) (p := ⟨wr.heap.size, 2, none⟩) hs9 y2
      have v0 := Fam.cell (W := wa) (p := ⟨b, o + p * 3, none⟩) (Nat.lt_trans hb9 hs9) f0
      have v1 := Fam.cell (W := wa) (p := ⟨b, o + p * 3 + 1, none⟩) (Nat.lt_trans hb9 hs9) f1
      have v2 := Fam.cell (W := wa) (p := ⟨b, o + p * 3 + 2, none⟩) (Nat.lt_trans hb9 hs9) f2
      refine Fam.region (by kernel_rfl) (by kernel_rfl) ?_
      repeat (go_big_quiet_step (first | (go_at_call 213; with_reducible refine Fam.calls (HE.out _)) | (go_at_call 214; with_reducible refine Fam.calls (HLT.out _))))
      refine wpQuiet_nil ?_
      intro _ hw'
      obtain ⟨nq, hw''⟩ := hw'
      subst hw''
      have hbq := Fam.wld_below wa nq
      generalize Fam.wld wa nq = w9 at hbq ⊢
      replace HB := Lib.hid (HB.out.trans (hbq.mono HB.out.size))
      clear hbq z0 z1 z2 v0 v1 v2
      go_wp2
      go_ret
      exact ⟨ret_bool HF.out.symm, HB.out⟩
     ·have HU1 := Lib.hid (HY.out hltb)
      have hl : ∀ W : World, Calls Tryz.prog 214 #[.agg #[.int .i64 m0, .int .i64 m1, .int .i64 m2], .agg #[.int .i64 n0, .int .i64 n1, .int .i64 n2]] W fun e w' => e = .returned (.bool true) /\ Below W.heap.size W w' := fun W => by
       have := before_any (m0, m1, m2) (n0, n1, n2) W
       rw [hltb] at this; exact this
      have HLT := Lib.hid hl
      clear hl hltb
      go_wp2
      have y0 := cells_new wr #[.int .i64 n0, .int .i64 n1, .int .i64 n2] 161 0 _ rfl
      have y1 := cells_new wr #[.int .i64 n0, .int .i64 n1, .int .i64 n2] 161 1 _ rfl
      have y2 := cells_new wr #[.int .i64 n0, .int .i64 n1, .int .i64 n2] 161 2 _ rfl
      have hs9 : wr.heap.size < (wr.alloc (.cells #[.int .i64 n0, .int .i64 n1, .int .i64 n2] 161)).heap.size := by simp
      generalize wr.alloc (.cells #[.int .i64 n0, .int .i64 n1, .int .i64 n2] 161) = wa at y0 y1 y2 hs9 HB ⊢ f0 f1 f2
      have z0 := Fam.cell (W := wa) (p := ⟨wr.heap.size, 0, none⟩) hs9 y0
      have z1 := Fam.cell (W := wa) (p := ⟨wr.heap.size, 1, none⟩) hs9 y1
      have z2 := Fam.cell (W := wa) (p := ⟨wr.heap.size, 2, none⟩) hs9 y2
      have v0 := Fam.cell (W := wa) (p := ⟨b, o + p * 3, none⟩) (Nat.lt_trans hb9 hs9) f0
      have v1 := Fam.cell (W := wa) (p := ⟨b, o + p * 3 + 1, none⟩) (Nat.lt_trans hb9 hs9) f1
      have v2 := Fam.cell (W := wa) (p := ⟨b, o + p * 3 + 2, none⟩) (Nat.lt_trans hb9 hs9) f2
      refine Fam.region (by kernel_rfl) (by kernel_rfl) ?_
      repeat (go_big_quiet_step (first | (go_at_call 213; with_reducible refine Fam.calls (HE.out _)) | (go_at_call 214; with_reducible refine Fam.calls (HLT.out _))))
      refine wpQuiet_nil ?_
      intro _ hw'
      obtain ⟨nq, hw''⟩ := hw'
      subst hw''
      have hbq := Fam.wld_below wa nq
      generalize Fam.wld wa nq = w9 at hbq ⊢
      replace HB := Lib.hid (HB.out.trans (hbq.mono HB.out.size))
      clear hbq z0 z1 z2 v0 v1 v2
      go_wp2
      go_roundw
      case rel => exact ⟨p + 1 + 1, by omega, by go_num, HU1.out, HB.out⟩
      case measure => simp [intOf]; omega
  ·obtain rfl : k = N := by omega
   by_cases hz : k = 0
   ·have HF := Lib.hid (ok_zero (l := l) (by rw [<- HN.out]; exact hz))
    subst hz
    go_wp2
    go_ret
    exact ⟨ret_bool HF.out.symm, HBEL.out⟩
   ·obtain ⟨p, rfl⟩ : ∃ p, k = p + 1 := ⟨k - 1, by omega⟩
    obtain ⟨b, o, rfl, hb, g0, g1, g2⟩ := HC.out p (by rw [<- HN.out]; omega)
    rw [<- HBEL.out.cell (p := ⟨b, _, none⟩) hb] at g0 g1 g2
    have HF := Lib.hid (ok_last HN.out.symm HUP.out)
    generalize l.getD p a0 = x at g0 g1 g2 HF
    obtain ⟨n0, n1, n2⟩ := x
    dsimp only at g0 g1 g2 HF
    have hne : (((p + 1 : Nat) : Int) == 0) = false := beq_eq_false_iff_ne.2 (by omega)
    have hd9 : decide (p + 1 <= 6) = true := decide_eq_true (by omega)
    go_wp2
    go_ret
    exact ⟨ret_bool (by rw [HF.out, hd9, Bool.true_and]; rfl), HBEL.out⟩
theorem spec_any (w : World) (v : Value) (l : List At) (hn : l.length <= 1073741824) (h : Ae.Holds w v l) :
  Calls Tryz.prog 169 #[v] w fun e w' => e = .returned (.bool (okB l)) /\ Below w.heap.size w w' := by
 obtain ⟨a, c, rfl, hc⟩ := Ae.atL h
 clear h
 have HC := Lib.hid hc
 clear hc
 obtain ⟨N, hN⟩ : ∃ N, N = l.length := ⟨_, rfl⟩
 rw [<- hN] at hn ⊢
 have HN := Lib.hid hN
 clear hN
 go_enter Tryz.func169, Tryz.ntmps169
 go_wp2_with fail
 go_loopw [8] (fun iv wr => ∃ k : Nat, k <= N /\ iv = .int .i64 k /\ upB l k = true /\ Below w.heap.size w wr) (fun iv _ => N - (intOf iv).toNat)
 case atStart => exact ⟨0, Nat.zero_le _, rfl, rfl, Below.refl _ _⟩
 case round =>
  obtain ⟨k, hk, rfl, hup, hbel⟩ := hrel
  have HUP := Lib.hid hup
  have HBEL := Lib.hid hbel
  have hsz := hbel.size
  clear hup hbel
  by_cases hlt : k < N
  ·have hlx : k < l.length := by rw [<- HN.out]; exact hlt
   obtain ⟨b, o, rfl, hb, g0, g1, g2⟩ := HC.out k hlx
   have HCC := Lib.hid (HC.out.below HBEL.out)
   rw [<- HBEL.out.cell (p := ⟨b, _, none⟩) hb] at g0 g1 g2
   have HNO := Lib.hid (show upB l (k + 1) = false -> okB l = false from not_ok hlx)
   cases hent : entB (l.getD k a0)
   ·have HF := Lib.hid (HNO.out (up_no_ent hent))
    generalize l.getD k a0 = x at g0 g1 g2 hent
    obtain ⟨n0, n1, n2⟩ := x
    dsimp only at g0 g1 g2
    have he : ∀ W : World, Calls Tryz.prog 209 #[.agg #[.int .i64 n0, .int .i64 n1, .int .i64 n2]] W fun e w' => e = .returned (.bool false) /\ Below W.heap.size W w' := fun W => by
     have := spec_entry_any (n0, n1, n2) W
     rw [hent] at this; exact this
    have HE := Lib.hid he
    have HB := Lib.hid (HBEL.out.alloc hsz (.cells #[.int .i64 n0, .int .i64 n1, .int .i64 n2] 161))
    have HS0 := Lib.hid hsz
    clear he hent
    go_wp2
    have y0 := cells_new wr #[.int .i64 n0, .int .i64 n1, .int .i64 n2] 161 0 _ rfl
    have y1 := cells_new wr #[.int .i64 n0, .int .i64 n1, .int .i64 n2] 161 1 _ rfl
    have y2 := cells_new wr #[.int .i64 n0, .int .i64 n1, .int .i64 n2] 161 2 _ rfl
    have hs9 : wr.heap.size < (wr.alloc (.cells #[.int .i64 n0, .int .i64 n1, .int .i64 n2] 161)).heap.size := by simp
    generalize wr.alloc (.cells #[.int .i64 n0, .int .i64 n1, .int .i64 n2] 161) = wa at y0 y1 y2 hs9 HB ⊢
    have z0 := Fam.cell (W := wa) (p := ⟨wr.heap.size, 0, none⟩) hs9 y0
    have z1 := Fam.cell (W := wa) (p := ⟨wr.heap.size, 1, none⟩) hs9 y1
    have z2 := Fam.cell (W := wa) (p := ⟨wr.heap.size, 2, none⟩) hs9 y2
    refine Fam.region (by kernel_rfl) (by kernel_rfl) ?_
    repeat (go_big_quiet_step (first | (go_at_call 209; with_reducible refine Fam.calls (HE.out _))))
    refine wpQuiet_nil ?_
    intro _ hw'
    obtain ⟨nq, hw''⟩ := hw'
    subst hw''
    have hbq := Fam.wld_below wa nq
    generalize Fam.wld wa nq = w9 at hbq ⊢
    replace HB := Lib.hid (HB.out.trans (hbq.mono HB.out.size))
    clear hbq z0 z1 z2
    go_wp2
    go_ret
    exact ⟨ret_bool HF.out.symm, HB.out⟩
   ·by_cases hk0 : k = 0
    ·subst hk0
     have HU1 := Lib.hid (up_zero hent)
     generalize l.getD 0 a0 = x at g0 g1 g2 hent
     obtain ⟨n0, n1, n2⟩ := x
     simp only [Nat.zero_mul, Nat.add_zero] at g0 g1 g2
     have he : ∀ W : World, Calls Tryz.prog 209 #[.agg #[.int .i64 n0, .int .i64 n1, .int .i64 n2]] W fun e w' => e = .returned (.bool true) /\ Below W.heap.size W w' := fun W => by
      have := spec_entry_any (n0, n1, n2) W
      rw [hent] at this; exact this
     have HE := Lib.hid he
     have HB := Lib.hid (HBEL.out.alloc hsz (.cells #[.int .i64 n0, .int .i64 n1, .int .i64 n2] 161))
     have HS0 := Lib.hid hsz
     clear he hent
     go_wp2
     have y0 := cells_new wr #[.int .i64 n0, .int .i64 n1, .int .i64 n2] 161 0 _ rfl
     have y1 := cells_new wr #[.int .i64 n0, .int .i64 n1, .int .i64 n2] 161 1 _ rfl
     have y2 := cells_new wr #[.int .i64 n0, .int .i64 n1, .int .i64 n2] 161 2 _ rfl
     have hs9 : wr.heap.size < (wr.alloc (.cells #[.int .i64 n0, .int .i64 n1, .int .i64 n2] 161)).heap.size := by simp
     generalize wr.alloc (.cells #[.int .i64 n0, .int .i64 n1, .int .i64 n2] 161) = wa at y0 y1 y2 hs9 HB ⊢
     have z0 := Fam.cell (W := wa) (p := ⟨wr.heap.size, 0, none⟩) hs9 y0
     have z1 := Fam.cell (W := wa) (p := ⟨wr.heap.size, 1, none⟩) hs9 y1
     have z2 := Fam.cell (W := wa) (p := ⟨wr.heap.size, 2, none⟩) hs9 y2
     refine Fam.region (by kernel_rfl) (by kernel_rfl) ?_
     repeat (go_big_quiet_step (first | (go_at_call 209; with_reducible refine Fam.calls (HE.out _))))
     refine wpQuiet_nil ?_
     intro _ hw'
     obtain ⟨nq, hw''⟩ := hw'
     subst hw''
     have hbq := Fam.wld_below wa nq
     generalize Fam.wld wa nq = w9 at hbq ⊢
     replace HB := Lib.hid (HB.out.trans (hbq.mono HB.out.size))
     clear hbq z0 z1 z2
     go_wp2
     go_roundw
     case rel => exact ⟨1, by omega, by go_num, HU1.out, HB.out⟩
     case measure => simp [intOf]; omega
    ·obtain ⟨p, rfl⟩ : ∃ p, k = p + 1 := ⟨k - 1, by omega⟩
     have hp' : (0 : Int) < ((p + 1 : Nat) : Int) := by omega
     obtain ⟨b', o', heq, _, f0, f1, f2⟩ := HCC.out p (by omega)
     obtain ⟨e1, e2⟩ : b = b' /\ o = o' := by simpa using heq
     subst e1
     subst e2
     have HY := Lib.hid (fun h => up_next HUP.out hent h)
     have HNO2 := Lib.hid (fun h => HNO.out (up_no_lt h))
     generalize l.getD (p + 1) a0 = x at g0 g1 g2 hent HY HNO2
     generalize l.getD p a0 = y at f0 f1 f2 HY HNO2
     obtain ⟨n0, n1, n2⟩ := x
     obtain ⟨m0, m1, m2⟩ := y
     dsimp only at g0 g1 g2 f0 f1 f2
     have he : ∀ W : World, Calls Tryz.prog 209 #[.agg #[.int .i64 n0, .int .i64 n1, .int .i64 n2]] W fun e w' => e = .returned (.bool true) /\ Below W.heap.size W w' := fun W => by
      have := spec_entry_any (n0, n1, n2) W
      rw [hent] at this; exact this
     have HE := Lib.hid he
     have HB := Lib.hid (HBEL.out.alloc hsz (.cells #[.int .i64 n0, .int .i64 n1, .int .i64 n2] 161))
     have hb9 : b < wr.heap.size := Nat.lt_of_lt_of_le hb hsz
     have hx := (Below.refl wr.heap.size wr).alloc (Nat.le_refl _) (.cells #[.int .i64 n0, .int .i64 n1, .int .i64 n2] 161)
     rw [<- hx.cell (p := ⟨b, _, none⟩) hb9] at f0 f1 f2
     have HS0 := Lib.hid (And.intro hsz hb9)
     clear he hent hx heq
     by_cases c1 : n0 < m0
     ·have HF := Lib.hid (HNO2.out (by simp [ltB]; omega))
      go_wp2
      have y0 := cells_new wr #[.int .i64 n0, .int .i64 n1, .int .i64 n2] 161 0 _ rfl
      have y1 := cells_new wr #[.int .i64 n0, .int .i64 n1, .int .i64 n2] 161 1 _ rfl
      have y2 := cells_new wr #[.int .i64 n0, .int .i64 n1, .int .i64 n2] 161 2 _ rfl
      have hs9 : wr.heap.size < (wr.alloc (.cells #[.int .i64 n0, .int .i64 n1, .int .i64 n2] 161)).heap.size := by simp
      generalize wr.alloc (.cells #[.int .i64 n0, .int .i64 n1, .int .i64 n2] 161) = wa at y0 y1 y2 hs9 HB ⊢ f0 f1 f2
      have z0 := Fam.cell (W := wa) (p := ⟨wr.heap.size, 0, none⟩) hs9 y0
      have z1 := Fam.cell (W := wa) (p := ⟨wr.heap.size, 1, none⟩) hs9 y1
      have z2 := Fam.cell (W := wa) (p := ⟨wr.heap.size, 2, none⟩) hs9 y2
      have v0 := Fam.cell (W := wa) (p := ⟨b, o + p * 3, none⟩) (Nat.lt_trans hb9 hs9) f0
      have v1 := Fam.cell (W := wa) (p := ⟨b, o + p * 3 + 1, none⟩) (Nat.lt_trans hb9 hs9) f1
      have v2 := Fam.cell (W := wa) (p := ⟨b, o + p * 3 + 2, none⟩) (Nat.lt_trans hb9 hs9) f2
      refine Fam.region (by kernel_rfl) (by kernel_rfl) ?_
      repeat (go_big_quiet_step (first | (go_at_call 209; with_reducible refine Fam.calls (HE.out _))))
      refine wpQuiet_nil ?_
      intro _ hw'
      obtain ⟨nq, hw''⟩ := hw'
      subst hw''
      have hbq := Fam.wld_below wa nq
      generalize Fam.wld wa nq = w9 at hbq ⊢
      replace HB := Lib.hid (HB.out.trans (hbq.mono HB.out.size))
      clear hbq z0 z1 z2 v0 v1 v2
      go_wp2
      go_ret
      exact ⟨ret_bool HF.out.symm, HB.out⟩
     ·have hd1 : decide (n0 < m0) = false := decide_eq_false c1
      by_cases c2 : m0 = n0
      ·have c2s := c2.symm
       subst c2s
       by_cases c3 : n1 <= m1
       ·have HF := Lib.hid (HNO2.out (by simp [ltB]; omega))
        go_wp2
        have y0 := cells_new wr #[.int .i64 n0, .int .i64 n1, .int .i64 n2] 161 0 _ rfl
        have y1 := cells_new wr #[.int .i64 n0, .int .i64 n1, .int .i64 n2] 161 1 _ rfl
        have y2 := cells_new wr #[.int .i64 n0, .int .i64 n1, .int .i64 n2] 161 2 _ rfl
        have hs9 : wr.heap.size < (wr.alloc (.cells #[.int .i64 n0, .int .i64 n1, .int .i64 n2] 161)).heap.size := by simp
        generalize wr.alloc (.cells #[.int .i64 n0, .int .i64 n1, .int .i64 n2] 161) = wa at y0 y1 y2 hs9 HB ⊢ f0 f1 f2
        have z0 := Fam.cell (W := wa) (p := ⟨wr.heap.size, 0, none⟩) hs9 y0
        have z1 := Fam.cell (W := wa) (p := ⟨wr.heap.size, 1, none⟩) hs9 y1
        have z2 := Fam.cell (W := wa) (p := ⟨wr.heap.size, 2, none⟩) hs9 y2
        have v0 := Fam.cell (W := wa) (p := ⟨b, o + p * 3, none⟩) (Nat.lt_trans hb9 hs9) f0
        have v1 := Fam.cell (W := wa) (p := ⟨b, o + p * 3 + 1, none⟩) (Nat.lt_trans hb9 hs9) f1
        have v2 := Fam.cell (W := wa) (p := ⟨b, o + p * 3 + 2, none⟩) (Nat.lt_trans hb9 hs9) f2
        refine Fam.region (by kernel_rfl) (by kernel_rfl) ?_
        repeat (go_big_quiet_step (first | (go_at_call 209; with_reducible refine Fam.calls (HE.out _))))
        refine wpQuiet_nil ?_
        intro _ hw'
        obtain ⟨nq, hw''⟩ := hw'
        subst hw''
        have hbq := Fam.wld_below wa nq
        generalize Fam.wld wa nq = w9 at hbq ⊢
        replace HB := Lib.hid (HB.out.trans (hbq.mono HB.out.size))
        clear hbq z0 z1 z2 v0 v1 v2
        go_wp2
        go_ret
        exact ⟨ret_bool HF.out.symm, HB.out⟩
       ·have hd3 : decide (n1 <= m1) = false := decide_eq_false c3
        have HU1 := Lib.hid (HY.out (by simp [ltB]; omega))
        go_wp2
        have y0 := cells_new wr #[.int .i64 n0, .int .i64 n1, .int .i64 n2] 161 0 _ rfl
        have y1 := cells_new wr #[.int .i64 n0, .int .i64 n1, .int .i64 n2] 161 1 _ rfl
        have y2 := cells_new wr #[.int .i64 n0, .int .i64 n1, .int .i64 n2] 161 2 _ rfl
        have hs9 : wr.heap.size < (wr.alloc (.cells #[.int .i64 n0, .int .i64 n1, .int .i64 n2] 161)).heap.size := by simp
        generalize wr.alloc (.cells #[.int .i64 n0, .int .i64 n1, .int .i64 n2] 161) = wa at y0 y1 y2 hs9 HB ⊢ f0 f1 f2
        have z0 := Fam.cell (W := wa) (p := ⟨wr.heap.size, 0, none⟩) hs9 y0
        have z1 := Fam.cell (W := wa) (p := ⟨wr.heap.size, 1, none⟩) hs9 y1
        have z2 := Fam.cell (W := wa) (p := ⟨wr.heap.size, 2, none⟩) hs9 y2
        have v0 := Fam.cell (W := wa) (p := ⟨b, o + p * 3, none⟩) (Nat.lt_trans hb9 hs9) f0
        have v1 := Fam.cell (W := wa) (p := ⟨b, o + p * 3 + 1, none⟩) (Nat.lt_trans hb9 hs9) f1
        have v2 := Fam.cell (W := wa) (p := ⟨b, o + p * 3 + 2, none⟩) (Nat.lt_trans hb9 hs9) f2
        refine Fam.region (by kernel_rfl) (by kernel_rfl) ?_
        repeat (go_big_quiet_step (first | (go_at_call 209; with_reducible refine Fam.calls (HE.out _))))
        refine wpQuiet_nil ?_
        intro _ hw'
        obtain ⟨nq, hw''⟩ := hw'
        subst hw''
        have hbq := Fam.wld_below wa nq
        generalize Fam.wld wa nq = w9 at hbq ⊢
        replace HB := Lib.hid (HB.out.trans (hbq.mono HB.out.size))
        clear hbq z0 z1 z2 v0 v1 v2
        go_wp2
        go_roundw
        case rel => exact ⟨p + 1 + 1, by omega, by go_num, HU1.out, HB.out⟩
        case measure => simp [intOf]; omega
      ·have hd2 : (m0 == n0) = false := beq_eq_false_iff_ne.2 c2
       have HU1 := Lib.hid (HY.out (by simp [ltB]; omega))
       go_wp2
       have y0 := cells_new wr #[.int .i64 n0, .int .i64 n1, .int .i64 n2] 161 0 _ rfl
       have y1 := cells_new wr #[.int .i64 n0, .int .i64 n1, .int .i64 n2] 161 1 _ rfl
       have y2 := cells_new wr #[.int .i64 n0, .int .i64 n1, .int .i64 n2] 161 2 _ rfl
       have hs9 : wr.heap.size < (wr.alloc (.cells #[.int .i64 n0, .int .i64 n1, .int .i64 n2] 161)).heap.size := by simp
       generalize wr.alloc (.cells #[.int .i64 n0, .int .i64 n1, .int .i64 n2] 161) = wa at y0 y1 y2 hs9 HB ⊢ f0 f1 f2
       have z0 := Fam.cell (W := wa) (p := ⟨wr.heap.size, 0, none⟩) hs9 y0
       have z1 := Fam.cell (W := wa) (p := ⟨wr.heap.size, 1, none⟩) hs9 y1
       have z2 := Fam.cell (W := wa) (p := ⟨wr.heap.size, 2, none⟩) hs9 y2
       have v0 := Fam.cell (W := wa) (p := ⟨b, o + p * 3, none⟩) (Nat.lt_trans hb9 hs9) f0
       have v1 := Fam.cell (W := wa) (p := ⟨b, o + p * 3 + 1, none⟩) (Nat.lt_trans hb9 hs9) f1
       have v2 := Fam.cell (W := wa) (p := ⟨b, o + p * 3 + 2, none⟩) (Nat.lt_trans hb9 hs9) f2
       refine Fam.region (by kernel_rfl) (by kernel_rfl) ?_
       repeat (go_big_quiet_step (first | (go_at_call 209; with_reducible refine Fam.calls (HE.out _))))
       refine wpQuiet_nil ?_
       intro _ hw'
       obtain ⟨nq, hw''⟩ := hw'
       subst hw''
       have hbq := Fam.wld_below wa nq
       generalize Fam.wld wa nq = w9 at hbq ⊢
       replace HB := Lib.hid (HB.out.trans (hbq.mono HB.out.size))
       clear hbq z0 z1 z2 v0 v1 v2
       go_wp2
       go_roundw
       case rel => exact ⟨p + 1 + 1, by omega, by go_num, HU1.out, HB.out⟩
       case measure => simp [intOf]; omega
  ·obtain rfl : k = N := by omega
   by_cases hz : k = 0
   ·have HF := Lib.hid (ok_zero (l := l) (by rw [<- HN.out]; exact hz))
    subst hz
    go_wp2
    go_ret
    exact ⟨ret_bool HF.out.symm, HBEL.out⟩
   ·obtain ⟨p, rfl⟩ : ∃ p, k = p + 1 := ⟨k - 1, by omega⟩
    obtain ⟨b, o, rfl, hb, g0, g1, g2⟩ := HC.out p (by rw [<- HN.out]; omega)
    rw [<- HBEL.out.cell (p := ⟨b, _, none⟩) hb] at g0 g1 g2
    have HF := Lib.hid (ok_last HN.out.symm HUP.out)
    generalize l.getD p a0 = x at g0 g1 g2 HF
    obtain ⟨n0, n1, n2⟩ := x
    dsimp only at g0 g1 g2 HF
    have hne : (((p + 1 : Nat) : Int) == 0) = false := beq_eq_false_iff_ne.2 (by omega)
    by_cases h6 : p + 1 <= 6
    ·have hd : decide (((p + 1 : Nat) : Int) <= 6) = true := decide_eq_true (by omega)
     have hd9 : decide (p + 1 <= 6) = true := decide_eq_true h6
     go_wp2
     go_ret
     exact ⟨ret_bool (by rw [HF.out, hd9, Bool.true_and]; rfl), HBEL.out⟩
    ·have hd : decide (((p + 1 : Nat) : Int) <= 6) = false := decide_eq_false (by omega)
     have hd9 : decide (p + 1 <= 6) = false := decide_eq_false h6
     go_wp2
     go_ret
     exact ⟨ret_bool (by rw [HF.out, hd9, Bool.false_and]; simp; omega), HBEL.out⟩
end Go.Proofs.YthppbcnejapbiaaGreatDoor.AclI
