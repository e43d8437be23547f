/- Contracts: the program's PackAcl and the model's return, for every list of entries, its bytes. Condition: the list's length. -/
import Derived.Test.YthobdeidjagnhaaDoorAclI
import Derived.Test.YthobdeidjagnhaaDoorAclP
import Derived.Test.YthobdeidjagnhaaDoorPadToImpl
import Derived.Test.YthobdeidjagnhaaDoorJoin
import Derived.Test.YthobdeidjagnhaaDoorHexOf
import Derived.Deep.RegionHeld3
namespace Go.Proofs.YthobdeidjagnhaaDoor.AclK
open Go.ChangeShapes Go.WideShapes Go.ChangeAt Go.RowKit
open AclV AclB AclP
open Strs (ret_str)
set_option linter.unusedVariables false

theorem one_size (c : UInt8) : (⟨#[c]⟩ : ByteArray).size = 1 := rfl
/-- What one entry adds. -/
theorem acc_next {l : List At} {k : Nat} (hk : k < l.length) (he : entB (l.getD k a0) = true) :
    accP l k ++ ⟨#[by1 (l.getD k a0).1]⟩ ++ ⟨#[by1 (l.getD k a0).2.1]⟩ ++ ⟨#[by1 (l.getD k a0).2.2]⟩ = accP l (k + 1) := by
  have f := ent_facts he
  have := acc_succ k hk he
  rwa [put1 (by omega) (by omega), put1 (by omega) (by omega), put1 (by omega) (by omega)] at this
theorem pack_no {l : List At} (h : okB l = false) : packV l = ⟨#[]⟩ := by
  rw [packV, if_neg (by rw [h]; simp)]


set_option maxRecDepth 100000 in
set_option maxHeartbeats 1600000 in
theorem spec_any (w : World) (v : Value) (l : List At) (hn : l.length ≤ 1073741824) (h : Ae.Holds w v l) :
    Calls Tryd.prog 53 #[v] w fun e w' => e = .returned (.string (packV l)) ∧ Below w.heap.size w w' := by
  have HI := Lib.hid (AclI.spec_any w v l hn h)
  obtain ⟨a, c, rfl, hc⟩ := Ae.atL h
  clear h
  have HC := Lib.hid hc
  clear hc
  obtain ⟨N, hN⟩ : ∃ N, N = l.length := ⟨_, rfl⟩
  rw [← hN] at hn HI ⊢
  have HN := Lib.hid hN
  clear hN
  cases hok : okB l
  · rw [hok] at HI
    have HV := Lib.hid (pack_no hok)
    clear hok
    go_enter Tryd.func53, Tryd.ntmps53
    go_wp2_with fail
    refine HI.out.mono ?_
    rintro e w1 ⟨rfl, hb⟩
    have HB := Lib.hid hb
    clear hb
    go_wp2
    go_ret
    exact ⟨ret_str HV.out.symm, HB.out⟩
  · rw [hok] at HI
    have h6 := ok_len hok
    rw [← HN.out] at h6
    have HZ := Lib.hid (show Nums.putB (N : Int) 1 = accP l 0 by rw [HN.out]; exact acc_zero (ok_len hok))
    have HE := Lib.hid (show ∀ k, k < N → entB (l.getD k a0) = true from fun k hk => up_ent (ok_up hok) (by rw [← HN.out]; exact hk))
    have HW := Lib.hid (acc_pad hok)
    clear hok
    go_enter Tryd.func53, Tryd.ntmps53
    go_wp2_with fail
    refine HI.out.mono ?_
    rintro e w1 ⟨rfl, hb⟩
    have HB := Lib.hid hb
    clear hb
    go_wp2_with fail
    refine (PutNumber.spec_any (N : Int) 1 _ (by omega) (by omega)).mono ?_
    rintro e w2 ⟨rfl, hb⟩
    replace HB := Lib.hid (HB.out.trans (hb.mono HB.out.size))
    clear hb
    rw [HZ.out]
    go_wp2_with fail
    go_loopw [3, 14] (fun sv iv wr => ∃ k : Nat, k ≤ N ∧ iv = .int .i64 k ∧ sv = .string (accP l k) ∧ Below w.heap.size w wr) (fun _ iv _ => N - (intOf iv).toNat)
    case atStart => exact ⟨0, Nat.zero_le _, rfl, rfl, HB.out⟩
    case round =>
      obtain ⟨k, hk, rfl, rfl, hbel⟩ := hrel
      have HBEL := Lib.hid hbel
      have hsz := hbel.size
      clear hbel HB
      by_cases hlt : k < N
      · have hlx : k < l.length := by rw [← HN.out]; exact hlt
        obtain ⟨b, o, rfl, hb, g0, g1, g2⟩ := HC.out k hlx
        rw [← HBEL.out.cell (p := ⟨b, _, none⟩) hb] at g0 g1 g2
        have hent := HE.out k hlt
        have hfx := ent_facts hent
        have HNX := Lib.hid (acc_next hlx hent)
        have hsa := acc_size l k (by omega)
        clear hent
        generalize accP l k = S at hsa HNX ⊢
        generalize l.getD k a0 = x at g0 g1 g2 hfx HNX
        obtain ⟨n0, n1, n2⟩ := x
        dsimp only at g0 g1 g2 hfx HNX
        have HP0 : ∀ W : World, Calls Tryd.prog 51 #[.int .i64 n0, .int .i64 1] W fun e w' => e = .returned (.string ⟨#[by1 n0]⟩) ∧ Below W.heap.size W w' := fun W => by
          have := PutNumber.spec_any n0 1 W (by omega) (by omega)
          rw [put1 (by omega) (by omega)] at this; exact this
        have HP1 : ∀ W : World, Calls Tryd.prog 51 #[.int .i64 n1, .int .i64 1] W fun e w' => e = .returned (.string ⟨#[by1 n1]⟩) ∧ Below W.heap.size W w' := fun W => by
          have := PutNumber.spec_any n1 1 W (by omega) (by omega)
          rw [put1 (by omega) (by omega)] at this; exact this
        have HP2 : ∀ W : World, Calls Tryd.prog 51 #[.int .i64 n2, .int .i64 1] W fun e w' => e = .returned (.string ⟨#[by1 n2]⟩) ∧ Below W.heap.size W w' := fun W => by
          have := PutNumber.spec_any n2 1 W (by omega) (by omega)
          rw [put1 (by omega) (by omega)] at this; exact this
        have HQ0 := Lib.hid HP0
        have HQ1 := Lib.hid HP1
        have HQ2 := Lib.hid HP2
        clear HP0 HP1 HP2 hfx
        have e0 := one_size (by1 n0)
        have e1 := one_size (by1 n1)
        have e2 := one_size (by1 n2)
        generalize (⟨#[by1 n0]⟩ : ByteArray) = P0 at e0 HQ0 HNX
        generalize (⟨#[by1 n1]⟩ : ByteArray) = P1 at e1 HQ1 HNX
        generalize (⟨#[by1 n2]⟩ : ByteArray) = P2 at e2 HQ2 HNX
        have hz0 : (9223372036854775807 < S.size + P0.size) = False := eq_false (by omega)
        have hz1 : (9223372036854775807 < S.size + P0.size + P1.size) = False := eq_false (by omega)
        have hz2 : (9223372036854775807 < S.size + P0.size + P1.size + P2.size) = False := eq_false (by omega)
        have hz3 : (9223372036854775807 < (S ++ P0).size + P1.size) = False := eq_false (by rw [ByteArray.size_append]; omega)
        have hz4 : (9223372036854775807 < (S ++ P0 ++ P1).size + P2.size) = False := eq_false (by rw [ByteArray.size_append, ByteArray.size_append]; omega)
        clear hsa e0 e1 e2
        have HB := Lib.hid (HBEL.out.alloc hsz (.cells #[.int .i64 n0, .int .i64 n1, .int .i64 n2] 69))
        have y0 := cells_new wr #[.int .i64 n0, .int .i64 n1, .int .i64 n2] 69 0 _ rfl
        have y1 := cells_new wr #[.int .i64 n0, .int .i64 n1, .int .i64 n2] 69 1 _ rfl
        have y2 := cells_new wr #[.int .i64 n0, .int .i64 n1, .int .i64 n2] 69 2 _ rfl
        have hs9 : wr.heap.size < (wr.alloc (.cells #[.int .i64 n0, .int .i64 n1, .int .i64 n2] 69)).heap.size := by simp
        go_wp2
        generalize wr.alloc (.cells #[.int .i64 n0, .int .i64 n1, .int .i64 n2] 69) = wa at y0 y1 y2 hs9 HB ⊢
        have z0 := Fam.cell (W := wa) (p := ⟨wr.heap.size, 0, none⟩) hs9 y0
        have z1 := Fam.cell (W := wa) (p := ⟨wr.heap.size, 1, none⟩) hs9 y1
        have z2 := Fam.cell (W := wa) (p := ⟨wr.heap.size, 2, none⟩) hs9 y2
        refine Fam.region (by kernel_rfl) (by kernel_rfl) ?_
        repeat (go_big_quiet_step (first | (go_at_call 51; with_reducible refine Fam.calls (HQ0.out _)) | (go_at_call 51; with_reducible refine Fam.calls (HQ1.out _)) | (go_at_call 51; with_reducible refine Fam.calls (HQ2.out _))))
        refine wpQuiet_nil ?_
        intro _ hw'
        obtain ⟨nq, hw''⟩ := hw'
        subst hw''
        have hbq := Fam.wld_below wa nq
        generalize Fam.wld wa nq = w9 at hbq ⊢
        replace HB := Lib.hid (HB.out.trans (hbq.mono HB.out.size))
        clear hbq z0 z1 z2
        go_wp2
        go_roundw
        case rel => exact ⟨k + 1, by omega, by go_num, by rw [← HNX.out], HB.out⟩
        case measure => simp [intOf]; omega
      · obtain rfl : k = N := by omega
        have hsa := acc_size l k (by rw [← HN.out]; exact Nat.le_refl _)
        have HK := Lib.hid HN.out
        go_wp2_with fail
        refine (PadTo.spec_any (accP l k) 19 _ (by omega)).mono ?_
        rintro e w3 ⟨rfl, hb⟩
        have HB := Lib.hid (HBEL.out.trans (hb.mono HBEL.out.size))
        clear hb
        go_wp2
        go_ret
        exact ⟨ret_str (by rw [HK.out]; exact HW.out), HB.out⟩


/-- A row of one string that has just been laid. -/
theorem own_one (w : World) (x : Value) (e : TypeId) : (w.alloc (.cells #[x] e)).ownsRow w.heap.size e 1 (.slice (some ⟨w.heap.size, 0, none⟩) 1 1) 1 [x] := by
  refine ⟨rfl, .inr ⟨w.heap.size, 1, #[x], rfl, Nat.le_refl _, ?_, Nat.le_refl _, (by unfold maxLen; omega), rfl, rfl⟩⟩
  exact (MapKept.heap_alloc w _).1
theorem cells3_new (w : World) (x y z : Value) (T : TypeId) : ∀ j u, [x, y, z][j]? = some u → (w.alloc (.cells #[x, y, z] T)).cell? ((⟨w.heap.size, 0, none⟩ : Addr).add j) = some u := by
  intro j u hj
  rw [Addr.add_lit, Nat.zero_add, World.cell?_alloc_at _ _ _ _ rfl]
  simpa using hj
/-- The fields with k entries laid. -/
def fldP (l : List At) (k : Nat) : List ByteArray := ⟨#[by1 l.length]⟩ :: (l.take k).flatMap fun x => [⟨#[by1 x.1]⟩, ⟨#[by1 x.2.1]⟩, ⟨#[by1 x.2.2]⟩]
theorem fld_zero (l : List At) : fldP l 0 = [⟨#[by1 l.length]⟩] := by simp [fldP]
theorem fld_succ {l : List At} {k : Nat} (hk : k < l.length) : fldP l (k + 1) = fldP l k ++ [⟨#[by1 (l.getD k a0).1]⟩, ⟨#[by1 (l.getD k a0).2.1]⟩, ⟨#[by1 (l.getD k a0).2.2]⟩] := by
  have eg : l.getD k a0 = l[k] := by rw [List.getD_eq_getElem?_getD, List.getElem?_eq_getElem hk]; rfl
  rw [eg, fldP, List.take_succ_eq_append_getElem hk, List.flatMap_append, fldP]
  simp
theorem fld_length (l : List At) (k : Nat) (hk : k ≤ l.length) : (fldP l k).length = 1 + 3 * k := by
  induction k with
  | zero => simp [fldP]
  | succ k ih => rw [fld_succ (by omega), List.length_append, ih (by omega)]; simp; omega
theorem total_append (a b : List ByteArray) : Strs.total (a ++ b) = Strs.total a + Strs.total b := by simp [Strs.total]
theorem fld_total (l : List At) (k : Nat) (hk : k ≤ l.length) : Strs.total (fldP l k) = 1 + 3 * k := by
  induction k with
  | zero => simp [fldP, Strs.total, ByteArray.size]
  | succ k ih => rw [fld_succ (by omega), total_append, ih (by omega)]; simp [Strs.total, ByteArray.size]; omega
theorem join_nil (xs : List ByteArray) (k : Nat) : Join.joined xs ⟨#[]⟩ (k + 1) = Join.joined xs ⟨#[]⟩ k ++ xs.getD k ⟨#[]⟩ := by
  rw [Join.joined]
  split
  · rfl
  · congr 1
    apply ext; simp
theorem join_step (xs ys : List ByteArray) (k : Nat) (hk : k ≤ xs.length) : Join.joined (xs ++ ys) ⟨#[]⟩ k = Join.joined xs ⟨#[]⟩ k := by
  induction k with
  | zero => rfl
  | succ k ih =>
    rw [join_nil, join_nil, ih (by omega)]
    congr 1
    rw [List.getD_eq_getElem?_getD, List.getD_eq_getElem?_getD, List.getElem?_append_left (by omega)]
theorem join_app (xs : List ByteArray) (y : ByteArray) : Join.joined (xs ++ [y]) ⟨#[]⟩ (xs ++ [y]).length = Join.joined xs ⟨#[]⟩ xs.length ++ y := by
  rw [List.length_append, List.length_singleton, join_nil, join_step _ _ _ (Nat.le_refl _)]
  congr 1
  simp [List.getD]
/-- The joined fields are the bytes laid. -/
theorem fld_join (l : List At) (k : Nat) (hk : k ≤ l.length) : Join.joined (fldP l k) ⟨#[]⟩ (fldP l k).length = accP l k := by
  induction k with
  | zero =>
    rw [fld_zero]
    show Join.joined _ _ (0 + 1) = _
    rw [join_nil]
    apply ext
    simp [Join.joined, accP, tripL]
  | succ k ih =>
    have hk2 : k < l.length := by omega
    have e := fld_succ hk2
    rw [show fldP l k ++ [⟨#[by1 (l.getD k a0).1]⟩, ⟨#[by1 (l.getD k a0).2.1]⟩, ⟨#[by1 (l.getD k a0).2.2]⟩] = ((fldP l k ++ [⟨#[by1 (l.getD k a0).1]⟩]) ++ [⟨#[by1 (l.getD k a0).2.1]⟩]) ++ [⟨#[by1 (l.getD k a0).2.2]⟩] by simp] at e
    rw [e, join_app, join_app, join_app, ih (by omega)]
    have eg : l.getD k a0 = l[k] := by rw [List.getD_eq_getElem?_getD, List.getElem?_eq_getElem hk2]; rfl
    rw [eg]
    apply ext
    simp only [accP, ByteArray.data_append, Array.toList_append, List.toList_toArray, List.take_succ_eq_append_getElem hk2, tripL, List.flatMap_append]
    simp

set_option maxRecDepth 100000 in
set_option maxHeartbeats 4000000 in
theorem impl_any (w : World) (v : Value) (l : List At) (hn : l.length ≤ 1073741824) (h : Ae.Holds w v l) :
    Calls Tryd.prog 32 #[v] w fun e w' => e = .returned (.string (packV l)) ∧ Below w.heap.size w w' := by
  obtain ⟨i0, hi, hz0, hz1, hz2⟩ := info_parts Strs.strInfo
  have HI := Lib.hid (AclI.impl_any w v l hn h)
  obtain ⟨a, c, rfl, hc⟩ := Ae.atL h
  clear h
  have HC := Lib.hid hc
  clear hc
  obtain ⟨N, hN⟩ : ∃ N, N = l.length := ⟨_, rfl⟩
  rw [← hN] at hn HI ⊢
  have HN := Lib.hid hN
  clear hN
  have HF0 := Lib.hid hi
  have HF1 := Lib.hid hz0
  have HF2 := Lib.hid hz1
  have HF3 := Lib.hid hz2
  clear hi hz0 hz1 hz2
  cases hok : okB l
  · rw [hok] at HI
    have HV := Lib.hid (pack_no hok)
    clear hok
    go_enter Tryd.func32, Tryd.ntmps32
    go_wp2_with fail
    refine HI.out.mono ?_
    rintro e w1 ⟨rfl, hb⟩
    have HB := Lib.hid hb
    clear hb
    go_wp2
    go_ret
    exact ⟨ret_str HV.out.symm, HB.out⟩
  · rw [hok] at HI
    have h6 := ok_len hok
    rw [← HN.out] at h6
    have HZ := Lib.hid (show Nums.putB (N : Int) 1 = ⟨#[by1 l.length]⟩ by rw [put1 (by omega) (by omega), HN.out])
    have HE := Lib.hid (show ∀ k, k < N → entB (l.getD k a0) = true from fun k hk => up_ent (ok_up hok) (by rw [← HN.out]; exact hk))
    have HW := Lib.hid (acc_pad hok)
    clear hok
    go_enter Tryd.func32, Tryd.ntmps32
    go_wp2_with fail
    refine HI.out.mono ?_
    rintro e w1 ⟨rfl, hb⟩
    have HB := Lib.hid hb
    clear hb
    go_wp2_with fail
    refine (PutNumber.impl_any (N : Int) 1 _ (by omega) (by omega)).mono ?_
    rintro e w2 ⟨rfl, hb⟩
    replace HB := Lib.hid (HB.out.trans (hb.mono HB.out.size))
    clear hb
    rw [HZ.out]
    go_wp2_with fail
    have hown := own_one w2 (.string ⟨#[by1 l.length]⟩) 9
    have HO := Lib.hid (show (w2.alloc (.cells #[.string ⟨#[by1 l.length]⟩] 9)).ownsRow w.heap.size 9 1 (.slice (some ⟨w2.heap.size, 0, none⟩) 1 1) (1 + 3 * 0) ((fldP l 0).map Value.string) by
      rw [fld_zero]; exact SplitAny.own_mono hown HB.out.size)
    replace HB := Lib.hid (HB.out.alloc HB.out.size (.cells #[.string ⟨#[by1 l.length]⟩] 9))
    clear hown
    go_loopw [3, 15] (fun sv iv wr => ∃ k : Nat, k ≤ N ∧ iv = .int .i64 k ∧ wr.ownsRow w.heap.size 9 1 sv (1 + 3 * k) ((fldP l k).map Value.string) ∧ Below w.heap.size w wr) (fun _ iv _ => N - (intOf iv).toNat)
    case atStart => exact ⟨0, Nat.zero_le _, rfl, HO.out, HB.out⟩
    case round =>
      obtain ⟨k, hk, rfl, hown, hbel⟩ := hrel
      have HBEL := Lib.hid hbel
      have hsz := hbel.size
      obtain ⟨g, cap, rfl, hbg⟩ := HexOf.own_form hown (by omega)
      have HOWN := Lib.hid hown
      clear hbel HB HO hown
      by_cases hlt : k < N
      · have hlx : k < l.length := by rw [← HN.out]; exact hlt
        obtain ⟨b, o, rfl, hb, g0, g1, g2⟩ := HC.out k hlx
        rw [← HBEL.out.cell (p := ⟨b, _, none⟩) hb] at g0 g1 g2
        have hent := HE.out k hlt
        have hfx := ent_facts hent
        have HNX := Lib.hid (fld_succ hlx)
        clear hent
        generalize l.getD k a0 = x at g0 g1 g2 hfx HNX
        obtain ⟨n0, n1, n2⟩ := x
        dsimp only at g0 g1 g2 hfx HNX
        have HP0 : ∀ W : World, Calls Tryd.prog 30 #[.int .i64 n0, .int .i64 1] W fun e w' => e = .returned (.string ⟨#[by1 n0]⟩) ∧ Below W.heap.size W w' := fun W => by
          have := PutNumber.impl_any n0 1 W (by omega) (by omega)
          rw [put1 (by omega) (by omega)] at this; exact this
        have HP1 : ∀ W : World, Calls Tryd.prog 30 #[.int .i64 n1, .int .i64 1] W fun e w' => e = .returned (.string ⟨#[by1 n1]⟩) ∧ Below W.heap.size W w' := fun W => by
          have := PutNumber.impl_any n1 1 W (by omega) (by omega)
          rw [put1 (by omega) (by omega)] at this; exact this
        have HP2 : ∀ W : World, Calls Tryd.prog 30 #[.int .i64 n2, .int .i64 1] W fun e w' => e = .returned (.string ⟨#[by1 n2]⟩) ∧ Below W.heap.size W w' := fun W => by
          have := PutNumber.impl_any n2 1 W (by omega) (by omega)
          rw [put1 (by omega) (by omega)] at this; exact this
        have HQ0 := Lib.hid HP0
        have HQ1 := Lib.hid HP1
        have HQ2 := Lib.hid HP2
        clear HP0 HP1 HP2 hfx
        generalize (⟨#[by1 n0]⟩ : ByteArray) = P0 at HQ0 HNX
        generalize (⟨#[by1 n1]⟩ : ByteArray) = P1 at HQ1 HNX
        generalize (⟨#[by1 n2]⟩ : ByteArray) = P2 at HQ2 HNX
        have HB := Lib.hid (HBEL.out.alloc hsz (.cells #[.int .i64 n0, .int .i64 n1, .int .i64 n2] 69))
        have HO := Lib.hid (World.ownsRow.alloc HOWN.out (.cells #[.int .i64 n0, .int .i64 n1, .int .i64 n2] 69))
        have y0 := cells_new wr #[.int .i64 n0, .int .i64 n1, .int .i64 n2] 69 0 _ rfl
        have y1 := cells_new wr #[.int .i64 n0, .int .i64 n1, .int .i64 n2] 69 1 _ rfl
        have y2 := cells_new wr #[.int .i64 n0, .int .i64 n1, .int .i64 n2] 69 2 _ rfl
        have hs9 : wr.heap.size < (wr.alloc (.cells #[.int .i64 n0, .int .i64 n1, .int .i64 n2] 69)).heap.size := by simp
        have hgl : some wr.heap.size ≠ some g := by
          have := (HOWN.out.lt g rfl).2
          simp; omega
        have hsa : w.heap.size ≤ (wr.alloc (.cells #[.int .i64 n0, .int .i64 n1, .int .i64 n2] 69)).heap.size := by simp; omega
        go_wp2
        generalize wr.alloc (.cells #[.int .i64 n0, .int .i64 n1, .int .i64 n2] 69) = wa at y0 y1 y2 hs9 HB HO hsa ⊢
        go_region_held3 (fun wz => wz.cell? ⟨wr.heap.size, 0, none⟩ = some (.int .i64 n0) ∧ wz.cell? ⟨wr.heap.size, 1, none⟩ = some (.int .i64 n1) ∧ wz.cell? ⟨wr.heap.size, 2, none⟩ = some (.int .i64 n2)) (go_keep) (first | (go_at_call 30; (first | (with_reducible refine (HQ0.out _).mono ?_) | (with_reducible refine (HQ1.out _).mono ?_) | (with_reducible refine (HQ2.out _).mono ?_)); rintro e w3 ⟨rfl, hb⟩; have q0 := (hb.cell (p := ⟨wr.heap.size, 0, none⟩) hs9).trans y0; have q1 := (hb.cell (p := ⟨wr.heap.size, 1, none⟩) hs9).trans y1; have q2 := (hb.cell (p := ⟨wr.heap.size, 2, none⟩) hs9).trans y2; replace y0 := q0; replace y1 := q1; replace y2 := q2; clear q0 q1 q2; (first | (replace HO := Lib.hid (Strs.own_below HO.out hb)) | (replace HO := Lib.hid (Strs.own_below (show wa.drew.ownsRow _ _ _ _ _ _ from HO.out) hb))); (first | (replace HB := Lib.hid (HB.out.trans (hb.mono HB.out.size))) | (replace HB := Lib.hid (HB.out.drew.trans (hb.mono HB.out.drew.size)))); replace hs9 := Nat.lt_of_lt_of_le hs9 hb.size; have hs3 := Nat.le_trans hsa hb.size; replace hsa := hs3; clear hb hs3) | (refine HexOf.step_append_own rfl _ _ 57 rfl w.heap.size 9 i0 (.string ⟨#[]⟩) 1 16 Tryd.underlying57 HF0.out HF1.out HF2.out HF3.out rfl (by decide) _ _ _ rfl (World.ownsRow.alloc HO.out _) ⟨w3.heap.size, 0, none⟩ 3 3 [.string P0, .string P1, .string P2] rfl rfl (cells3_new _ _ _ _ _) (by simp [Value.oneCell']) (by unfold maxLen; omega) (by omega) (by simp; omega) ?_; intro v' w9 hown1 hg1 _; have p0 := hg1.cell (a := ⟨wr.heap.size, 0, none⟩) (by rw [World.cell?_alloc_lt _ _ _ hs9]; exact y0) hgl; have p1 := hg1.cell (a := ⟨wr.heap.size, 1, none⟩) (by rw [World.cell?_alloc_lt _ _ _ hs9]; exact y1) hgl; have p2 := hg1.cell (a := ⟨wr.heap.size, 2, none⟩) (by rw [World.cell?_alloc_lt _ _ _ hs9]; exact y2) hgl; have HO9 := Lib.hid hown1; have HB9 := Lib.hid ((HB.out.alloc hsa (.cells #[.string P0, .string P1, .string P2] 9)).grown hg1 (by simp; omega) (fun k hk => (HO.out.lt k hk).1)); clear hown1 hg1))
        go_wp2
        go_roundw
        case rel => exact ⟨k + 1, by omega, by go_num, by rw [HNX.out, List.map_append]; exact HO9.out, HB9.out⟩
        case measure => simp [intOf]; omega
      · obtain rfl : k = N := by omega
        have hlk : k ≤ l.length := by rw [← HN.out]; exact Nat.le_refl _
        have hsa := acc_size l k hlk
        have hfl := fld_length l k hlk
        have HLJ := Lib.hid (show 1 + 3 * k = (fldP l k).length from hfl.symm)
        have HH := Lib.hid (Strs.holds_of_own HOWN.out)
        have HCAP := Lib.hid (Join.cap_of_own HOWN.out)
        have HJ := Lib.hid (fld_join l k hlk)
        have htt := fld_total l k hlk
        have HTT := Lib.hid (show (fldP l k).length + Strs.total (fldP l k) ≤ 2097152 by omega)
        have HK := Lib.hid HN.out
        clear htt
        go_wp2_with fail
        refine (Join.impl_any _ _ (fldP l k) ⟨#[]⟩ (by decide) HTT.out HH.out HCAP.out).mono ?_
        rw [HJ.out]
        rintro e w3 ⟨rfl, hb⟩
        have HB := Lib.hid (HBEL.out.trans (hb.mono HBEL.out.size))
        clear hb
        go_wp2_with fail
        refine (PadTo.impl_any (accP l k) 19 _ (by omega) (by omega)).mono ?_
        rintro e w4 ⟨rfl, hb⟩
        replace HB := Lib.hid (HB.out.trans (hb.mono HB.out.size))
        clear hb
        go_wp2
        go_ret
        exact ⟨ret_str (by rw [HK.out]; exact HW.out), HB.out⟩

end Go.Proofs.YthobdeidjagnhaaDoor.AclK
