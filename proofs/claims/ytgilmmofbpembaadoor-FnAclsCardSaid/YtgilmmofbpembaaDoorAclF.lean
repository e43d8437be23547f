/- Contracts: the program's FormatAcl and the model's return, for every list of entries, its text. Condition: the list's length. -/
import Derived.Test.YtgilmmofbpembaaDoorAclK
import Derived.Test.YtgilmmofbpembaaDoorFormatInt
namespace Go.Proofs.YtgilmmofbpembaaDoor.AclF
open Go.ChangeShapes Go.WideShapes Go.ChangeAt Go.RowKit
open AclV AclB AclP
open Strs (ret_str)
set_option linter.unusedVariables false

theorem dig_nat (m : Nat) (h : m ≤ 9) : (⟨(Lib.decDigits m).toArray⟩ : ByteArray) = ⟨#[digC (m : Int)]⟩ := by
  rw [Lib.decDigits_one (by omega)]
  rfl
theorem impl_dig (n : Int) (h0 : 0 ≤ n) (h9 : n ≤ 9) (w : World) :
    Calls Tryd.prog 48 #[.int .i64 n] w fun e w' => e = .returned (.string ⟨#[digC n]⟩) ∧ w = w' := by
  obtain ⟨m, rfl⟩ := Int.eq_ofNat_of_zero_le h0
  have hc := Tryd.strconv_Itoa_small m (by omega) w
  rw [dig_nat m (by omega)] at hc
  have HC := Lib.hid hc
  clear hc h0 h9
  generalize (⟨#[digC (m : Int)]⟩ : ByteArray) = D at HC ⊢
  go_enter Tryd.func48, Tryd.ntmps48
  go_wp2_with fail
  refine HC.out.mono ?_
  rintro e w1 ⟨rfl, rfl⟩
  go_wp2
  go_ret
  exact ⟨rfl, rfl⟩
theorem spec_dig (n : Int) (h0 : 0 ≤ n) (h9 : n ≤ 9) (w : World) :
    Calls Tryd.prog 34 #[.int .i64 n] w fun e w' => e = .returned (.string ⟨#[digC n]⟩) ∧ Below w.heap.size w w' := by
  have := FormatInt.spec_any n w (by omega) (by omega)
  rw [FormatInt.itoaB, itoa_dig h0 h9] at this
  exact this
theorem dig_size (c : UInt8) : (⟨#[c]⟩ : ByteArray).size = 1 := rfl
theorem ent_parts (x : At) : (⟨#[tagC x.1]⟩ : ByteArray) ++ ⟨#[digC x.2.1]⟩ ++ ⟨#[58]⟩ ++ ⟨#[digC x.2.2]⟩ = entT x := by
  apply ext
  simp [entT, entL]
theorem tag_cases {x : At} (he : entB x = true) : x.1 = 1 ∨ x.1 = 2 ∨ x.1 = 3 := by have := ent_facts he; omega
theorem format_no {l : List At} (h : okB l = false) : formatV l = ⟨#[]⟩ := by rw [formatV, if_neg (by rw [h]; simp)]
theorem format_nil : formatV [] = ⟨#[45]⟩ := by
  rw [formatV, if_pos (AclI.ok_zero rfl), if_pos rfl]


set_option maxRecDepth 100000 in
set_option maxHeartbeats 1600000 in
theorem ent_any (x : At) (he : entB x = true) (w : World) :
    Calls Tryd.prog 25 #[.agg #[.int .i64 x.1, .int .i64 x.2.1, .int .i64 x.2.2]] w fun e w' => e = .returned (.string (entT x)) ∧ Below w.heap.size w w' := by
  have hfx := ent_facts he
  have htc := tag_cases he
  have HP := Lib.hid (ent_parts x)
  clear he
  obtain ⟨n0, n1, n2⟩ := x
  dsimp only at hfx htc HP ⊢
  have hp1 : ∀ W : World, Calls Tryd.prog 48 #[.int .i64 n1] W fun e w' => e = .returned (.string ⟨#[digC n1]⟩) ∧ W = w' := fun W => impl_dig n1 (by omega) (by omega) W
  have hp2 : ∀ W : World, Calls Tryd.prog 48 #[.int .i64 n2] W fun e w' => e = .returned (.string ⟨#[digC n2]⟩) ∧ W = w' := fun W => impl_dig n2 (by omega) (by omega) W
  have e1 := dig_size (digC n1)
  have e2 := dig_size (digC n2)
  generalize (⟨#[digC n1]⟩ : ByteArray) = D1 at e1 hp1 HP
  generalize (⟨#[digC n2]⟩ : ByteArray) = D2 at e2 hp2 HP
  have H1 := Lib.hid hp1
  have H2 := Lib.hid hp2
  clear hp1 hp2 hfx
  rcases htc with rfl | rfl | rfl
  · have HQ := Lib.hid (show (⟨#[117]⟩ : ByteArray) ++ D1 ++ ⟨#[58]⟩ ++ D2 = entT (1, n1, n2) from HP.out)
    have hix : ((⟨#[117, 103, 109]⟩ : ByteArray)[0]'(by decide)).toNat = 117 := rfl
    have hec : Utf8.encode 117 = ⟨#[117]⟩ := by kernel_rfl
    have e0 : (⟨#[117]⟩ : ByteArray).size = 1 := rfl
    have e3 : (⟨#[58]⟩ : ByteArray).size = 1 := rfl
    have hz0 : (9223372036854775807 < (⟨#[117]⟩ : ByteArray).size + D1.size) = False := eq_false (by omega)
    have hz1 : (9223372036854775807 < 1 + D1.size) = False := eq_false (by omega)
    have hz2 : (9223372036854775807 < ((⟨#[117]⟩ : ByteArray) ++ D1).size + (⟨#[58]⟩ : ByteArray).size) = False := eq_false (by rw [ByteArray.size_append]; omega)
    have hz3 : (9223372036854775807 < (⟨#[117]⟩ : ByteArray).size + D1.size + (⟨#[58]⟩ : ByteArray).size + D2.size) = False := eq_false (by omega)
    have hz4 : (9223372036854775807 < ((⟨#[117]⟩ : ByteArray) ++ D1 ++ ⟨#[58]⟩).size + D2.size) = False := eq_false (by rw [ByteArray.size_append, ByteArray.size_append]; omega)
    have HB := Lib.hid ((Below.refl w.heap.size w).alloc (Nat.le_refl _) (.cells #[.int .i64 1, .int .i64 n1, .int .i64 n2] 30))
    have y1 := cells_new w #[.int .i64 1, .int .i64 n1, .int .i64 n2] 30 1 _ rfl
    have y2 := cells_new w #[.int .i64 1, .int .i64 n1, .int .i64 n2] 30 2 _ rfl
    have hs9 : w.heap.size < (w.alloc (.cells #[.int .i64 1, .int .i64 n1, .int .i64 n2] 30)).heap.size := by simp
    go_enter Tryd.func25, Tryd.ntmps25
    go_wp2
    generalize w.alloc (.cells #[.int .i64 1, .int .i64 n1, .int .i64 n2] 30) = wa at y1 y2 hs9 HB ⊢
    have z1 := Fam.cell (W := wa) (p := ⟨w.heap.size, 1, none⟩) hs9 y1
    have z2 := Fam.cell (W := wa) (p := ⟨w.heap.size, 2, none⟩) hs9 y2
    refine Fam.region (by kernel_rfl) (by kernel_rfl) ?_
    repeat (go_big_quiet_step (first | (go_at_call 48; with_reducible refine Fam.calls_same (H1.out _)) | (go_at_call 48; with_reducible refine Fam.calls_same (H2.out _))))
    refine wpQuiet_nil ?_
    intro _ hw'
    obtain ⟨nq, hw''⟩ := hw'
    subst hw''
    have hbq := Fam.wld_below wa nq
    generalize Fam.wld wa nq = w9 at hbq ⊢
    replace HB := Lib.hid (HB.out.trans (hbq.mono HB.out.size))
    go_wp2
    go_ret
    exact ⟨ret_str HQ.out, HB.out⟩
  · have HQ := Lib.hid (show (⟨#[103]⟩ : ByteArray) ++ D1 ++ ⟨#[58]⟩ ++ D2 = entT (2, n1, n2) from HP.out)
    have hix : ((⟨#[117, 103, 109]⟩ : ByteArray)[1]'(by decide)).toNat = 103 := rfl
    have hec : Utf8.encode 103 = ⟨#[103]⟩ := by kernel_rfl
    have e0 : (⟨#[103]⟩ : ByteArray).size = 1 := rfl
    have e3 : (⟨#[58]⟩ : ByteArray).size = 1 := rfl
    have hz0 : (9223372036854775807 < (⟨#[103]⟩ : ByteArray).size + D1.size) = False := eq_false (by omega)
    have hz1 : (9223372036854775807 < 1 + D1.size) = False := eq_false (by omega)
    have hz2 : (9223372036854775807 < ((⟨#[103]⟩ : ByteArray) ++ D1).size + (⟨#[58]⟩ : ByteArray).size) = False := eq_false (by rw [ByteArray.size_append]; omega)
    have hz3 : (9223372036854775807 < (⟨#[103]⟩ : ByteArray).size + D1.size + (⟨#[58]⟩ : ByteArray).size + D2.size) = False := eq_false (by omega)
    have hz4 : (9223372036854775807 < ((⟨#[103]⟩ : ByteArray) ++ D1 ++ ⟨#[58]⟩).size + D2.size) = False := eq_false (by rw [ByteArray.size_append, ByteArray.size_append]; omega)
    have HB := Lib.hid ((Below.refl w.heap.size w).alloc (Nat.le_refl _) (.cells #[.int .i64 2, .int .i64 n1, .int .i64 n2] 30))
    have y1 := cells_new w #[.int .i64 2, .int .i64 n1, .int .i64 n2] 30 1 _ rfl
    have y2 := cells_new w #[.int .i64 2, .int .i64 n1, .int .i64 n2] 30 2 _ rfl
    have hs9 : w.heap.size < (w.alloc (.cells #[.int .i64 2, .int .i64 n1, .int .i64 n2] 30)).heap.size := by simp
    go_enter Tryd.func25, Tryd.ntmps25
    go_wp2
    generalize w.alloc (.cells #[.int .i64 2, .int .i64 n1, .int .i64 n2] 30) = wa at y1 y2 hs9 HB ⊢
    have z1 := Fam.cell (W := wa) (p := ⟨w.heap.size, 1, none⟩) hs9 y1
    have z2 := Fam.cell (W := wa) (p := ⟨w.heap.size, 2, none⟩) hs9 y2
    refine Fam.region (by kernel_rfl) (by kernel_rfl) ?_
    repeat (go_big_quiet_step (first | (go_at_call 48; with_reducible refine Fam.calls_same (H1.out _)) | (go_at_call 48; with_reducible refine Fam.calls_same (H2.out _))))
    refine wpQuiet_nil ?_
    intro _ hw'
    obtain ⟨nq, hw''⟩ := hw'
    subst hw''
    have hbq := Fam.wld_below wa nq
    generalize Fam.wld wa nq = w9 at hbq ⊢
    replace HB := Lib.hid (HB.out.trans (hbq.mono HB.out.size))
    go_wp2
    go_ret
    exact ⟨ret_str HQ.out, HB.out⟩
  · have HQ := Lib.hid (show (⟨#[109]⟩ : ByteArray) ++ D1 ++ ⟨#[58]⟩ ++ D2 = entT (3, n1, n2) from HP.out)
    have hix : ((⟨#[117, 103, 109]⟩ : ByteArray)[2]'(by decide)).toNat = 109 := rfl
    have hec : Utf8.encode 109 = ⟨#[109]⟩ := by kernel_rfl
    have e0 : (⟨#[109]⟩ : ByteArray).size = 1 := rfl
    have e3 : (⟨#[58]⟩ : ByteArray).size = 1 := rfl
    have hz0 : (9223372036854775807 < (⟨#[109]⟩ : ByteArray).size + D1.size) = False := eq_false (by omega)
    have hz1 : (9223372036854775807 < 1 + D1.size) = False := eq_false (by omega)
    have hz2 : (9223372036854775807 < ((⟨#[109]⟩ : ByteArray) ++ D1).size + (⟨#[58]⟩ : ByteArray).size) = False := eq_false (by rw [ByteArray.size_append]; omega)
    have hz3 : (9223372036854775807 < (⟨#[109]⟩ : ByteArray).size + D1.size + (⟨#[58]⟩ : ByteArray).size + D2.size) = False := eq_false (by omega)
    have hz4 : (9223372036854775807 < ((⟨#[109]⟩ : ByteArray) ++ D1 ++ ⟨#[58]⟩).size + D2.size) = False := eq_false (by rw [ByteArray.size_append, ByteArray.size_append]; omega)
    have HB := Lib.hid ((Below.refl w.heap.size w).alloc (Nat.le_refl _) (.cells #[.int .i64 3, .int .i64 n1, .int .i64 n2] 30))
    have y1 := cells_new w #[.int .i64 3, .int .i64 n1, .int .i64 n2] 30 1 _ rfl
    have y2 := cells_new w #[.int .i64 3, .int .i64 n1, .int .i64 n2] 30 2 _ rfl
    have hs9 : w.heap.size < (w.alloc (.cells #[.int .i64 3, .int .i64 n1, .int .i64 n2] 30)).heap.size := by simp
    go_enter Tryd.func25, Tryd.ntmps25
    go_wp2
    generalize w.alloc (.cells #[.int .i64 3, .int .i64 n1, .int .i64 n2] 30) = wa at y1 y2 hs9 HB ⊢
    have z1 := Fam.cell (W := wa) (p := ⟨w.heap.size, 1, none⟩) hs9 y1
    have z2 := Fam.cell (W := wa) (p := ⟨w.heap.size, 2, none⟩) hs9 y2
    refine Fam.region (by kernel_rfl) (by kernel_rfl) ?_
    repeat (go_big_quiet_step (first | (go_at_call 48; with_reducible refine Fam.calls_same (H1.out _)) | (go_at_call 48; with_reducible refine Fam.calls_same (H2.out _))))
    refine wpQuiet_nil ?_
    intro _ hw'
    obtain ⟨nq, hw''⟩ := hw'
    subst hw''
    have hbq := Fam.wld_below wa nq
    generalize Fam.wld wa nq = w9 at hbq ⊢
    replace HB := Lib.hid (HB.out.trans (hbq.mono HB.out.size))
    go_wp2
    go_ret
    exact ⟨ret_str HQ.out, HB.out⟩


/-- The texts of the first k entries. -/
def txt (l : List At) (k : Nat) : List ByteArray := (l.take k).map entT
theorem txt_zero (l : List At) : txt l 0 = [] := by simp [txt]
theorem txt_succ {l : List At} {k : Nat} (hk : k < l.length) : txt l (k + 1) = txt l k ++ [entT (l.getD k a0)] := by
  have eg : l.getD k a0 = l[k] := by rw [List.getD_eq_getElem?_getD, List.getElem?_eq_getElem hk]; rfl
  rw [eg, txt, List.take_succ_eq_append_getElem hk, List.map_append, txt]
  rfl
theorem txt_all (l : List At) : txt l l.length = l.map entT := by rw [txt, List.take_length]
theorem total_txt (l : List At) : Strs.total (l.map entT) = 4 * l.length := by
  induction l with
  | nil => rfl
  | cons x l ih => rw [List.map_cons, show entT x :: l.map entT = [entT x] ++ l.map entT from rfl, AclK.total_append, ih]; simp [Strs.total, entT_size]; omega
theorem txt_row {w1 : World} {base : Nat} {v : Value} {l : List At} {k : Nat} (hk : k < l.length) (h : w1.ownsRow base 9 1 v (k + 1) ((txt l k).map Value.string ++ [.string (entT (l.getD k a0))])) : w1.ownsRow base 9 1 v (k + 1) ((txt l (k + 1)).map Value.string) := by
  rw [txt_succ hk, List.map_append]; exact h
theorem format_some {l : List At} (h : okB l = true) (hne : 0 < l.length) : Join.joined (l.map entT) ⟨#[44]⟩ (l.map entT).length = formatV l := by
  rw [List.length_map]
  exact joined_all h (by intro e; rw [e] at hne; exact absurd hne (Nat.lt_irrefl _))


set_option maxRecDepth 100000 in
set_option maxHeartbeats 4000000 in
theorem impl_any (w : World) (v : Value) (l : List At) (hn : l.length ≤ 1073741824) (h : Ae.Holds w v l) :
    Calls Tryd.prog 8 #[v] w fun e w' => e = .returned (.string (formatV l)) ∧ Below w.heap.size w w' := by
  obtain ⟨i0, hi, hz0, hz1, hz2⟩ := info_parts Strs.strInfo
  have HI := Lib.hid (AclI.impl_any w v l hn h)
  obtain ⟨a, c, rfl, hc⟩ := Ae.atL h
  clear h
  have HC := Lib.hid hc
  clear hc
  obtain ⟨N, hN⟩ : ∃ N, N = l.length := ⟨_, rfl⟩
  rw [← hN] at hn HI ⊢
  have HN := Lib.hid hN
  clear hN
  have HF0 := Lib.hid hi
  have HF1 := Lib.hid hz0
  have HF2 := Lib.hid hz1
  have HF3 := Lib.hid hz2
  clear hi hz0 hz1 hz2
  cases hok : okB l
  · rw [hok] at HI
    have HV := Lib.hid (format_no hok)
    clear hok
    go_enter Tryd.func8, Tryd.ntmps8
    go_wp2_with fail
    refine HI.out.mono ?_
    rintro e w1 ⟨rfl, hb⟩
    have HB := Lib.hid hb
    clear hb
    go_wp2
    go_ret
    exact ⟨ret_str HV.out.symm, HB.out⟩
  · rw [hok] at HI
    have h6 := ok_len hok
    rw [← HN.out] at h6
    have HE := Lib.hid (show ∀ k, k < N → entB (l.getD k a0) = true from fun k hk => up_ent (ok_up hok) (by rw [← HN.out]; exact hk))
    by_cases hz : N = 0
    · have HV := Lib.hid (show formatV l = ⟨#[45]⟩ by rw [List.eq_nil_of_length_eq_zero (HN.out.symm.trans hz), format_nil])
      subst hz
      clear hok
      go_enter Tryd.func8, Tryd.ntmps8
      go_wp2_with fail
      refine HI.out.mono ?_
      rintro e w1 ⟨rfl, hb⟩
      have HB := Lib.hid hb
      clear hb
      go_wp2
      go_ret
      exact ⟨ret_str HV.out.symm, HB.out⟩
    have HW := Lib.hid (format_some hok (by rw [← HN.out]; omega))
    have hne : ((N : Int) == 0) = false := beq_eq_false_iff_ne.2 (by omega)
    clear hok
    go_enter Tryd.func8, Tryd.ntmps8
    go_wp2_with fail
    refine HI.out.mono ?_
    rintro e w1 ⟨rfl, hb⟩
    have HB := Lib.hid hb
    clear hb
    go_wp2_with fail
    go_loopw [3, 14] (fun sv iv wr => ∃ k : Nat, k ≤ N ∧ iv = .int .i64 k ∧ wr.ownsRow w.heap.size 9 1 sv k ((txt l k).map Value.string) ∧ Below w.heap.size w wr) (fun _ iv _ => N - (intOf iv).toNat)
    case atStart => exact ⟨0, Nat.zero_le _, rfl, by rw [txt_zero]; exact SplitAny.own_nil _ _ _, HB.out⟩
    case round =>
      obtain ⟨k, hk, rfl, hown, hbel⟩ := hrel
      have HBEL := Lib.hid hbel
      have hsz := hbel.size
      have HOWN := Lib.hid hown
      clear hbel HB hown
      by_cases hlt : k < N
      · have hlx : k < l.length := by rw [← HN.out]; exact hlt
        obtain ⟨b, o, rfl, hb, g0, g1, g2⟩ := HC.out k hlx
        rw [← HBEL.out.cell (p := ⟨b, _, none⟩) hb] at g0 g1 g2
        have hent := HE.out k hlt
        have HNX := Lib.hid (fun (w1 : World) (v : Value) => txt_row (w1 := w1) (base := w.heap.size) (v := v) hlx)
        generalize l.getD k a0 = x at g0 g1 g2 hent HNX
        obtain ⟨n0, n1, n2⟩ := x
        dsimp only at g0 g1 g2
        have HEN := Lib.hid (fun W => ent_any (n0, n1, n2) hent W)
        clear hent
        generalize entT (n0, n1, n2) = T at HEN HNX
        have HB := Lib.hid (HBEL.out.alloc hsz (.cells #[.int .i64 n0, .int .i64 n1, .int .i64 n2] 30))
        have HO := Lib.hid (World.ownsRow.alloc HOWN.out (.cells #[.int .i64 n0, .int .i64 n1, .int .i64 n2] 30))
        go_wp2_with fail
        refine (HEN.out _).mono ?_
        rintro e w3 ⟨rfl, hb3⟩
        replace HB := Lib.hid (HB.out.trans (hb3.mono HB.out.size))
        replace HO := Lib.hid (Strs.own_below HO.out hb3)
        have hsa := HB.out.size
        clear hb3
        go_wp2_with (first | (at_builtin; refine wpList_append_own _ rfl _ _ 45 rfl w.heap.size 9 i0 (.string ⟨#[]⟩) 1 16 Tryd.underlying45 HF0.out HF1.out HF2.out HF3.out rfl (by decide) _ _ _ rfl (HO.out.alloc _) ⟨w3.heap.size, 0, none⟩ 1 1 [.string T] rfl rfl ?c1 ?c2 ?c3 ?c4 ?c5 ?_))
        case c1 => exact cell_one_new _ _ _
        case c2 => simp [Value.oneCell']
        case c3 => unfold maxLen; omega
        case c4 => omega
        case c5 => simp; omega
        intro v' w9 hown1 hg1 _
        have HO9 := Lib.hid (HNX.out _ _ hown1)
        have HB9 := Lib.hid ((HB.out.alloc hsa (.cells #[.string T] 9)).grown hg1 (by simp; omega) (fun k hk => (HO.out.lt k hk).1))
        clear hown1 hg1
        go_wp2
        go_roundw
        case rel => exact ⟨k + 1, by omega, by go_num, HO9.out, HB9.out⟩
        case measure => simp [intOf]; omega
      · obtain rfl : k = N := by omega
        skip
        have hall := HOWN.out
        rw [show txt l k = l.map entT by rw [HN.out]; exact txt_all l] at hall
        have HH := Lib.hid (Strs.holds_of_own hall)
        have HCAP := Lib.hid (Join.cap_of_own hall)
        have htt := total_txt l
        have hll : (l.map entT).length = l.length := List.length_map ..
        have HTT := Lib.hid (show (l.map entT).length + Strs.total (l.map entT) ≤ 2097152 by rw [hll, htt, ← HN.out]; omega)
        clear htt hll hall
        go_wp2_with fail
        refine (Join.impl_any _ _ (l.map entT) ⟨#[44]⟩ (by decide) HTT.out HH.out HCAP.out).mono ?_
        rw [HW.out]
        rintro e w3 ⟨rfl, hb⟩
        have HB := Lib.hid (HBEL.out.trans (hb.mono HBEL.out.size))
        clear hb
        go_wp2
        go_ret
        exact ⟨rfl, HB.out⟩


set_option maxRecDepth 100000 in
set_option maxHeartbeats 4000000 in
theorem spec_any (w : World) (v : Value) (l : List At) (hn : l.length ≤ 1073741824) (h : Ae.Holds w v l) :
    Calls Tryd.prog 15 #[v] w fun e w' => e = .returned (.string (formatV l)) ∧ Below w.heap.size w w' := by
  obtain ⟨i0, hi, hz0, hz1, hz2⟩ := info_parts Strs.strInfo
  have HI := Lib.hid (AclI.spec_any w v l hn h)
  obtain ⟨a, c, rfl, hc⟩ := Ae.atL h
  clear h
  have HC := Lib.hid hc
  clear hc
  obtain ⟨N, hN⟩ : ∃ N, N = l.length := ⟨_, rfl⟩
  rw [← hN] at hn HI ⊢
  have HN := Lib.hid hN
  clear hN
  have HF0 := Lib.hid hi
  have HF1 := Lib.hid hz0
  have HF2 := Lib.hid hz1
  have HF3 := Lib.hid hz2
  clear hi hz0 hz1 hz2
  cases hok : okB l
  · rw [hok] at HI
    have HV := Lib.hid (format_no hok)
    clear hok
    go_enter Tryd.func15, Tryd.ntmps15
    go_wp2_with fail
    refine HI.out.mono ?_
    rintro e w1 ⟨rfl, hb⟩
    have HB := Lib.hid hb
    clear hb
    go_wp2
    go_ret
    exact ⟨ret_str HV.out.symm, HB.out⟩
  · rw [hok] at HI
    have h6 := ok_len hok
    rw [← HN.out] at h6
    have HE := Lib.hid (show ∀ k, k < N → entB (l.getD k a0) = true from fun k hk => up_ent (ok_up hok) (by rw [← HN.out]; exact hk))
    by_cases hz : N = 0
    · have HV := Lib.hid (show formatV l = ⟨#[45]⟩ by rw [List.eq_nil_of_length_eq_zero (HN.out.symm.trans hz), format_nil])
      subst hz
      clear hok
      go_enter Tryd.func15, Tryd.ntmps15
      go_wp2_with fail
      refine HI.out.mono ?_
      rintro e w1 ⟨rfl, hb⟩
      have HB := Lib.hid hb
      clear hb
      go_wp2_with fail
      have HB0 := Lib.hid (HB.out.alloc HB.out.size (.cells #[] 9))
      refine wp_loop_rounds 1 ?_
      rw [rounds_succ]
      go_wp2
      go_ret
      exact ⟨ret_str HV.out.symm, HB0.out⟩
    have HW := Lib.hid (format_some hok (by rw [← HN.out]; omega))
    have hne : ((N : Int) == 0) = false := beq_eq_false_iff_ne.2 (by omega)
    clear hok
    go_enter Tryd.func15, Tryd.ntmps15
    go_wp2_with fail
    refine HI.out.mono ?_
    rintro e w1 ⟨rfl, hb⟩
    have HB := Lib.hid hb
    clear hb
    go_wp2_with fail
    have hown := SplitAny.own_mono (SplitAny.own_fresh w1 9) HB.out.size
    rw [show ([] : List Value) = (txt l 0).map Value.string by rw [txt_zero]; rfl] at hown
    have HO := Lib.hid hown
    replace HB := Lib.hid (HB.out.alloc HB.out.size (.cells #[] 9))
    clear hown
    go_loopw [3, 12] (fun sv iv wr => ∃ k : Nat, k ≤ N ∧ iv = .int .i64 k ∧ wr.ownsRow w.heap.size 9 1 sv k ((txt l k).map Value.string) ∧ Below w.heap.size w wr) (fun _ iv _ => N - (intOf iv).toNat)
    case atStart => exact ⟨0, Nat.zero_le _, rfl, HO.out, HB.out⟩
    case round =>
      obtain ⟨k, hk, rfl, hown, hbel⟩ := hrel
      have HBEL := Lib.hid hbel
      have hsz := hbel.size
      have HOWN := Lib.hid hown
      clear hbel HB hown HO
      by_cases hlt : k < N
      · have hlx : k < l.length := by rw [← HN.out]; exact hlt
        obtain ⟨b, o, rfl, hb, g0, g1, g2⟩ := HC.out k hlx
        rw [← HBEL.out.cell (p := ⟨b, _, none⟩) hb] at g0 g1 g2
        have hent := HE.out k hlt
        have HNX := Lib.hid (fun (w1 : World) (v : Value) => txt_row (w1 := w1) (base := w.heap.size) (v := v) hlx)
        generalize l.getD k a0 = x at g0 g1 g2 hent HNX
        obtain ⟨n0, n1, n2⟩ := x
        dsimp only at g0 g1 g2
        have hfx := ent_facts hent
        have htc := tag_cases hent
        have HP := Lib.hid (ent_parts (n0, n1, n2))
        clear hent
        dsimp only at hfx htc HP
        have hp1 : ∀ W : World, Calls Tryd.prog 34 #[.int .i64 n1] W fun e w' => e = .returned (.string ⟨#[digC n1]⟩) ∧ Below W.heap.size W w' := fun W => spec_dig n1 (by omega) (by omega) W
        have hp2 : ∀ W : World, Calls Tryd.prog 34 #[.int .i64 n2] W fun e w' => e = .returned (.string ⟨#[digC n2]⟩) ∧ Below W.heap.size W w' := fun W => spec_dig n2 (by omega) (by omega) W
        have e1 := dig_size (digC n1)
        have e2 := dig_size (digC n2)
        generalize (⟨#[digC n1]⟩ : ByteArray) = D1 at e1 hp1 HP
        generalize (⟨#[digC n2]⟩ : ByteArray) = D2 at e2 hp2 HP
        have H1 := Lib.hid hp1
        have H2 := Lib.hid hp2
        clear hp1 hp2 hfx
        rcases htc with rfl | rfl | rfl
        · have HQ := Lib.hid (show ((⟨#[117]⟩ : ByteArray) ++ D1 ++ ⟨#[58]⟩ ++ D2) = entT (1, n1, n2) from HP.out)
          obtain ⟨sg, sc, rfl⟩ := Dk.slice_of HOWN.out
          have hgl : some wr.heap.size ≠ (Value.slice sg k sc).ownBlock := by
            intro e
            have := (HOWN.out.lt _ e.symm).2
            omega
          have hxt : (⟨#[63, 117, 103, 109]⟩ : ByteArray).extract 1 2 = ⟨#[117]⟩ := by kernel_rfl
          have hsl : ∀ W : World, (Instr.slice 9 (.string ⟨#[63, 117, 103, 109]⟩) (some (.int .i64 1)) (some (.int .i64 2)) none).run Tryd.prog W = .ok (.string ⟨#[117]⟩) W := fun W => by kernel_rfl
          have hwr : IntKind.i64.wrap 2 = 2 := IntWalk.i64_in _ (by omega)
          have hwr2 : IntKind.i64.wrap (1 + 1) = 2 := IntWalk.i64_in _ (by omega)
          have hs4 : (⟨#[63, 117, 103, 109]⟩ : ByteArray).size = 4 := rfl
          have e0 : (⟨#[117]⟩ : ByteArray).size = 1 := rfl
          have e3 : (⟨#[58]⟩ : ByteArray).size = 1 := rfl
          have hz0 : (9223372036854775807 < (⟨#[117]⟩ : ByteArray).size + D1.size) = False := eq_false (by omega)
          have hz1 : (9223372036854775807 < 1 + D1.size) = False := eq_false (by omega)
          have hz2 : (9223372036854775807 < ((⟨#[117]⟩ : ByteArray) ++ D1).size + (⟨#[58]⟩ : ByteArray).size) = False := eq_false (by rw [ByteArray.size_append]; omega)
          have hz3 : (9223372036854775807 < (⟨#[117]⟩ : ByteArray).size + D1.size + (⟨#[58]⟩ : ByteArray).size + D2.size) = False := eq_false (by omega)
          have hz4 : (9223372036854775807 < ((⟨#[117]⟩ : ByteArray) ++ D1 ++ ⟨#[58]⟩).size + D2.size) = False := eq_false (by rw [ByteArray.size_append, ByteArray.size_append]; omega)
          have HB := Lib.hid (HBEL.out.alloc hsz (.cells #[.int .i64 1, .int .i64 n1, .int .i64 n2] 30))
          have HO := Lib.hid (World.ownsRow.alloc HOWN.out (.cells #[.int .i64 1, .int .i64 n1, .int .i64 n2] 30))
          have y0 := cells_new wr #[.int .i64 1, .int .i64 n1, .int .i64 n2] 30 0 _ rfl
          have y1 := cells_new wr #[.int .i64 1, .int .i64 n1, .int .i64 n2] 30 1 _ rfl
          have y2 := cells_new wr #[.int .i64 1, .int .i64 n1, .int .i64 n2] 30 2 _ rfl
          have hs9 : wr.heap.size < (wr.alloc (.cells #[.int .i64 1, .int .i64 n1, .int .i64 n2] 30)).heap.size := by simp
          have hsa : w.heap.size ≤ (wr.alloc (.cells #[.int .i64 1, .int .i64 n1, .int .i64 n2] 30)).heap.size := by simp; omega
          go_wp2
          generalize wr.alloc (.cells #[.int .i64 1, .int .i64 n1, .int .i64 n2] 30) = wa at y0 y1 y2 hs9 HB HO hsa ⊢
          go_region_held3 (fun wz => wz.cell? ⟨wr.heap.size, 0, none⟩ = some (.int .i64 1) ∧ wz.cell? ⟨wr.heap.size, 1, none⟩ = some (.int .i64 n1) ∧ wz.cell? ⟨wr.heap.size, 2, none⟩ = some (.int .i64 n2)) (go_keep) (first | (go_at_call 34; (first | (with_reducible refine (H1.out _).mono ?_) | (with_reducible refine (H2.out _).mono ?_)); rintro e w3 ⟨rfl, hb⟩; have q0 := (hb.cell (p := ⟨wr.heap.size, 0, none⟩) hs9).trans y0; have q1 := (hb.cell (p := ⟨wr.heap.size, 1, none⟩) hs9).trans y1; have q2 := (hb.cell (p := ⟨wr.heap.size, 2, none⟩) hs9).trans y2; replace y0 := q0; replace y1 := q1; replace y2 := q2; clear q0 q1 q2; (first | (replace HO := Lib.hid (Strs.own_below HO.out hb)) | (replace HO := Lib.hid (Strs.own_below (show wa.drew.ownsRow _ _ _ _ _ _ from HO.out) hb))); (first | (replace HB := Lib.hid (HB.out.trans (hb.mono HB.out.size))) | (replace HB := Lib.hid (HB.out.drew.trans (hb.mono HB.out.drew.size)))); replace hs9 := Nat.lt_of_lt_of_le hs9 hb.size; have hs3 := Nat.le_trans hsa hb.size; replace hsa := hs3; clear hb hs3) | (refine HexOf.step_append_own rfl _ _ 45 rfl w.heap.size 9 i0 (.string ⟨#[]⟩) 1 16 Tryd.underlying45 HF0.out HF1.out HF2.out HF3.out rfl (by decide) _ _ _ rfl (World.ownsRow.alloc HO.out _) ⟨w3.heap.size, 0, none⟩ 1 1 [.string ((⟨#[117]⟩ : ByteArray) ++ D1 ++ ⟨#[58]⟩ ++ D2)] rfl rfl (cell_one_new _ _ _) (by simp [Value.oneCell']) (by unfold maxLen; omega) (by omega) (by simp; omega) ?_; intro v' w9 hown1 hg1 _; have p0 := hg1.cell (a := ⟨wr.heap.size, 0, none⟩) (by rw [World.cell?_alloc_lt _ _ _ hs9]; exact y0) hgl; have p1 := hg1.cell (a := ⟨wr.heap.size, 1, none⟩) (by rw [World.cell?_alloc_lt _ _ _ hs9]; exact y1) hgl; have p2 := hg1.cell (a := ⟨wr.heap.size, 2, none⟩) (by rw [World.cell?_alloc_lt _ _ _ hs9]; exact y2) hgl; have HO9 := Lib.hid (HNX.out _ _ (by rw [← HQ.out]; exact hown1)); have HB9 := Lib.hid ((HB.out.alloc hsa (.cells #[.string ((⟨#[117]⟩ : ByteArray) ++ D1 ++ ⟨#[58]⟩ ++ D2)] 9)).grown hg1 (by simp; omega) (fun k hk => (HO.out.lt k hk).1)); clear hown1 hg1))
          go_wp2
          go_roundw
          case rel => exact ⟨k + 1, by omega, by go_num, HO9.out, HB9.out⟩
          case measure => simp [intOf]; omega
        · have HQ := Lib.hid (show ((⟨#[103]⟩ : ByteArray) ++ D1 ++ ⟨#[58]⟩ ++ D2) = entT (2, n1, n2) from HP.out)
          obtain ⟨sg, sc, rfl⟩ := Dk.slice_of HOWN.out
          have hgl : some wr.heap.size ≠ (Value.slice sg k sc).ownBlock := by
            intro e
            have := (HOWN.out.lt _ e.symm).2
            omega
          have hxt : (⟨#[63, 117, 103, 109]⟩ : ByteArray).extract 2 3 = ⟨#[103]⟩ := by kernel_rfl
          have hsl : ∀ W : World, (Instr.slice 9 (.string ⟨#[63, 117, 103, 109]⟩) (some (.int .i64 2)) (some (.int .i64 3)) none).run Tryd.prog W = .ok (.string ⟨#[103]⟩) W := fun W => by kernel_rfl
          have hwr : IntKind.i64.wrap 3 = 3 := IntWalk.i64_in _ (by omega)
          have hwr2 : IntKind.i64.wrap (2 + 1) = 3 := IntWalk.i64_in _ (by omega)
          have hs4 : (⟨#[63, 117, 103, 109]⟩ : ByteArray).size = 4 := rfl
          have e0 : (⟨#[103]⟩ : ByteArray).size = 1 := rfl
          have e3 : (⟨#[58]⟩ : ByteArray).size = 1 := rfl
          have hz0 : (9223372036854775807 < (⟨#[103]⟩ : ByteArray).size + D1.size) = False := eq_false (by omega)
          have hz1 : (9223372036854775807 < 1 + D1.size) = False := eq_false (by omega)
          have hz2 : (9223372036854775807 < ((⟨#[103]⟩ : ByteArray) ++ D1).size + (⟨#[58]⟩ : ByteArray).size) = False := eq_false (by rw [ByteArray.size_append]; omega)
          have hz3 : (9223372036854775807 < (⟨#[103]⟩ : ByteArray).size + D1.size + (⟨#[58]⟩ : ByteArray).size + D2.size) = False := eq_false (by omega)
          have hz4 : (9223372036854775807 < ((⟨#[103]⟩ : ByteArray) ++ D1 ++ ⟨#[58]⟩).size + D2.size) = False := eq_false (by rw [ByteArray.size_append, ByteArray.size_append]; omega)
          have HB := Lib.hid (HBEL.out.alloc hsz (.cells #[.int .i64 2, .int .i64 n1, .int .i64 n2] 30))
          have HO := Lib.hid (World.ownsRow.alloc HOWN.out (.cells #[.int .i64 2, .int .i64 n1, .int .i64 n2] 30))
          have y0 := cells_new wr #[.int .i64 2, .int .i64 n1, .int .i64 n2] 30 0 _ rfl
          have y1 := cells_new wr #[.int .i64 2, .int .i64 n1, .int .i64 n2] 30 1 _ rfl
          have y2 := cells_new wr #[.int .i64 2, .int .i64 n1, .int .i64 n2] 30 2 _ rfl
          have hs9 : wr.heap.size < (wr.alloc (.cells #[.int .i64 2, .int .i64 n1, .int .i64 n2] 30)).heap.size := by simp
          have hsa : w.heap.size ≤ (wr.alloc (.cells #[.int .i64 2, .int .i64 n1, .int .i64 n2] 30)).heap.size := by simp; omega
          go_wp2
          generalize wr.alloc (.cells #[.int .i64 2, .int .i64 n1, .int .i64 n2] 30) = wa at y0 y1 y2 hs9 HB HO hsa ⊢
          go_region_held3 (fun wz => wz.cell? ⟨wr.heap.size, 0, none⟩ = some (.int .i64 2) ∧ wz.cell? ⟨wr.heap.size, 1, none⟩ = some (.int .i64 n1) ∧ wz.cell? ⟨wr.heap.size, 2, none⟩ = some (.int .i64 n2)) (go_keep) (first | (go_at_call 34; (first | (with_reducible refine (H1.out _).mono ?_) | (with_reducible refine (H2.out _).mono ?_)); rintro e w3 ⟨rfl, hb⟩; have q0 := (hb.cell (p := ⟨wr.heap.size, 0, none⟩) hs9).trans y0; have q1 := (hb.cell (p := ⟨wr.heap.size, 1, none⟩) hs9).trans y1; have q2 := (hb.cell (p := ⟨wr.heap.size, 2, none⟩) hs9).trans y2; replace y0 := q0; replace y1 := q1; replace y2 := q2; clear q0 q1 q2; (first | (replace HO := Lib.hid (Strs.own_below HO.out hb)) | (replace HO := Lib.hid (Strs.own_below (show wa.drew.ownsRow _ _ _ _ _ _ from HO.out) hb))); (first | (replace HB := Lib.hid (HB.out.trans (hb.mono HB.out.size))) | (replace HB := Lib.hid (HB.out.drew.trans (hb.mono HB.out.drew.size)))); replace hs9 := Nat.lt_of_lt_of_le hs9 hb.size; have hs3 := Nat.le_trans hsa hb.size; replace hsa := hs3; clear hb hs3) | (refine HexOf.step_append_own rfl _ _ 45 rfl w.heap.size 9 i0 (.string ⟨#[]⟩) 1 16 Tryd.underlying45 HF0.out HF1.out HF2.out HF3.out rfl (by decide) _ _ _ rfl (World.ownsRow.alloc HO.out _) ⟨w3.heap.size, 0, none⟩ 1 1 [.string ((⟨#[103]⟩ : ByteArray) ++ D1 ++ ⟨#[58]⟩ ++ D2)] rfl rfl (cell_one_new _ _ _) (by simp [Value.oneCell']) (by unfold maxLen; omega) (by omega) (by simp; omega) ?_; intro v' w9 hown1 hg1 _; have p0 := hg1.cell (a := ⟨wr.heap.size, 0, none⟩) (by rw [World.cell?_alloc_lt _ _ _ hs9]; exact y0) hgl; have p1 := hg1.cell (a := ⟨wr.heap.size, 1, none⟩) (by rw [World.cell?_alloc_lt _ _ _ hs9]; exact y1) hgl; have p2 := hg1.cell (a := ⟨wr.heap.size, 2, none⟩) (by rw [World.cell?_alloc_lt _ _ _ hs9]; exact y2) hgl; have HO9 := Lib.hid (HNX.out _ _ (by rw [← HQ.out]; exact hown1)); have HB9 := Lib.hid ((HB.out.alloc hsa (.cells #[.string ((⟨#[103]⟩ : ByteArray) ++ D1 ++ ⟨#[58]⟩ ++ D2)] 9)).grown hg1 (by simp; omega) (fun k hk => (HO.out.lt k hk).1)); clear hown1 hg1))
          go_wp2
          go_roundw
          case rel => exact ⟨k + 1, by omega, by go_num, HO9.out, HB9.out⟩
          case measure => simp [intOf]; omega
        · have HQ := Lib.hid (show ((⟨#[109]⟩ : ByteArray) ++ D1 ++ ⟨#[58]⟩ ++ D2) = entT (3, n1, n2) from HP.out)
          obtain ⟨sg, sc, rfl⟩ := Dk.slice_of HOWN.out
          have hgl : some wr.heap.size ≠ (Value.slice sg k sc).ownBlock := by
            intro e
            have := (HOWN.out.lt _ e.symm).2
            omega
          have hxt : (⟨#[63, 117, 103, 109]⟩ : ByteArray).extract 3 4 = ⟨#[109]⟩ := by kernel_rfl
          have hsl : ∀ W : World, (Instr.slice 9 (.string ⟨#[63, 117, 103, 109]⟩) (some (.int .i64 3)) (some (.int .i64 4)) none).run Tryd.prog W = .ok (.string ⟨#[109]⟩) W := fun W => by kernel_rfl
          have hwr : IntKind.i64.wrap 4 = 4 := IntWalk.i64_in _ (by omega)
          have hwr2 : IntKind.i64.wrap (3 + 1) = 4 := IntWalk.i64_in _ (by omega)
          have hs4 : (⟨#[63, 117, 103, 109]⟩ : ByteArray).size = 4 := rfl
          have e0 : (⟨#[109]⟩ : ByteArray).size = 1 := rfl
          have e3 : (⟨#[58]⟩ : ByteArray).size = 1 := rfl
          have hz0 : (9223372036854775807 < (⟨#[109]⟩ : ByteArray).size + D1.size) = False := eq_false (by omega)
          have hz1 : (9223372036854775807 < 1 + D1.size) = False := eq_false (by omega)
          have hz2 : (9223372036854775807 < ((⟨#[109]⟩ : ByteArray) ++ D1).size + (⟨#[58]⟩ : ByteArray).size) = False := eq_false (by rw [ByteArray.size_append]; omega)
          have hz3 : (9223372036854775807 < (⟨#[109]⟩ : ByteArray).size + D1.size + (⟨#[58]⟩ : ByteArray).size + D2.size) = False := eq_false (by omega)
          have hz4 : (9223372036854775807 < ((⟨#[109]⟩ : ByteArray) ++ D1 ++ ⟨#[58]⟩).size + D2.size) = False := eq_false (by rw [ByteArray.size_append, ByteArray.size_append]; omega)
          have HB := Lib.hid (HBEL.out.alloc hsz (.cells #[.int .i64 3, .int .i64 n1, .int .i64 n2] 30))
          have HO := Lib.hid (World.ownsRow.alloc HOWN.out (.cells #[.int .i64 3, .int .i64 n1, .int .i64 n2] 30))
          have y0 := cells_new wr #[.int .i64 3, .int .i64 n1, .int .i64 n2] 30 0 _ rfl
          have y1 := cells_new wr #[.int .i64 3, .int .i64 n1, .int .i64 n2] 30 1 _ rfl
          have y2 := cells_new wr #[.int .i64 3, .int .i64 n1, .int .i64 n2] 30 2 _ rfl
          have hs9 : wr.heap.size < (wr.alloc (.cells #[.int .i64 3, .int .i64 n1, .int .i64 n2] 30)).heap.size := by simp
          have hsa : w.heap.size ≤ (wr.alloc (.cells #[.int .i64 3, .int .i64 n1, .int .i64 n2] 30)).heap.size := by simp; omega
          go_wp2
          generalize wr.alloc (.cells #[.int .i64 3, .int .i64 n1, .int .i64 n2] 30) = wa at y0 y1 y2 hs9 HB HO hsa ⊢
          go_region_held3 (fun wz => wz.cell? ⟨wr.heap.size, 0, none⟩ = some (.int .i64 3) ∧ wz.cell? ⟨wr.heap.size, 1, none⟩ = some (.int .i64 n1) ∧ wz.cell? ⟨wr.heap.size, 2, none⟩ = some (.int .i64 n2)) (go_keep) (first | (go_at_call 34; (first | (with_reducible refine (H1.out _).mono ?_) | (with_reducible refine (H2.out _).mono ?_)); rintro e w3 ⟨rfl, hb⟩; have q0 := (hb.cell (p := ⟨wr.heap.size, 0, none⟩) hs9).trans y0; have q1 := (hb.cell (p := ⟨wr.heap.size, 1, none⟩) hs9).trans y1; have q2 := (hb.cell (p := ⟨wr.heap.size, 2, none⟩) hs9).trans y2; replace y0 := q0; replace y1 := q1; replace y2 := q2; clear q0 q1 q2; (first | (replace HO := Lib.hid (Strs.own_below HO.out hb)) | (replace HO := Lib.hid (Strs.own_below (show wa.drew.ownsRow _ _ _ _ _ _ from HO.out) hb))); (first | (replace HB := Lib.hid (HB.out.trans (hb.mono HB.out.size))) | (replace HB := Lib.hid (HB.out.drew.trans (hb.mono HB.out.drew.size)))); replace hs9 := Nat.lt_of_lt_of_le hs9 hb.size; have hs3 := Nat.le_trans hsa hb.size; replace hsa := hs3; clear hb hs3) | (refine HexOf.step_append_own rfl _ _ 45 rfl w.heap.size 9 i0 (.string ⟨#[]⟩) 1 16 Tryd.underlying45 HF0.out HF1.out HF2.out HF3.out rfl (by decide) _ _ _ rfl (World.ownsRow.alloc HO.out _) ⟨w3.heap.size, 0, none⟩ 1 1 [.string ((⟨#[109]⟩ : ByteArray) ++ D1 ++ ⟨#[58]⟩ ++ D2)] rfl rfl (cell_one_new _ _ _) (by simp [Value.oneCell']) (by unfold maxLen; omega) (by omega) (by simp; omega) ?_; intro v' w9 hown1 hg1 _; have p0 := hg1.cell (a := ⟨wr.heap.size, 0, none⟩) (by rw [World.cell?_alloc_lt _ _ _ hs9]; exact y0) hgl; have p1 := hg1.cell (a := ⟨wr.heap.size, 1, none⟩) (by rw [World.cell?_alloc_lt _ _ _ hs9]; exact y1) hgl; have p2 := hg1.cell (a := ⟨wr.heap.size, 2, none⟩) (by rw [World.cell?_alloc_lt _ _ _ hs9]; exact y2) hgl; have HO9 := Lib.hid (HNX.out _ _ (by rw [← HQ.out]; exact hown1)); have HB9 := Lib.hid ((HB.out.alloc hsa (.cells #[.string ((⟨#[109]⟩ : ByteArray) ++ D1 ++ ⟨#[58]⟩ ++ D2)] 9)).grown hg1 (by simp; omega) (fun k hk => (HO.out.lt k hk).1)); clear hown1 hg1))
          go_wp2
          go_roundw
          case rel => exact ⟨k + 1, by omega, by go_num, HO9.out, HB9.out⟩
          case measure => simp [intOf]; omega
      · obtain rfl : k = N := by omega
        obtain ⟨sg, sc, rfl⟩ := Dk.slice_of HOWN.out
        have hall := HOWN.out
        rw [show txt l k = l.map entT by rw [HN.out]; exact txt_all l] at hall
        have HH := Lib.hid (Strs.holds_of_own hall)
        have HCAP := Lib.hid (Join.cap_of_own hall)
        have htt := total_txt l
        have hll : (l.map entT).length = l.length := List.length_map ..
        have HTT := Lib.hid (show (l.map entT).length + Strs.total (l.map entT) ≤ 1048576 by rw [hll, htt, ← HN.out]; omega)
        clear htt hll hall
        go_wp2_with fail
        refine (Join.spec_any _ _ (l.map entT) ⟨#[44]⟩ (by decide) HTT.out HH.out).mono ?_
        rw [HW.out]
        rintro e w3 ⟨rfl, hb⟩
        subst hb
        have HB := HBEL
        go_wp2
        go_ret
        exact ⟨rfl, HB.out⟩

end Go.Proofs.YtgilmmofbpembaaDoor.AclF
