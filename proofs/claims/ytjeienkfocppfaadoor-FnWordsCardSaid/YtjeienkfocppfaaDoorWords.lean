/- Proved: for every code, the law FnWords returns true and leaves its argument as it was: integers are recovered from their text, strings from their parts. Condition: the library's table of powers of ten and its two sentinel errors read as their initialisers lay them (the card ties that to the program's text). -/
import Derived.Test.YtjeienkfocppfaaDoorParseInt
import Derived.Test.YtjeienkfocppfaaDoorMake
import Derived.Test.YtjeienkfocppfaaDoorCode
import Derived.Test.YtjeienkfocppfaaDoorIsName
import Derived.Test.YtjeienkfocppfaaDoorSplitLines
import Derived.Test.YtjeienkfocppfaaDoorJoin
namespace Go.Proofs.YtjeienkfocppfaaDoor.Words
open Go.ChangeShapes Go.WideShapes Go.ChangeAt Go.RowKit
open Go.ChangeMaps (open_string shut_string)
open Cur (CodeIn code_kept)
open SplitAny (cutL parts cutL_le cut_yes byte_at)
set_option linter.unusedVariables false

def sp : ByteArray := ⟨#[32]⟩
theorem join_snoc (l : List (List UInt8)) (x sep : List UInt8) (h : l ≠ []) : Lib.join (l ++ [x]) sep = Lib.join l sep ++ sep ++ x := by
  cases l with
  | nil => exact absurd rfl h
  | cons y r =>
    rw [List.cons_append, Lib.join_cons, Lib.join_cons]
    simp [Lib.joinTail]
theorem has_sp (s : ByteArray) (k : Nat) (h : sp.data.toList.contains (s.data.toList.getD k 0) = true) : s.data.toList.getD k 0 = 32 := by
  have : sp.data.toList = [32] := rfl
  rw [this] at h
  simpa using h
/-- What has been cut off, joined again, with the next part cut at place j. -/
theorem join_cut (s : ByteArray) : ∀ k, k ≤ s.size → ∀ j, k ≤ j → j ≤ s.size →
    Lib.join (((cutL s sp k).1 ++ [s.extract (cutL s sp k).2 j]).map (·.data.toList)) [32] = s.data.toList.take j := by
  intro k
  induction k with
  | zero =>
    intro _ j _ hj
    simp only [cutL, List.nil_append, List.map_cons, List.map_nil, Lib.join_one]
    rw [Lib.extract_data]; simp
  | succ k ih =>
    intro hk j hj hjs
    by_cases hc : sp.data.toList.contains (s.data.toList.getD k 0) = true
    · rw [cut_yes s sp k hc]
      simp only
      rw [List.map_append, List.map_cons, List.map_nil, join_snoc _ _ _ (by simp), ih (by omega) k (Nat.le_refl _) (by omega), Lib.extract_data]
      have h32 := has_sp s k hc
      have hlt : k < s.data.toList.length := by simp; omega
      have e : [(32 : UInt8)] = [s.data.toList[k]] := by
        rw [← h32, List.getD_eq_getElem?_getD, List.getElem?_eq_getElem hlt]; rfl
      rw [e, ← List.take_succ_eq_append_getElem hlt]
      have : j = (k + 1) + (j - (k + 1)) := by omega
      conv => rhs; rw [this, List.take_add]
    · have hcut : cutL s sp (k + 1) = cutL s sp k := by rw [cutL, if_neg hc]
      rw [hcut]
      exact ih (by omega) j (by omega) hjs
theorem join_parts (s : ByteArray) : Join.joined (parts s sp) sp (parts s sp).length = s := by
  rw [← Join.joined_all]
  apply FormatInt.app_ext
  have : sp.data.toList = [32] := rfl
  rw [this]
  have h := join_cut s s.size (Nat.le_refl _) s.size (Nat.le_refl _) (Nat.le_refl _)
  simp only [parts]
  rw [h, List.take_of_length_le (by simp)]
/-- The parts' bytes and their number. -/
theorem cut_total (s b : ByteArray) : ∀ k, k ≤ s.size → Strs.total (cutL s b k).1 + (cutL s b k).1.length ≤ (cutL s b k).2 ∧ (cutL s b k).2 ≤ k := by
  intro k
  induction k with
  | zero => intro _; simp [cutL, Strs.total]
  | succ k ih =>
    intro hk
    have h := ih (by omega)
    simp only [cutL]
    split
    · simp only [Strs.total, List.map_append, List.sum_append, List.length_append, List.map_cons, List.map_nil, List.sum_cons, List.sum_nil, List.length_cons, List.length_nil, ByteArray.size_extract] at h ⊢
      omega
    · omega
theorem parts_total (s b : ByteArray) : (parts s b).length + Strs.total (parts s b) ≤ s.size + 1 := by
  have h := cut_total s b s.size (Nat.le_refl _)
  simp only [parts, Strs.total, List.map_append, List.sum_append, List.length_append, List.map_cons, List.map_nil, List.sum_cons, List.sum_nil, List.length_cons, List.length_nil, ByteArray.size_extract] at h ⊢
  omega
def x1 : ByteArray := ⟨#[120, 49]⟩
theorem x1_name : IsName.nameB x1 = true := by
  refine IsName.end_of x1 ?_ true (by decide)
  intro i hi _
  match i, hi with
  | 0, _ => exact .inl rfl
  | 1, _ => exact .inr ⟨by decide, rfl⟩
def ab : ByteArray := ⟨#[97, 10, 98, 10]⟩
theorem ab_lines : (SplitLines.lines ab).length = 2 := by kernel_rfl
theorem itoa_size (n : Int) (h0 : -9223372036854775808 ≤ n) (h1 : n ≤ 9223372036854775807) : (FormatInt.itoaB n).size ≤ 1048576 := by
  have e : (FormatInt.itoaB n).size = (Lib.itoa n).length := by simp [FormatInt.itoaB, ByteArray.size]
  rw [e]
  unfold Lib.itoa
  split
  · have := Numeral.dec_len n.natAbs (by omega)
    simp; omega
  · have := Numeral.dec_len n.toNat (by omega)
    omega
theorem code_at {w w' : World} {cv : Value} {ns : List Nat} (h : CodeIn w w.heap.size cv ns) (hb : Below w.heap.size w w') : CodeIn w' w'.heap.size cv ns := by
  obtain ⟨a, cap, rfl, hn, hx, hc⟩ := code_kept h hb.block
  refine ⟨a, cap, rfl, hn, hx, fun hp => ?_⟩
  obtain ⟨b, o, h1, h2, h3⟩ := hc hp
  exact ⟨b, o, h1, Nat.lt_of_lt_of_le h2 hb.size, h3⟩
theorem own_len {w : World} {base : Nat} {e : TypeId} {v : Value} {n : Nat} {xs : List Value} (h : w.ownsRow base e 1 v n xs) : ∃ a cap, v = .slice a n cap := by
  rcases h.2 with ⟨rfl, rfl⟩ | ⟨g, cap, cur, rfl, _⟩
  · exact ⟨_, _, rfl⟩
  · exact ⟨_, _, rfl⟩

set_option maxHeartbeats 1000000 in
theorem law_any (cv : Value) (ns : List Nat) (w : World) (hc : CodeIn w w.heap.size cv ns) (htab : Lib.TabIs Tryd.prog w "internal/strconv.uint64pow10" .u64 Lib.pow10Tab)
    (tp : TypeId) (p : Value) (hsyn : w.var? Tryd.prog "strconv.ErrSyntax" = some #[.iface tp p]) (tq : TypeId) (q : Value) (hran : w.var? Tryd.prog "strconv.ErrRange" = some #[.iface tq q]) :
    Calls Tryd.prog 3 #[cv] w fun e w' => e = .returned (.bool true) ∧ Below w.heap.size w w' := by
  have hlt := Laid.tab_lt htab
  have hls := Laid.var_lt Laid.gSyn hsyn (by simp)
  have hlr := Laid.var_lt Laid.gRan hran (by simp)
  have HC := Lib.hid hc
  have HTAB := Lib.hid (fun w' (hb : Below w.heap.size w w') => FormatInt.tab_below Laid.gTab hlt htab hb)
  have HSYN := Lib.hid (fun w' (hb : Below w.heap.size w w') => Laid.var_below Laid.gSyn hls hsyn hb)
  have HRAN := Lib.hid (fun w' (hb : Below w.heap.size w w') => Laid.var_below Laid.gRan hlr hran hb)
  have HLT := Lib.hid hlt
  have hlen := hc.choose_spec.choose_spec.2.1
  obtain ⟨a, cap, rfl⟩ : ∃ a cap, cv = .slice a ns.length cap := ⟨_, _, hc.choose_spec.choose_spec.1⟩
  clear hc htab hsyn hran hlt hls hlr
  have hl2 : ¬ (1048576 : Int) < (ns.length : Int) := by omega
  go_enter Tryd.func3, Tryd.ntmps3
  go_wp2_with fail
  refine (Make.num_any _ _ ns 1 (by omega) HC.out).mono ?_
  rintro e w1 ⟨n, hn, rfl, hb1⟩
  have HB1 := Lib.hid hb1
  clear hb1
  go_wp2_with fail
  refine (FormatInt.impl_any ((n : Int) - 30000) _ (by omega) (by omega) (HTAB.out _ HB1.out)).mono ?_
  rintro e w2 ⟨rfl, hb2⟩
  have HB2 := Lib.hid (HB1.out.trans (hb2.mono HB1.out.size))
  clear hb2
  have HP := Lib.hid (show ParseInt.res (ParseInt.parseP (FormatInt.itoaB ((n : Int) - 30000))) = .returned (.tuple #[.int .i64 ((n : Int) - 30000), .bool true]) by
    rw [ParseInt.parse_yes (n := (n : Int) - 30000) ⟨⟨by omega, by omega⟩, rfl⟩]; rfl)
  have hsz := itoa_size ((n : Int) - 30000) (by omega) (by omega)
  go_wp2_with fail
  refine (ParseInt.impl_any _ _ hsz (Nat.lt_of_lt_of_le HLT.out HB2.out.size) (HTAB.out _ HB2.out) tp p (HSYN.out _ HB2.out) tq q (HRAN.out _ HB2.out)).mono ?_
  rintro e w3 ⟨rfl, hb3⟩
  rw [HP.out]
  have HB3 := Lib.hid (HB2.out.trans (hb3.mono HB2.out.size))
  clear hb3
  go_wp2_with fail
  refine (Make.text_any _ _ ns (code_at HC.out HB3.out)).mono ?_
  rintro e w4 ⟨s, hs, rfl, hb4⟩
  have HB4 := Lib.hid (HB3.out.trans (hb4.mono HB3.out.size))
  clear hb4
  go_wp2_with fail
  refine (SplitAny.impl_any s sp _ (by omega) (by decide)).mono ?_
  rintro e w5 ⟨v5, rfl, hown5, hb5⟩
  have HO5 := Lib.hid hown5
  have HB5 := Lib.hid (HB4.out.trans (hb5.mono HB4.out.size))
  clear hown5 hb5
  have hpt := parts_total s sp
  have HJ := Lib.hid (join_parts s)
  go_wp2_with fail
  refine (Join.impl_any _ v5 (parts s sp) sp (by decide) (by omega) (Strs.holds_of_own HO5.out) (Join.cap_of_own HO5.out)).mono ?_
  rintro e w6 ⟨rfl, hb6⟩
  rw [HJ.out]
  have HB6 := Lib.hid (HB5.out.trans (hb6.mono HB5.out.size))
  clear hb6
  go_wp2_with fail
  refine (IsName.impl_any x1 _ (by unfold maxLen; decide)).mono ?_
  rintro e w7 ⟨rfl, hb7⟩
  rw [x1_name]
  have HB7 := Lib.hid (HB6.out.trans (hb7.mono HB6.out.size))
  clear hb7
  go_wp2_with fail
  refine (SplitLines.impl_any ab _ (by decide)).mono ?_
  rintro e w8 ⟨v8, rfl, hown8, hb8⟩
  have HB8 := Lib.hid (HB7.out.trans (hb8.mono HB7.out.size))
  rw [ab_lines] at hown8
  obtain ⟨a8, c8, rfl⟩ := own_len hown8
  clear hown8 hb8
  go_wp2
  go_ret
  exact ⟨rfl, HB8.out⟩
theorem law_big (a0 : Option Addr) (len0 cap0 : Nat) (w : World) (h : 1048576 < len0) :
    Calls Tryd.prog 3 #[.slice a0 len0 cap0] w fun e w' => e = .returned (.bool true) ∧ Below w.heap.size w w' := by
  have h2 : (1048576 : Int) < (len0 : Int) := by omega
  go_enter Tryd.func3, Tryd.ntmps3
  go_wp2_with fail
  go_ret
  exact ⟨rfl, Below.refl _ _⟩

set_option maxRecDepth 100000 in
theorem lifted (os : Os) (started : os.Started) (H : Type) (enc : TypeId × Value → H) :
    ReturnsInHanded {} Tryd.checked os 3 .any (fun w args => (Rows.fnWordsSpec.pre enc Tryd.prog Tryd.f3 [] false w args ∧ laidMetH Tryd.prog Rows.fnWordsRow.laid w) ∧ sizedMet enc Tryd.prog Tryd.f3 (OpenSpec.ofChange Rows.fnWordsSpec) false w args)
      (Rows.fnWordsSpec.post enc Tryd.prog Tryd.f3 false true false false) := by
  refine returnsInHanded_of_change_and (C := Tryd.checked) (X := fun w _ => laidMetH Tryd.prog Rows.fnWordsRow.laid w) (fun _ _ _ hh h => h.of_heap hh) Kit.own started (by kernel_rfl) Tryd.func3
    (ChangeSpec.witness_shaped (enc := enc) (C := Tryd.checked) (os := os) (X := fun w _ => laidMetH Tryd.prog Rows.fnWordsRow.laid w) false (World.doorLaid Tryd.prog 400 os) #[.slice none 0 0] 8 rfl (World.shaped_of_RefB (by kernel_rfl) (by kernel_rfl)) (by kernel_rfl) (by kernel_rfl) (by kernel_rfl) (Laid.door5 os _)) ?_
  intro W base args ds gs before hval0 hW _ _ hL _
  have hval : ∀ (j : Nat) t v, Tryd.f3.params[j]? = some t → args[j]? = some v → Value.okWide Tryd.prog W .any base t v := hval0
  have hW' := hW
  obtain ⟨p, q, hA0, hV, rfl, hfz, hnd⟩ := hW
  have hA : DataW.TrodAll enc Tryd.prog W 0 (fun _ => true) true Tryd.f3.params.toList args.toList ds p := hA0
  rw [Tryd.params3] at hA hval
  obtain ⟨v0, d0, rfl, rfl, h0⟩ := trodAll_one hA
  obtain ⟨a0, len0, cap0, rfl⟩ := okWide_slice Tryd.underlying22 (hval 0 22 v0 rfl rfl)
  obtain ⟨htab, ⟨tp, p1, hsyn⟩, ⟨tq, q1, hran⟩⟩ := Laid.five hL
  have hlaw : Calls Tryd.prog 3 #[.slice a0 len0 cap0] W fun e w' => e = .returned (.bool true) ∧ Below W.heap.size W w' := by
    by_cases hbig : 1048576 < len0
    · exact law_big _ _ _ W hbig
    · obtain ⟨ns, hns, hcode⟩ := Cur.open_code h0 (by omega)
      exact law_any _ ns W hcode htab tp p1 hsyn tq q1 hran
  refine hlaw.mono fun e W' ⟨he, hbel⟩ => ?_
  subst he
  exact ⟨_, rfl, Kit.law_post Kit.laidOut (by kernel_rfl) Tryd.underlying4 rfl rfl (fun H ds hl => by match ds, hl with | [d], _ => rfl) hW' hbel⟩

theorem said : Rows.FnWordsSaid :=
  OpenClaim.holds_of_wide 3 Tryd.f3 rfl rfl rfl rfl rfl rfl rfl ⟨rfl, rfl, rfl, rfl, rfl⟩ rfl rfl rfl rfl rfl (by kernel_rfl) Tryd.func3 (by kernel_rfl)
    (of_decide_eq_true (by kernel_rfl)) (by unfold Func.isWrapper; first | (rw [if_pos (by decide +kernel)]; kernel_rfl) | (rw [if_neg (by decide +kernel)]; exact ⟨rfl, rfl⟩))
    (fun os started H enc _ => lifted os started H enc)

theorem plain (f : FuncId) (fn : Func) (hf : Tryd.pinned.checked.prog.funcNamed "loop.example/g00817/laws.FnWords" = some f) (hfn : Tryd.pinned.checked.prog.funcs[f]? = some fn) :
    true = Tryd.pinned.checked.prog.looks [] ∧ ∀ (j : Nat) t, fn.params[j]? = some t → Tryd.pinned.checked.prog.wantsStandIn t = false := by
  obtain rfl : f = 3 := Option.some.inj ((show Tryd.prog.funcNamed "loop.example/g00817/laws.FnWords" = some 3 by kernel_rfl).symm.trans hf) |>.symm
  obtain rfl : fn = Tryd.f3 := (Option.some.inj (Tryd.func3.symm.trans hfn)).symm
  refine ⟨by kernel_rfl, fun j t ht => ?_⟩
  rw [Tryd.params3] at ht
  obtain rfl : t = 22 := by simpa using Array.mem_of_getElem? ht
  exact (show Tryd.prog.wantsStandIn 22 = false by kernel_rfl)

theorem holds : Rows.FnWordsCardSaid :=
  Claim7.holds_tied_plain_at .later [] _ _ _ _ said (fun _ h => by cases h) (by kernel_rfl) (fun _ h => by cases h) fnWords_row_tie rfl ⟨rfl, rfl⟩ (by kernel_rfl) rfl plain (by kernel_rfl)
#print axioms holds
end Go.Proofs.YtjeienkfocppfaaDoor.Words
