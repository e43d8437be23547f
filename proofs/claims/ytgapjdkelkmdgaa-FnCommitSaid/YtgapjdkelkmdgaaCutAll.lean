/- Contracts: for every string of at most 2^20 bytes and every int, the program's CutAll and the model's return a slice of their own that reads as the string's pieces. Conditions: the string's length; the int is a 64-bit one. -/
import Derived.Test.YtgapjdkelkmdgaaSplitAnyLaw
import Derived.Test.YtgapjdkelkmdgaaPutNumber
import Derived.Lib.Strings
namespace Go.Proofs.Ytgapjdkelkmdgaa.CutAll
open Go.ChangeShapes Go.WideShapes Go.ChangeAt Go.RowKit
open SplitAny (own_fresh own_nil st_below strInfo own_of_heap)
open PutNumber (in_yes in_no)
set_option linter.unusedVariables false

/-- The first k pieces of n bytes each. -/
def cut (s : ByteArray) (n k : Nat) : List ByteArray := (List.range k).map fun i => s.extract (i * n) (min (i * n + n) s.size)
theorem cut_length (s : ByteArray) (n k : Nat) : (cut s n k).length = k := by simp [cut]
theorem cut_succ (s : ByteArray) (n k : Nat) : cut s n (k + 1) = cut s n k ++ [s.extract (k * n) (min (k * n + n) s.size)] := by simp [cut, List.range_succ]
def cutAll (s : ByteArray) (n : Int) : List ByteArray := if 1 ≤ n ∧ n ≤ 1000 then cut s n.toNat ((s.size + n.toNat - 1) / n.toNat) else []
theorem cnt_eq {z n k : Nat} (hn : 0 < n) (h1 : z ≤ k * n) (h2 : k = 0 ∨ ∃ j, k = j + 1 ∧ j * n < z) : (z + n - 1) / n = k := by
  apply Nat.div_eq_of_lt_le
  · rcases h2 with rfl | ⟨j, rfl, h2⟩
    · simp
    · rw [Nat.succ_mul]; omega
  · rw [Nat.succ_mul]; omega
theorem cutAll_eq {s : ByteArray} {n k : Nat} (h1 : 1 ≤ n) (h2 : n ≤ 1000) (h3 : s.size ≤ k * n) (h4 : k = 0 ∨ ∃ j, k = j + 1 ∧ j * n < s.size) : cutAll s (n : Int) = cut s n k := by
  rw [cutAll, if_pos (by omega), Int.toNat_natCast, cnt_eq (by omega) h3 h4]
theorem cutAll_no {s : ByteArray} {n : Int} (h : n < 1 ∨ 1000 < n) : cutAll s n = [] := by
  rw [cutAll, if_neg (by omega)]
theorem cutAll_len (s : ByteArray) (n : Int) : (cutAll s n).length ≤ s.size := by
  unfold cutAll
  split
  · rename_i h
    rw [cut_length]
    have hn : 0 < n.toNat := by omega
    rcases Nat.eq_zero_or_pos s.size with h0 | h0
    · rw [h0, Nat.div_eq_of_lt (by omega)]; omega
    · calc (s.size + n.toNat - 1) / n.toNat ≤ (s.size * n.toNat) / n.toNat := by
            apply Nat.div_le_div_right
            have := Nat.mul_le_mul (show 1 ≤ s.size from h0) (Nat.le_refl n.toNat)
            obtain ⟨a, ha⟩ : ∃ a, s.size = a + 1 := ⟨s.size - 1, by omega⟩
            obtain ⟨b, hb⟩ : ∃ b, n.toNat = b + 1 := ⟨n.toNat - 1, by omega⟩
            rw [ha, hb, Nat.succ_mul, Nat.mul_succ]; omega
        _ = s.size := Nat.mul_div_cancel _ hn
  · simp
/-- The state at a round's head: k pieces have been cut off. -/
def St (s : ByteArray) (n : Nat) (w : World) (k : Nat) (v : Value) (wr : World) : Prop :=
  wr.ownsRow w.heap.size 9 1 v k ((cut s n k).map Value.string) ∧ Below w.heap.size w wr
theorem st_next {s : ByteArray} {n : Nat} {w : World} {k : Nat} {v v' : Value} {wr w1 : World} {o : Obj} {x : ByteArray} (h : St s n w k v wr) (hx : x = s.extract (k * n) (min (k * n + n) s.size))
    (hown1 : w1.ownsRow w.heap.size 9 1 v' (k + 1) ((cut s n k).map Value.string ++ [.string x])) (hg : (wr.alloc o).grownBy w1 v.ownBlock) : St s n w (k + 1) v' w1 := by
  subst hx
  refine ⟨?_, (st_below h.1 h.2 h.2.size (Nat.le_refl _) hg).1⟩
  rw [cut_succ]
  simpa using hown1

set_option maxRecDepth 100000 in
set_option maxHeartbeats 400000 in
theorem impl_yes (s : ByteArray) (n : Nat) (w : World) (hs : s.size ≤ 1048576) (h1 : 1 ≤ n) (h2 : n ≤ 1000) :
    Calls Try.prog 75 #[.string s, .int .i64 n] w fun e w' => ∃ v, e = .returned v ∧ w'.ownsRow w.heap.size 9 1 v (cutAll s n).length ((cutAll s n).map Value.string) ∧ Below w.heap.size w w' := by
  obtain ⟨i0, hi, hz0, hz1, hz2⟩ := info_parts strInfo
  go_enter Try.func75, Try.ntmps75
  go_wp2
  go_loopw [5, 6] (fun v a wr => ∃ k m : Nat, m = k * n ∧ a = .int .i64 m ∧ St s n w k v wr ∧ (k = 0 ∨ ∃ j, k = j + 1 ∧ j * n < s.size) ∧ m ≤ s.size + 1000 ∧ k ≤ m) (fun _ a _ => s.size + 1000 - (intOf a).toNat)
  case atStart => exact ⟨0, 0, by omega, rfl, ⟨own_nil _ _ _, Below.refl _ _⟩, .inl rfl, by omega, by omega⟩
  case round =>
    obtain ⟨k, m, hm, rfl, hst, hk, hms, hkm⟩ := hrel
    have HST := Lib.hid hst
    have HK := Lib.hid hk
    have HM := Lib.hid hm
    have hsz := hst.2.size
    clear hst hk hm
    by_cases hlt : m < s.size
    · by_cases hmin : m + n ≤ s.size
      · go_wp2_with (first | (at_builtin; refine wpList_append_own _ rfl _ _ 23 rfl w.heap.size 9 i0 (.string ⟨#[]⟩) 1 16 Try.underlying23 hi hz0 hz1 hz2 rfl (by decide) _ _ _ rfl (HST.out.1.alloc _) ⟨wr.heap.size, 0, none⟩ 1 1 [.string (s.extract m (m + n))] rfl rfl ?c1 ?c2 ?c3 ?c4 ?c5 ?_))
        case c1 => exact cell_one_new _ _ _
        case c2 => simp [Value.oneCell']
        case c3 => unfold maxLen; omega
        case c4 => omega
        case c5 => simp; omega
        intro v' w1 hown1 hg1 _
        have HST1 := Lib.hid (st_next HST.out (by rw [← HM.out, Nat.min_eq_left hmin]) hown1 hg1)
        clear hown1 hg1
        go_wp2
        go_roundw
        case rel => exact ⟨k + 1, m + n, by rw [Nat.succ_mul, ← HM.out], by go_num, HST1.out, .inr ⟨k, rfl, by rw [← HM.out]; exact hlt⟩, by omega, by omega⟩
        case measure => simp [intOf]; omega
      · go_wp2_with (first | (at_builtin; refine wpList_append_own _ rfl _ _ 23 rfl w.heap.size 9 i0 (.string ⟨#[]⟩) 1 16 Try.underlying23 hi hz0 hz1 hz2 rfl (by decide) _ _ _ rfl (HST.out.1.alloc _) ⟨wr.heap.size, 0, none⟩ 1 1 [.string (s.extract m s.size)] rfl rfl ?c1 ?c2 ?c3 ?c4 ?c5 ?_))
        case c1 => exact cell_one_new _ _ _
        case c2 => simp [Value.oneCell']
        case c3 => unfold maxLen; omega
        case c4 => omega
        case c5 => simp; omega
        intro v' w1 hown1 hg1 _
        have HST1 := Lib.hid (st_next HST.out (by rw [← HM.out, Nat.min_eq_right (by omega)]) hown1 hg1)
        clear hown1 hg1
        go_wp2
        go_roundw
        case rel => exact ⟨k + 1, m + n, by rw [Nat.succ_mul, ← HM.out], by go_num, HST1.out, .inr ⟨k, rfl, by rw [← HM.out]; exact hlt⟩, by omega, by omega⟩
        case measure => simp [intOf]; omega
    · have HE := Lib.hid (cutAll_eq (s := s) h1 h2 (by rw [← HM.out]; omega) HK.out)
      go_wp2
      go_ret
      refine ⟨_, rfl, ?_, HST.out.2⟩
      rw [HE.out, cut_length]
      exact HST.out.1

/-- What is left of s behind k pieces. -/
theorem rest_cut (s : ByteArray) (m n : Nat) : (s.extract m s.size).extract 0 n = s.extract m (min (m + n) s.size) := by
  apply ByteArray.ext
  apply Array.toList_inj.1
  simp only [Lib.extract_data, List.drop_zero, List.take_take]
  congr 1
  omega
theorem rest_next (s : ByteArray) (m n : Nat) : (s.extract m s.size).extract n (s.extract m s.size).size = s.extract (m + n) s.size := by
  apply ByteArray.ext
  apply Array.toList_inj.1
  simp only [Lib.extract_data]
  simp
  rw [List.drop_take, List.drop_drop]
  rw [Nat.sub_sub, List.take_take, Nat.min_self]

set_option maxRecDepth 100000 in
set_option maxHeartbeats 400000 in
theorem spec_yes (s : ByteArray) (n : Nat) (w : World) (hs : s.size ≤ 1048576) (h1 : 1 ≤ n) (h2 : n ≤ 1000) :
    Calls Try.prog 92 #[.string s, .int .i64 n] w fun e w' => ∃ v, e = .returned v ∧ w'.ownsRow w.heap.size 9 1 v (cutAll s n).length ((cutAll s n).map Value.string) ∧ Below w.heap.size w w' := by
  obtain ⟨i0, hi, hz0, hz1, hz2⟩ := info_parts strInfo
  go_enter Try.func92, Try.ntmps92
  go_wp2_with fail
  refine (in_yes _ 1 1000 _ (by omega) (by omega)).mono ?_
  rintro e w1 ⟨rfl, rfl⟩
  go_wp2_with fail
  go_loopw [0, 5] (fun sv v wr => ∃ (k m : Nat) (r : ByteArray), m = k * n ∧ r = s.extract m s.size ∧ sv = .string r ∧ St s n w k v wr ∧ r.size + m = s.size ∧ (k = 0 ∨ m < s.size) ∧ k ≤ m) (fun sv _ _ => match sv with | .string r => r.size | _ => 0)
  case atStart => exact ⟨0, 0, s, by omega, by apply ByteArray.ext; apply Array.toList_inj.1; simp, rfl, ⟨own_fresh w _, (Below.refl _ _).alloc (Nat.le_refl _) _⟩, by omega, .inl rfl, by omega⟩
  case round =>
    obtain ⟨k, m, r, hm, hr, rfl, hst, hrs, hk, hkm⟩ := hrel
    have HST := Lib.hid hst
    have HM := Lib.hid hm
    have HR := Lib.hid hr
    have hsz := hst.2.size
    clear hst hm hr
    by_cases hlt : n < r.size
    · have HX := Lib.hid (show r.extract 0 n = s.extract m (min (m + n) s.size) by rw [HR.out, rest_cut])
      have HY := Lib.hid (show r.extract n r.size = s.extract (m + n) s.size by rw [HR.out, rest_next])
      go_wp2_with (first | (at_builtin; refine wpList_append_own _ rfl _ _ 23 rfl w.heap.size 9 i0 (.string ⟨#[]⟩) 1 16 Try.underlying23 hi hz0 hz1 hz2 rfl (by decide) _ _ _ rfl (HST.out.1.alloc _) ⟨wr.heap.size, 0, none⟩ 1 1 [.string (r.extract 0 n)] rfl rfl ?c1 ?c2 ?c3 ?c4 ?c5 ?_))
      case c1 => exact cell_one_new _ _ _
      case c2 => simp [Value.oneCell']
      case c3 => unfold maxLen; omega
      case c4 => omega
      case c5 => simp; omega
      intro v' w1 hown1 hg1 _
      have HST1 := Lib.hid (st_next HST.out (by rw [HX.out, ← HM.out]) hown1 hg1)
      clear hown1 hg1
      go_wp2_with fail
      go_roundw
      case rel => exact ⟨k + 1, m + n, _, by rw [Nat.succ_mul, ← HM.out], HY.out, rfl, HST1.out, by simp; omega, .inr (by omega), by omega⟩
      case measure => simp; omega
    · by_cases h0 : r.size = 0
      · have hk0 : k = 0 := by rcases hk with hk | hk <;> omega
        have HE := Lib.hid (cutAll_eq (s := s) (k := k) h1 h2 (by rw [← HM.out]; omega) (.inl hk0))
        have hl1 : r.toList = [] := by rw [ByteArray.toList_eq]; exact List.length_eq_zero_iff.1 (by simpa using h0)
        have hl2 : r.toList.isEmpty = true := by rw [hl1]; rfl
        go_wp2_with fail
        go_ret
        refine ⟨_, rfl, ?_, HST.out.2⟩
        rw [HE.out, cut_length]
        exact HST.out.1
      · have HE := Lib.hid (cutAll_eq (s := s) (k := k + 1) h1 h2 (by rw [Nat.succ_mul, ← HM.out]; omega) (.inr ⟨k, rfl, by rw [← HM.out]; omega⟩))
        have hl2 : r.toList.isEmpty = false := by
          rw [ByteArray.toList_eq, List.isEmpty_eq_false_iff]
          intro hh
          exact h0 (by have := congrArg List.length hh; simpa using this)
        go_wp2_with (first | (at_builtin; refine wpList_append_own _ rfl _ _ 23 rfl w.heap.size 9 i0 (.string ⟨#[]⟩) 1 16 Try.underlying23 hi hz0 hz1 hz2 rfl (by decide) _ _ _ rfl (HST.out.1.alloc _) ⟨wr.heap.size, 0, none⟩ 1 1 [.string r] rfl rfl ?c1 ?c2 ?c3 ?c4 ?c5 ?_))
        case c1 => exact cell_one_new _ _ _
        case c2 => simp [Value.oneCell']
        case c3 => unfold maxLen; omega
        case c4 => omega
        case c5 => simp; omega
        intro v' w1 hown1 hg1 _
        have HST1 := Lib.hid (st_next HST.out (by rw [HR.out, ← HM.out, Nat.min_eq_right (by omega)]) hown1 hg1)
        clear hown1 hg1
        go_wp2_with fail
        go_ret
        refine ⟨_, rfl, ?_, HST1.out.2⟩
        rw [HE.out, cut_length]
        exact HST1.out.1

theorem spec_any (s : ByteArray) (n : Int) (w : World) (hs : s.size ≤ 1048576) :
    Calls Try.prog 92 #[.string s, .int .i64 n] w fun e w' => ∃ v, e = .returned v ∧ w'.ownsRow w.heap.size 9 1 v (cutAll s n).length ((cutAll s n).map Value.string) ∧ Below w.heap.size w w' := by
  by_cases h : n < 1 ∨ 1000 < n
  · rw [cutAll_no h]
    have HH := Lib.hid h
    clear h
    go_enter Try.func92, Try.ntmps92
    go_wp2_with fail
    refine (in_no _ 1 1000 _ HH.out).mono ?_
    rintro e w1 ⟨rfl, rfl⟩
    go_wp2_with fail
    go_ret
    exact ⟨_, rfl, own_nil _ _ _, (Below.refl _ _).alloc (Nat.le_refl _) _⟩
  · obtain ⟨m, rfl⟩ := Int.eq_ofNat_of_zero_le (show 0 ≤ n by omega)
    exact spec_yes s m w hs (by omega) (by omega)
theorem impl_any (s : ByteArray) (n : Int) (w : World) (hs : s.size ≤ 1048576) :
    Calls Try.prog 75 #[.string s, .int .i64 n] w fun e w' => ∃ v, e = .returned v ∧ w'.ownsRow w.heap.size 9 1 v (cutAll s n).length ((cutAll s n).map Value.string) ∧ Below w.heap.size w w' := by
  by_cases h : n < 1 ∨ 1000 < n
  · rw [cutAll_no h]
    by_cases h1 : n < 1
    · have hd : decide (n < 1) = true := by simp; omega
      clear h
      go_enter Try.func75, Try.ntmps75
      go_wp2_with fail
      go_ret
      exact ⟨_, rfl, own_nil _ _ _, Below.refl _ _⟩
    · have h2 : 1000 < n := by omega
      have h3 : 1 ≤ n := by omega
      clear h h1
      go_enter Try.func75, Try.ntmps75
      go_wp2_with fail
      go_ret
      exact ⟨_, rfl, own_nil _ _ _, Below.refl _ _⟩
  · obtain ⟨m, rfl⟩ := Int.eq_ofNat_of_zero_le (show 0 ≤ n by omega)
    exact impl_yes s m w hs (by omega) (by omega)
end Go.Proofs.Ytgapjdkelkmdgaa.CutAll
