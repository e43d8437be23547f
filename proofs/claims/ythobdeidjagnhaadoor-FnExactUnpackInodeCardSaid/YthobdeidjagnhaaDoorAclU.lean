/- Contracts: the program's UnpackAcl and the model's return, for every string of at most 2^20 bytes, the access list whose bytes it is. Condition: the string's length. -/
import Derived.Test.YthobdeidjagnhaaDoorAclK
import Derived.Test.YthobdeidjagnhaaDoorGetNumber
namespace Go.Proofs.YthobdeidjagnhaaDoor.AclU
open Go.ChangeShapes Go.WideShapes Go.ChangeAt Go.RowKit
open AclV AclB

open Strs (ret_int)
set_option linter.unusedVariables false

theorem seg_one (s : ByteArray) (a : Nat) (h : a < s.size) : Nums.getL (GetNumber.seg s a 1) = (s.data.toList.getD a 0).toNat := by
  rw [GetNumber.seg_succ s a 0 h, SplitAny.byte_at s a h]
  simp [GetNumber.seg, Nums.getL]
theorem got_one (s : ByteArray) (a : Nat) : ∃ b, GetNumber.gotV s a 1 = .returned (.tuple #[.int .i64 ((s.data.toList.getD a 0).toNat : Int), .bool b]) := by
  by_cases h : a < s.size
  · have := GetNumber.got_yes s a 1 (by omega) (by omega) (by omega)
    rw [seg_one s a h] at this
    exact ⟨true, this⟩
  · refine ⟨false, ?_⟩
    rw [GetNumber.got_no (by omega)]
    have : s.data.toList.getD a 0 = 0 := by
      rw [List.getD_eq_getElem?_getD, List.getElem?_eq_none (by rw [Array.length_toList]; exact Nat.le_of_not_lt h)]; rfl
    rw [this]; rfl
theorem byte_any (s : ByteArray) (a : Nat) (w : World) (hs : s.size ≤ 1048576) :
    Calls Tryd.prog 65 #[.string s, .int .i64 a] w fun e w' => e = .returned (.int .i64 ((s.data.toList.getD a 0).toNat : Int)) ∧ w = w' := by
  obtain ⟨b, hb⟩ := got_one s a
  have H := GetNumber.impl_any s a 1 w hs (by omega) (by omega)
  rw [hb] at H
  have HG := Lib.hid H
  clear H hb
  generalize (s.data.toList.getD a 0).toNat = c at HG ⊢
  go_enter Tryd.func65, Tryd.ntmps65
  go_wp2_with fail
  refine HG.out.mono ?_
  rintro e wq ⟨rfl, rfl⟩
  go_wp2
  go_ret
  exact ⟨rfl, rfl⟩
/-- What unpacking gives: a list and whether there is one. -/
def resR (x : Option (List At)) : List At × Bool := match x with
  | some l => (l, true)
  | none => ([], false)
theorem ok_of_pack {s : ByteArray} {n : Nat} (hn : n = (s.data.toList.getD 0 0).toNat ∨ 0 < s.size) (h : packV (tripV s n) = s) : okB (tripV s n) = true := by
  cases hok : okB (tripV s n)
  · have h2 := AclK.pack_no hok
    rw [h] at h2
    rcases hn with hn | hn
    · have h0 : n = 0 := by rw [hn, h2]; rfl
      rw [h0] at hok
      rw [AclI.ok_zero (by rw [tripV_length])] at hok
      cases hok
    · rw [h2] at hn; exact absurd hn (by decide)
  · rfl
theorem unp_yes {s : ByteArray} {n : Nat} (hn : n = (s.data.toList.getD 0 0).toNat ∨ (n = 6 ∧ 6 ≤ (s.data.toList.getD 0 0).toNat)) (hk : n = (s.data.toList.getD 0 0).toNat ∨ 0 < s.size) (h : packV (tripV s n) = s) : unpackV s = some (tripV s n) := by
  rw [unpack_eq s n hn, if_pos ⟨ok_of_pack hk h, h⟩]
theorem unp_no {s : ByteArray} {n : Nat} (hn : n = (s.data.toList.getD 0 0).toNat ∨ (n = 6 ∧ 6 ≤ (s.data.toList.getD 0 0).toNat)) (h : packV (tripV s n) ≠ s) : unpackV s = none := by
  rw [unpack_eq s n hn, if_neg (fun hh => h hh.2)]
theorem unp_short {s : ByteArray} (h : s.size ≠ 19) : unpackV s = none := unpack_none fun l hl e => h (by rw [← e]; exact pack_size hl)
theorem unp_len (s : ByteArray) : (resR (unpackV s)).1.length ≤ 6 := by
  by_cases h : ∃ l, okB l = true ∧ packV l = s
  · obtain ⟨l, hl, rfl⟩ := h
    rw [unpack_of hl]
    exact ok_len hl
  · rw [unpack_none (fun l hl e => h ⟨l, hl, e⟩)]
    exact Nat.zero_le _
theorem str_ne {a b : ByteArray} (h : a ≠ b) : (a.toList == b.toList) = false := by
  refine beq_eq_false_iff_ne.2 fun e => h ?_
  rw [ByteArray.toList_eq, ByteArray.toList_eq] at e
  exact AclP.ext e
theorem own_nil3 (w : World) (base : Nat) (e : TypeId) : w.ownsRow base e 3 (.slice none 0 0) 0 (Ae.cells []) := ⟨rfl, .inl ⟨rfl, rfl⟩⟩
theorem own_fresh3 (w : World) (e : TypeId) : (w.alloc (.cells #[] e)).ownsRow w.heap.size e 3 (.slice (some ⟨w.heap.size, 0, none⟩) 0 0) 0 (Ae.cells []) := by
  refine ⟨rfl, .inr ⟨w.heap.size, 0, #[], rfl, Nat.le_refl _, ?_, Nat.le_refl _, Nat.zero_le _, rfl, rfl⟩⟩
  exact (MapKept.heap_alloc w _).1
theorem trip_next {w1 : World} {base : Nat} {v : Value} {s : ByteArray} {k : Nat} (h : w1.ownsRow base 69 3 v (k + 1) (Ae.cells (tripV s k) ++ [.int .i64 ((s.data.toList.getD (3 * k + 1) 0).toNat : Int), .int .i64 ((s.data.toList.getD (3 * k + 2) 0).toNat : Int), .int .i64 ((s.data.toList.getD (3 * k + 3) 0).toNat : Int)])) :
    w1.ownsRow base 69 3 v (k + 1) (Ae.cells (tripV s (k + 1))) := by
  rw [tripV_succ, Ae.cells_snoc]; exact h
theorem cells3_at (w : World) (x y z : Value) (T : TypeId) : ∀ j u, [x, y, z][j]? = some u → (w.alloc (.cells #[x, y, z] T)).cell? ((⟨w.heap.size, 0, none⟩ : Addr).add j) = some u := AclK.cells3_new w x y z T

set_option maxRecDepth 100000 in
set_option maxHeartbeats 1600000 in
theorem impl_any (s : ByteArray) (w : World) (hs : s.size ≤ 1048576) :
    Calls Tryd.prog 28 #[.string s] w fun e w' => ∃ v, e = .returned (.tuple #[v, .bool (resR (unpackV s)).2]) ∧ w'.ownsRow w.heap.size 69 3 v (resR (unpackV s)).1.length (Ae.cells (resR (unpackV s)).1) ∧ Below w.heap.size w w' := by
  obtain ⟨i0, hi, hz0, hz1, hz2⟩ := info_parts Ae.info
  have HF0 := Lib.hid hi
  have HF1 := Lib.hid hz0
  have HF2 := Lib.hid hz1
  have HF3 := Lib.hid hz2
  clear hi hz0 hz1 hz2
  have hb : ∀ (a : Nat) (W : World), Calls Tryd.prog 65 #[.string s, .int .i64 a] W fun e w' => e = .returned (.int .i64 ((s.data.toList.getD a 0).toNat : Int)) ∧ W = w' := fun a W => byte_any s a W hs
  have HBY := Lib.hid hb
  clear hb
  obtain ⟨n, hn⟩ : ∃ n, n = (s.data.toList.getD 0 0).toNat := ⟨_, rfl⟩
  have hn5 : n ≤ 255 := by have := (s.data.toList.getD 0 0).toNat_lt; omega
  have H0 := Lib.hid (show ∀ W : World, Calls Tryd.prog 65 #[.string s, .int .i64 0] W fun e w' => e = .returned (.int .i64 (n : Int)) ∧ W = w' from fun W => by rw [hn]; exact HBY.out 0 W)
  have HYES := Lib.hid (fun h => unp_yes (.inl hn) (.inl hn) h)
  have HNO := Lib.hid (fun h => unp_no (.inl hn) h)
  clear hn
  go_enter Tryd.func28, Tryd.ntmps28
  go_wp2_with fail
  refine (H0.out _).mono ?_
  rintro e wq ⟨rfl, rfl⟩
  go_wp2_with fail
  go_loopw [4, 9] (fun sv iv wr => ∃ k : Nat, k ≤ n ∧ iv = .int .i64 k ∧ wr.ownsRow w.heap.size 69 3 sv k (Ae.cells (tripV s k)) ∧ Below w.heap.size w wr) (fun _ iv _ => n - (intOf iv).toNat)
  case atStart => exact ⟨0, Nat.zero_le _, rfl, own_nil3 _ _ _, Below.refl _ _⟩
  case round =>
    obtain ⟨k, hk, rfl, hown, hbel⟩ := hrel
    have HBEL := Lib.hid hbel
    have HOWN := Lib.hid hown
    have hsz := hbel.size
    clear hbel hown
    by_cases hlt : k < n
    · have h1 := HBY.out (3 * k + 1)
      have h2 := HBY.out (3 * k + 2)
      have h3 := HBY.out (3 * k + 3)
      have HT := Lib.hid (fun (w1 : World) (v : Value) => trip_next (w1 := w1) (base := w.heap.size) (v := v) (s := s) (k := k))
      rw [show (((3 * k + 1 : Nat)) : Int) = 1 + (k : Int) * 3 from by omega] at h1
      rw [show (((3 * k + 2 : Nat)) : Int) = 1 + (k : Int) * 3 + 1 from by omega] at h2
      rw [show (((3 * k + 3 : Nat)) : Int) = 1 + (k : Int) * 3 + 2 from by omega] at h3
      generalize (s.data.toList.getD (3 * k + 1) 0).toNat = c1 at h1 HT
      generalize (s.data.toList.getD (3 * k + 2) 0).toNat = c2 at h2 HT
      generalize (s.data.toList.getD (3 * k + 3) 0).toNat = c3 at h3 HT
      have H1 := Lib.hid h1
      have H2 := Lib.hid h2
      have H3 := Lib.hid h3
      clear h1 h2 h3
      go_wp2_with fail
      refine (H1.out _).mono ?_
      rintro e wq ⟨rfl, rfl⟩
      go_wp2_with fail
      refine (H2.out _).mono ?_
      rintro e wq ⟨rfl, rfl⟩
      go_wp2_with fail
      refine (H3.out _).mono ?_
      rintro e wq ⟨rfl, rfl⟩
      go_wp2_with (first | (at_builtin; refine wpList_append_own _ rfl _ _ 24 rfl w.heap.size 69 i0 (.agg #[.int .i64 0, .int .i64 0, .int .i64 0]) 3 24 Tryd.underlying24 HF0.out HF1.out HF2.out HF3.out rfl (by decide) _ _ _ rfl (HOWN.out.alloc _) ⟨wr.heap.size, 0, none⟩ 1 1 [.int .i64 c1, .int .i64 c2, .int .i64 c3] rfl rfl ?c1 ?c2 ?c3 ?c4 ?c5 ?_))
      case c1 => exact cells3_at _ _ _ _ _
      case c2 => simp [Value.oneCell']
      case c3 => unfold maxLen; omega
      case c4 => omega
      case c5 => simp; omega
      intro v' w1 hown1 hg1 _
      have HO1 := Lib.hid (HT.out _ _ hown1)
      have HB1 := Lib.hid ((HBEL.out.alloc hsz (.cells #[.int .i64 c1, .int .i64 c2, .int .i64 c3] 69)).grown hg1 (by simp; omega) (fun k hk => (HOWN.out.lt k hk).1))
      clear hown1 hg1
      go_wp2
      go_roundw
      case rel => exact ⟨k + 1, by omega, by go_num, HO1.out, HB1.out⟩
      case measure => simp [intOf]; omega
    · obtain rfl : k = n := by omega
      have hhold := Ae.holds_of_own HOWN.out
      have hlen := tripV_length s k
      have HHH := Lib.hid hhold
      clear hhold
      go_wp2_with fail
      refine (AclK.impl_any _ _ (tripV s k) (by rw [hlen]; omega) HHH.out).mono ?_
      rintro e w2 ⟨rfl, hb⟩
      have HB2 := Lib.hid (HBEL.out.trans (hb.mono HBEL.out.size))
      have HO2 := Lib.hid (Strs.own_below HOWN.out hb)
      clear hb
      by_cases he : packV (tripV s k) = s
      · have HE := Lib.hid he
        have HR := Lib.hid (HYES.out he)
        have hl := Lib.hid hlen
        rw [he]
        clear he hlen
        go_wp2
        go_ret2
        refine ⟨_, by rw [HR.out]; rfl, ?_, HB2.out⟩
        rw [HR.out]
        show World.ownsRow _ _ _ _ _ (tripV s k).length (Ae.cells (tripV s k))
        rw [hl.out]
        exact HO2.out
      · have hne := str_ne he
        have HR := Lib.hid (HNO.out he)
        clear he hlen
        generalize packV (tripV s k) = P at hne
        go_wp2
        go_ret2
        refine ⟨_, by rw [HR.out]; rfl, ?_, HB2.out⟩
        rw [HR.out]
        exact own_nil3 _ _ _

theorem index_at (s : ByteArray) (j : Nat) (h : j < s.size) (q : Int) (hq : q = (j : Int)) (W : World) : (Instr.index 9 (.string s) (.int .i64 q)).run Tryd.prog W = .ok (.int .u8 ((s.data.toList.getD j 0).toNat : Int)) W := by
  subst hq
  rw [SplitAny.byte_at s j h]
  simp [Instr.index, go_sem, h]
theorem own_drew3 {w : World} {base : Nat} {e : TypeId} {v : Value} {n : Nat} {xs : List Value} (h : w.ownsRow base e 3 v n xs) (o : Obj) : (w.alloc o).drew.ownsRow base e 3 v n xs :=
  Strs.own_below (w := w.alloc o) (World.ownsRow.alloc h o) (Below.refl _ _).drew
theorem cells3_drew (w : World) (x y z : Value) (T : TypeId) : ∀ j u, [x, y, z][j]? = some u → (w.alloc (.cells #[x, y, z] T)).drew.cell? ((⟨w.heap.size, 0, none⟩ : Addr).add j) = some u := AclK.cells3_new w x y z T

set_option maxRecDepth 100000 in
set_option maxHeartbeats 3200000 in
theorem spec_any (s : ByteArray) (w : World) (hs : s.size ≤ 1048576) :
    Calls Tryd.prog 55 #[.string s] w fun e w' => ∃ v, e = .returned (.tuple #[v, .bool (resR (unpackV s)).2]) ∧ w'.ownsRow w.heap.size 69 3 v (resR (unpackV s)).1.length (Ae.cells (resR (unpackV s)).1) ∧ Below w.heap.size w w' := by
  by_cases h19 : s.size = 19
  · obtain ⟨i0, hi, hz0, hz1, hz2⟩ := info_parts Ae.info
    have HF0 := Lib.hid hi
    have HF1 := Lib.hid hz0
    have HF2 := Lib.hid hz1
    have HF3 := Lib.hid hz2
    clear hi hz0 hz1 hz2 hs
    obtain ⟨c0, hc0⟩ : ∃ c0, c0 = (s.data.toList.getD 0 0).toNat := ⟨_, rfl⟩
    have hc5 : c0 ≤ 255 := by have := (s.data.toList.getD 0 0).toNat_lt; omega
    obtain ⟨n, hn⟩ : ∃ n, n = min c0 6 := ⟨_, rfl⟩
    have hn6 : n ≤ 6 := by omega
    have hnn : n = (s.data.toList.getD 0 0).toNat ∨ (n = 6 ∧ 6 ≤ (s.data.toList.getD 0 0).toNat) := by omega
    have HYES := Lib.hid (fun h => unp_yes hnn (.inr (by omega)) h)
    have HNO := Lib.hid (fun h => unp_no hnn h)
    have e0 : s[0].toNat = c0 := by rw [hc0, SplitAny.byte_at s 0 (by omega)]
    have HCN := Lib.hid hn
    clear hnn hn hc0
    go_enter Tryd.func55, Tryd.ntmps55
    go_wp2_with fail
    go_loopw [4, 5] (fun sv iv wr => ∃ k : Nat, k ≤ n ∧ iv = .int .i64 k ∧ wr.ownsRow w.heap.size 69 3 sv k (Ae.cells (tripV s k)) ∧ Below w.heap.size w wr) (fun _ iv _ => n - (intOf iv).toNat)
    case atStart => exact ⟨0, Nat.zero_le _, rfl, own_fresh3 _ _, (Below.refl _ _).alloc (Nat.le_refl _) _⟩
    case round =>
      obtain ⟨k, hk, rfl, hown, hbel⟩ := hrel
      have HBEL := Lib.hid hbel
      have HOWN := Lib.hid hown
      have hsz := hbel.size
      clear hbel hown
      by_cases hlt : k < n
      · have hk6 : k < 6 := by omega
        have hkc : k < c0 := by have := HCN.out; omega
        have hI1 := index_at s (3 * k + 1) (by omega) (3 * (k : Int) + 1) (by omega)
        have hI2 := index_at s (3 * k + 2) (by omega) (3 * (k : Int) + 2) (by omega)
        have hI3 := index_at s (3 * k + 3) (by omega) (3 * (k : Int) + 3) (by omega)
        have hw0 : IntKind.i64.wrap (3 * (k : Int)) = 3 * (k : Int) := IntWalk.i64_in _ (by omega)
        have hw1 : IntKind.i64.wrap (3 * (k : Int) + 1) = 3 * (k : Int) + 1 := IntWalk.i64_in _ (by omega)
        have hw2 : IntKind.i64.wrap (3 * (k : Int) + 2) = 3 * (k : Int) + 2 := IntWalk.i64_in _ (by omega)
        have hw3 : IntKind.i64.wrap (3 * (k : Int) + 3) = 3 * (k : Int) + 3 := IntWalk.i64_in _ (by omega)
        have HT := Lib.hid (fun (w1 : World) (v : Value) => trip_next (w1 := w1) (base := w.heap.size) (v := v) (s := s) (k := k))
        have h1t := (s.data.toList.getD (3 * k + 1) 0).toNat_lt
        have h2t := (s.data.toList.getD (3 * k + 2) 0).toNat_lt
        have h3t := (s.data.toList.getD (3 * k + 3) 0).toNat_lt
        generalize (s.data.toList.getD (3 * k + 1) 0).toNat = c1 at hI1 HT h1t
        generalize (s.data.toList.getD (3 * k + 2) 0).toNat = c2 at hI2 HT h2t
        generalize (s.data.toList.getD (3 * k + 3) 0).toNat = c3 at hI3 HT h3t
        have hv1 : IntKind.i64.wrap (c1 : Int) = (c1 : Int) := IntWalk.i64_in _ (by omega)
        have hv2 : IntKind.i64.wrap (c2 : Int) = (c2 : Int) := IntWalk.i64_in _ (by omega)
        have hv3 : IntKind.i64.wrap (c3 : Int) = (c3 : Int) := IntWalk.i64_in _ (by omega)
        go_wp2
        go_region_law (refine HexOf.step_append_own rfl _ _ 24 rfl w.heap.size 69 i0 (.agg #[.int .i64 0, .int .i64 0, .int .i64 0]) 3 24 Tryd.underlying24 HF0.out HF1.out HF2.out HF3.out rfl (by decide) _ _ _ rfl (own_drew3 HOWN.out _) ⟨wr.heap.size, 0, none⟩ 1 1 [.int .i64 c1, .int .i64 c2, .int .i64 c3] rfl rfl (cells3_drew _ _ _ _ _) (by simp [Value.oneCell']) (by unfold maxLen; omega) (by omega) (by simp; omega) ?_; intro v' w1 hown1 hg1 _; have HO1 := Lib.hid (HT.out _ _ hown1); have HB1 := Lib.hid ((HBEL.out.alloc hsz (.cells #[.int .i64 c1, .int .i64 c2, .int .i64 c3] 69)).drew.grown hg1 (by simp; omega) (fun k hk => (HOWN.out.lt k hk).1)); clear hown1 hg1)
        all_goals
          go_wp2
          go_roundw
          case rel => exact ⟨k + 1, by omega, by go_num, HO1.out, HB1.out⟩
          case measure => simp [intOf]; omega
      · obtain rfl : k = n := by omega
        have hhold := Ae.holds_of_own HOWN.out
        have hlen := tripV_length s k
        have HHH := Lib.hid hhold
        clear hhold
        by_cases hkc : k < c0
        · have hk6 : ¬ k < 6 := by have := HCN.out; omega
          have hd6 : decide (k < 6) = false := decide_eq_false hk6
          go_wp2_with fail
          refine (AclK.spec_any _ _ (tripV s k) (by rw [hlen]; omega) HHH.out).mono ?_
          rintro e w2 ⟨rfl, hb⟩
          have HB2 := Lib.hid (HBEL.out.trans (hb.mono HBEL.out.size))
          have HO2 := Lib.hid (Strs.own_below HOWN.out hb)
          clear hb
          by_cases he : packV (tripV s k) = s
          · have HE := Lib.hid he
            have HR := Lib.hid (HYES.out he)
            have hl := Lib.hid hlen
            rw [he]
            clear he hlen
            go_wp2
            go_ret2
            refine ⟨_, by rw [HR.out]; rfl, ?_, HB2.out⟩
            rw [HR.out]
            show World.ownsRow _ _ _ _ _ (tripV s k).length (Ae.cells (tripV s k))
            rw [hl.out]
            exact HO2.out
          · have hne := str_ne he
            have HR := Lib.hid (HNO.out he)
            clear he hlen
            generalize packV (tripV s k) = P at hne
            go_wp2
            go_ret2
            refine ⟨_, by rw [HR.out]; rfl, ?_, HB2.out⟩
            rw [HR.out]
            exact own_nil3 _ _ _
        · have hd0 : decide (k < c0) = false := decide_eq_false hkc
          go_wp2_with fail
          refine (AclK.spec_any _ _ (tripV s k) (by rw [hlen]; omega) HHH.out).mono ?_
          rintro e w2 ⟨rfl, hb⟩
          have HB2 := Lib.hid (HBEL.out.trans (hb.mono HBEL.out.size))
          have HO2 := Lib.hid (Strs.own_below HOWN.out hb)
          clear hb
          by_cases he : packV (tripV s k) = s
          · have HE := Lib.hid he
            have HR := Lib.hid (HYES.out he)
            have hl := Lib.hid hlen
            rw [he]
            clear he hlen
            go_wp2
            go_ret2
            refine ⟨_, by rw [HR.out]; rfl, ?_, HB2.out⟩
            rw [HR.out]
            show World.ownsRow _ _ _ _ _ (tripV s k).length (Ae.cells (tripV s k))
            rw [hl.out]
            exact HO2.out
          · have hne := str_ne he
            have HR := Lib.hid (HNO.out he)
            clear he hlen
            generalize packV (tripV s k) = P at hne
            go_wp2
            go_ret2
            refine ⟨_, by rw [HR.out]; rfl, ?_, HB2.out⟩
            rw [HR.out]
            exact own_nil3 _ _ _
  · have HV := Lib.hid (unp_short h19)
    have hne : ((s.size : Int) != 19) = true := by simp; omega
    go_enter Tryd.func55, Tryd.ntmps55
    go_wp2
    go_ret2
    refine ⟨_, by rw [HV.out]; rfl, ?_, Below.refl _ _⟩
    rw [HV.out]
    exact own_nil3 _ _ _

end Go.Proofs.YthobdeidjagnhaaDoor.AclU
