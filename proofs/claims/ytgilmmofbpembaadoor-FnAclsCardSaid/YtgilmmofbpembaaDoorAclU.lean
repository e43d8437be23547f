/- Contracts and plain facts that a law of this seat leans on. Conditions: as each theorem types them. -/
import Derived.Test.YtgilmmofbpembaaDoorAclK
import Derived.Test.YtgilmmofbpembaaDoorGetNumber
namespace Go.Proofs.YtgilmmofbpembaaDoor.AclU
open Go.ChangeShapes Go.WideShapes Go.ChangeAt Go.RowKit
open AclV AclB

open Strs (ret_int)
set_option linter.unusedVariables false

theorem seg_one (s : ByteArray) (a : Nat) (h : a < s.size) : Nums.getL (GetNumber.seg s a 1) = (s.data.toList.getD a 0).toNat := by
  rw [GetNumber.seg_succ s a 0 h, SplitAny.byte_at s a h]
  simp [GetNumber.seg, Nums.getL]
theorem got_one (s : ByteArray) (a : Nat) : ∃ b, GetNumber.gotV s a 1 = .returned (.tuple #[.int .i64 ((s.data.toList.getD a 0).toNat : Int), .bool b]) := by
  by_cases h : a < s.size
  · have := GetNumber.got_yes s a 1 (by omega) (by omega) (by omega)
    rw [seg_one s a h] at this
    exact ⟨true, this⟩
  · refine ⟨false, ?_⟩
    rw [GetNumber.got_no (by omega)]
    have : s.data.toList.getD a 0 = 0 := by
      rw [List.getD_eq_getElem?_getD, List.getElem?_eq_none (by rw [Array.length_toList]; exact Nat.le_of_not_lt h)]; rfl
    rw [this]; rfl
theorem byte_any (s : ByteArray) (a : Nat) (w : World) (hs : s.size ≤ 1048576) :
    Calls Tryd.prog 27 #[.string s, .int .i64 a] w fun e w' => e = .returned (.int .i64 ((s.data.toList.getD a 0).toNat : Int)) ∧ w = w' := by
  obtain ⟨b, hb⟩ := got_one s a
  have H := GetNumber.impl_any s a 1 w hs (by omega) (by omega)
  rw [hb] at H
  have HG := Lib.hid H
  clear H hb
  generalize (s.data.toList.getD a 0).toNat = c at HG ⊢
  go_enter Tryd.func27, Tryd.ntmps27
  go_wp2_with fail
  refine HG.out.mono ?_
  rintro e wq ⟨rfl, rfl⟩
  go_wp2
  go_ret
  exact ⟨rfl, rfl⟩
/-- What unpacking gives: a list and whether there is one. -/
def resR (x : Option (List At)) : List At × Bool := match x with
  | some l => (l, true)
  | none => ([], false)
theorem ok_of_pack {s : ByteArray} {n : Nat} (hn : n = (s.data.toList.getD 0 0).toNat ∨ 0 < s.size) (h : packV (tripV s n) = s) : okB (tripV s n) = true := by
  cases hok : okB (tripV s n)
  · have h2 := AclK.pack_no hok
    rw [h] at h2
    rcases hn with hn | hn
    · have h0 : n = 0 := by rw [hn, h2]; rfl
      rw [h0] at hok
      rw [AclI.ok_zero (by rw [tripV_length])] at hok
      cases hok
    · rw [h2] at hn; exact absurd hn (by decide)
  · rfl
theorem unp_yes {s : ByteArray} {n : Nat} (hn : n = (s.data.toList.getD 0 0).toNat ∨ (n = 6 ∧ 6 ≤ (s.data.toList.getD 0 0).toNat)) (hk : n = (s.data.toList.getD 0 0).toNat ∨ 0 < s.size) (h : packV (tripV s n) = s) : unpackV s = some (tripV s n) := by
  rw [unpack_eq s n hn, if_pos ⟨ok_of_pack hk h, h⟩]
theorem unp_no {s : ByteArray} {n : Nat} (hn : n = (s.data.toList.getD 0 0).toNat ∨ (n = 6 ∧ 6 ≤ (s.data.toList.getD 0 0).toNat)) (h : packV (tripV s n) ≠ s) : unpackV s = none := by
  rw [unpack_eq s n hn, if_neg (fun hh => h hh.2)]
theorem unp_short {s : ByteArray} (h : s.size ≠ 19) : unpackV s = none := unpack_none fun l hl e => h (by rw [← e]; exact pack_size hl)
theorem unp_len (s : ByteArray) : (resR (unpackV s)).1.length ≤ 6 := by
  by_cases h : ∃ l, okB l = true ∧ packV l = s
  · obtain ⟨l, hl, rfl⟩ := h
    rw [unpack_of hl]
    exact ok_len hl
  · rw [unpack_none (fun l hl e => h ⟨l, hl, e⟩)]
    exact Nat.zero_le _
theorem str_ne {a b : ByteArray} (h : a ≠ b) : (a.toList == b.toList) = false := by
  refine beq_eq_false_iff_ne.2 fun e => h ?_
  rw [ByteArray.toList_eq, ByteArray.toList_eq] at e
  exact AclP.ext e
theorem own_nil3 (w : World) (base : Nat) (e : TypeId) : w.ownsRow base e 3 (.slice none 0 0) 0 (Ae.cells []) := ⟨rfl, .inl ⟨rfl, rfl⟩⟩
theorem own_fresh3 (w : World) (e : TypeId) : (w.alloc (.cells #[] e)).ownsRow w.heap.size e 3 (.slice (some ⟨w.heap.size, 0, none⟩) 0 0) 0 (Ae.cells []) := by
  refine ⟨rfl, .inr ⟨w.heap.size, 0, #[], rfl, Nat.le_refl _, ?_, Nat.le_refl _, Nat.zero_le _, rfl, rfl⟩⟩
  exact (MapKept.heap_alloc w _).1
theorem trip_next {w1 : World} {base : Nat} {v : Value} {s : ByteArray} {k : Nat} (h : w1.ownsRow base 30 3 v (k + 1) (Ae.cells (tripV s k) ++ [.int .i64 ((s.data.toList.getD (3 * k + 1) 0).toNat : Int), .int .i64 ((s.data.toList.getD (3 * k + 2) 0).toNat : Int), .int .i64 ((s.data.toList.getD (3 * k + 3) 0).toNat : Int)])) :
    w1.ownsRow base 30 3 v (k + 1) (Ae.cells (tripV s (k + 1))) := by
  rw [tripV_succ, Ae.cells_snoc]; exact h
theorem cells3_at (w : World) (x y z : Value) (T : TypeId) : ∀ j u, [x, y, z][j]? = some u → (w.alloc (.cells #[x, y, z] T)).cell? ((⟨w.heap.size, 0, none⟩ : Addr).add j) = some u := AclK.cells3_new w x y z T

set_option maxRecDepth 100000 in
set_option maxHeartbeats 1600000 in
theorem impl_any (s : ByteArray) (w : World) (hs : s.size ≤ 1048576) :
    Calls Tryd.prog 9 #[.string s] w fun e w' => ∃ v, e = .returned (.tuple #[v, .bool (resR (unpackV s)).2]) ∧ w'.ownsRow w.heap.size 30 3 v (resR (unpackV s)).1.length (Ae.cells (resR (unpackV s)).1) ∧ Below w.heap.size w w' := by
  obtain ⟨i0, hi, hz0, hz1, hz2⟩ := info_parts Ae.info
  have HF0 := Lib.hid hi
  have HF1 := Lib.hid hz0
  have HF2 := Lib.hid hz1
  have HF3 := Lib.hid hz2
  clear hi hz0 hz1 hz2
  have hb : ∀ (a : Nat) (W : World), Calls Tryd.prog 27 #[.string s, .int .i64 a] W fun e w' => e = .returned (.int .i64 ((s.data.toList.getD a 0).toNat : Int)) ∧ W = w' := fun a W => byte_any s a W hs
  have HBY := Lib.hid hb
  clear hb
  obtain ⟨n, hn⟩ : ∃ n, n = (s.data.toList.getD 0 0).toNat := ⟨_, rfl⟩
  have hn5 : n ≤ 255 := by have := (s.data.toList.getD 0 0).toNat_lt; omega
  have H0 := Lib.hid (show ∀ W : World, Calls Tryd.prog 27 #[.string s, .int .i64 0] W fun e w' => e = .returned (.int .i64 (n : Int)) ∧ W = w' from fun W => by rw [hn]; exact HBY.out 0 W)
  have HYES := Lib.hid (fun h => unp_yes (.inl hn) (.inl hn) h)
  have HNO := Lib.hid (fun h => unp_no (.inl hn) h)
  clear hn
  go_enter Tryd.func9, Tryd.ntmps9
  go_wp2_with fail
  refine (H0.out _).mono ?_
  rintro e wq ⟨rfl, rfl⟩
  go_wp2_with fail
  go_loopw [4, 9] (fun sv iv wr => ∃ k : Nat, k ≤ n ∧ iv = .int .i64 k ∧ wr.ownsRow w.heap.size 30 3 sv k (Ae.cells (tripV s k)) ∧ Below w.heap.size w wr) (fun _ iv _ => n - (intOf iv).toNat)
  case atStart => exact ⟨0, Nat.zero_le _, rfl, own_nil3 _ _ _, Below.refl _ _⟩
  case round =>
    obtain ⟨k, hk, rfl, hown, hbel⟩ := hrel
    have HBEL := Lib.hid hbel
    have HOWN := Lib.hid hown
    have hsz := hbel.size
    clear hbel hown
    by_cases hlt : k < n
    · have h1 := HBY.out (3 * k + 1)
      have h2 := HBY.out (3 * k + 2)
      have h3 := HBY.out (3 * k + 3)
      have HT := Lib.hid (fun (w1 : World) (v : Value) => trip_next (w1 := w1) (base := w.heap.size) (v := v) (s := s) (k := k))
      rw [show (((3 * k + 1 : Nat)) : Int) = 1 + (k : Int) * 3 from by omega] at h1
      rw [show (((3 * k + 2 : Nat)) : Int) = 1 + (k : Int) * 3 + 1 from by omega] at h2
      rw [show (((3 * k + 3 : Nat)) : Int) = 1 + (k : Int) * 3 + 2 from by omega] at h3
      generalize (s.data.toList.getD (3 * k + 1) 0).toNat = c1 at h1 HT
      generalize (s.data.toList.getD (3 * k + 2) 0).toNat = c2 at h2 HT
      generalize (s.data.toList.getD (3 * k + 3) 0).toNat = c3 at h3 HT
      have H1 := Lib.hid h1
      have H2 := Lib.hid h2
      have H3 := Lib.hid h3
      clear h1 h2 h3
      go_wp2_with fail
      refine (H1.out _).mono ?_
      rintro e wq ⟨rfl, rfl⟩
      go_wp2_with fail
      refine (H2.out _).mono ?_
      rintro e wq ⟨rfl, rfl⟩
      go_wp2_with fail
      refine (H3.out _).mono ?_
      rintro e wq ⟨rfl, rfl⟩
      go_wp2_with (first | (at_builtin; refine wpList_append_own _ rfl _ _ 23 rfl w.heap.size 30 i0 (.agg #[.int .i64 0, .int .i64 0, .int .i64 0]) 3 24 Tryd.underlying23 HF0.out HF1.out HF2.out HF3.out rfl (by decide) _ _ _ rfl (HOWN.out.alloc _) ⟨wr.heap.size, 0, none⟩ 1 1 [.int .i64 c1, .int .i64 c2, .int .i64 c3] rfl rfl ?c1 ?c2 ?c3 ?c4 ?c5 ?_))
      case c1 => exact cells3_at _ _ _ _ _
      case c2 => simp [Value.oneCell']
      case c3 => unfold maxLen; omega
      case c4 => omega
      case c5 => simp; omega
      intro v' w1 hown1 hg1 _
      have HO1 := Lib.hid (HT.out _ _ hown1)
      have HB1 := Lib.hid ((HBEL.out.alloc hsz (.cells #[.int .i64 c1, .int .i64 c2, .int .i64 c3] 30)).grown hg1 (by simp; omega) (fun k hk => (HOWN.out.lt k hk).1))
      clear hown1 hg1
      go_wp2
      go_roundw
      case rel => exact ⟨k + 1, by omega, by go_num, HO1.out, HB1.out⟩
      case measure => simp [intOf]; omega
    · obtain rfl : k = n := by omega
      have hhold := Ae.holds_of_own HOWN.out
      have hlen := tripV_length s k
      have HHH := Lib.hid hhold
      clear hhold
      go_wp2_with fail
      refine (AclK.impl_any _ _ (tripV s k) (by rw [hlen]; omega) HHH.out).mono ?_
      rintro e w2 ⟨rfl, hb⟩
      have HB2 := Lib.hid (HBEL.out.trans (hb.mono HBEL.out.size))
      have HO2 := Lib.hid (Strs.own_below HOWN.out hb)
      clear hb
      by_cases he : packV (tripV s k) = s
      · have HE := Lib.hid he
        have HR := Lib.hid (HYES.out he)
        have hl := Lib.hid hlen
        rw [he]
        clear he hlen
        go_wp2
        go_ret2
        refine ⟨_, by rw [HR.out]; rfl, ?_, HB2.out⟩
        rw [HR.out]
        show World.ownsRow _ _ _ _ _ (tripV s k).length (Ae.cells (tripV s k))
        rw [hl.out]
        exact HO2.out
      · have hne := str_ne he
        have HR := Lib.hid (HNO.out he)
        clear he hlen
        generalize packV (tripV s k) = P at hne
        go_wp2
        go_ret2
        refine ⟨_, by rw [HR.out]; rfl, ?_, HB2.out⟩
        rw [HR.out]
        exact own_nil3 _ _ _

theorem index_at (s : ByteArray) (j : Nat) (h : j < s.size) (q : Int) (hq : q = (j : Int)) (W : World) : (Instr.index 9 (.string s) (.int .i64 q)).run Tryd.prog W = .ok (.int .u8 ((s.data.toList.getD j 0).toNat : Int)) W := by
  subst hq
  rw [SplitAny.byte_at s j h]
  simp [Instr.index, go_sem, h]
theorem own_drew3 {w : World} {base : Nat} {e : TypeId} {v : Value} {n : Nat} {xs : List Value} (h : w.ownsRow base e 3 v n xs) (o : Obj) : (w.alloc o).drew.ownsRow base e 3 v n xs :=
  Strs.own_below (w := w.alloc o) (World.ownsRow.alloc h o) (Below.refl _ _).drew
theorem cells3_drew (w : World) (x y z : Value) (T : TypeId) : ∀ j u, [x, y, z][j]? = some u → (w.alloc (.cells #[x, y, z] T)).drew.cell? ((⟨w.heap.size, 0, none⟩ : Addr).add j) = some u := AclK.cells3_new w x y z T

end Go.Proofs.YtgilmmofbpembaaDoor.AclU
