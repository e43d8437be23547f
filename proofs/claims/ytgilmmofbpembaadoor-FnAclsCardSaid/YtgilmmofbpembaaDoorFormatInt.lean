/- Contracts and plain facts that a law of this seat leans on. Conditions: as each theorem types them. -/
import Derived.Test.YtgilmmofbpembaaDoorKit
import Derived.Test.YtgilmmofbpembaaDoorShelf
import Derived.BigQuiet
import Derived.IntWalk
import Derived.Lib.ItoaLen
import Derived.Deep.RegionWith
import Derived.Lib.AppendIntMem
import Derived.Test.YtgilmmofbpembaaDoorLaid
import Derived.Test.YtgilmmofbpembaaDoorCards
import Derived.Test.YtgilmmofbpembaaDoorTie
import Derived.SevenTiedAt
namespace Go.Proofs.YtgilmmofbpembaaDoor.FormatInt
open Go.ChangeShapes Go.WideShapes Go.ChangeAt Go.RowKit
set_option linter.unusedVariables false

theorem ret_str {a b : ByteArray} (h : a = b) : Ending.returned (.string a) = .returned (.string b) := by rw [h]
def oneCh (d : Nat) : ByteArray := ⟨#[UInt8.ofNat (48 + d)]⟩
def decB (u : Nat) : ByteArray := ⟨(Lib.decDigits u).toArray⟩
def itoaB (n : Int) : ByteArray := ⟨(Lib.itoa n).toArray⟩
/-- 'string([]byte{c})', the byte in a new block. -/
theorem conv_one (w : World) (b : Nat) (n : Int) (hc : w.cell? ⟨b, 0, none⟩ = some (.int .u8 n)) :
    Sem.run Tryd.prog (convert 22 9 (.slice (some ⟨b, 0, none⟩) 1 1)) w = .ok (.string ⟨#[UInt8.ofNat n.toNat]⟩) w := by
  rw [run_convert_bytes_string w 22 9 5 _ 1 1 Tryd.underlying22 Tryd.underlying5 Tryd.underlying9,
    run_bytesToString w ⟨b, 0, none⟩ 1 1 [n] (by simp [loadCells, loadCellsFrom, go_sem, hc])]
  rfl
theorem conv_digit (w : World) (b : Nat) (d : Nat) (n : Int) (hd : n = 48 + (d : Int)) (hc : w.cell? ⟨b, 0, none⟩ = some (.int .u8 n)) :
    Sem.run Tryd.prog (convert 22 9 (.slice (some ⟨b, 0, none⟩) 1 1)) w = .ok (.string (oneCh d)) w := by
  rw [conv_one w b n hc, hd, show (48 + (d : Int)).toNat = 48 + d from by omega]; rfl
theorem oneCh_size (d : Nat) : (oneCh d).size ≤ 1 := Nat.le_refl _
theorem app_ext {a b : ByteArray} (h : a.data.toList = b.data.toList) : a = b := ByteArray.ext (Array.toList_inj.1 h)
theorem dec_small (u : Nat) (h : u < 10) : decB u = oneCh u := by
  apply app_ext
  have : Lib.decDigits u = [UInt8.ofNat (48 + u)] := Lib.decDigits_one h
  simp only [decB, oneCh, this]
theorem dec_big (u : Nat) (h : ¬ u < 10) : decB u = decB (u / 10) ++ oneCh (u % 10) := by
  apply app_ext
  have : Lib.decDigits u = Lib.decDigits (u / 10) ++ [UInt8.ofNat (48 + u % 10)] := by rw [Lib.decDigits, dif_neg h]
  simp only [decB, oneCh, this, ByteArray.data_append, Array.toList_append]
theorem app_assoc (a b c : ByteArray) : a ++ b ++ c = a ++ (b ++ c) := by apply app_ext; simp

set_option maxRecDepth 100000 in
set_option maxHeartbeats 400000 in
theorem spec_nonneg (n0 : Nat) (hn : n0 ≤ 9223372036854775807) (w : World) :
    Calls Tryd.prog 34 #[.int .i64 n0] w fun e w' => e = .returned (.string (decB n0)) ∧ Below w.heap.size w w' := by
  go_enter Tryd.func34, Tryd.ntmps34
  go_wp2_with fail
  go_loopw [0, 3] (fun nv sv wr => ∃ (n : Nat) (s : ByteArray), nv = .int .i64 n ∧ sv = .string s ∧ n ≤ n0 ∧ decB n ++ s = decB n0 ∧ n + 2 * s.size ≤ n0 ∧ Below w.heap.size w wr ∧ w.heap.size ≤ wr.heap.size) (fun nv _ _ => (intOf nv).toNat)
  case atStart => exact ⟨n0, ⟨#[]⟩, rfl, rfl, Nat.le_refl _, by apply app_ext; simp, Nat.le_refl _, Below.refl _ _, Nat.le_refl _⟩
  case round =>
    obtain ⟨n, s, rfl, rfl, hle, hd, hsz, hbel, hh⟩ := hrel
    have HD := Lib.hid hd
    have HB := Lib.hid hbel
    clear hd hbel
    have h1z := oneCh_size
    by_cases hlt : 9 < n
    · have hconv : Sem.run Tryd.prog (convert 22 9 (.slice (some ⟨wr.heap.size, 0, none⟩) 1 1)) (wr.alloc (.cells #[.int .u8 (48 + (n : Int) % 10)] 5)) = .ok (.string (oneCh (n % 10))) (wr.alloc (.cells #[.int .u8 (48 + (n : Int) % 10)] 5)) :=
        conv_digit _ _ (n % 10) _ (by omega) (cell_one_new _ _ _ 0 _ rfl)
      have h1y := h1z (n % 10)
      have hs2 : (oneCh (n % 10) ++ s).size ≤ s.size + 1 := by rw [ByteArray.size_append]; omega
      have HS2 := Lib.hid hs2
      have HD2 := Lib.hid (show decB (n / 10) ++ (oneCh (n % 10) ++ s) = decB n0 by rw [← app_assoc, ← dec_big n (by omega)]; exact HD.out)
      clear hs2 h1z
      generalize oneCh (n % 10) = c at hconv HS2 HD2 h1y
      go_wp2_with fail
      go_roundw
      case rel => exact ⟨n / 10, c ++ s, by go_num, rfl, by omega, HD2.out, by have := HS2.out; omega, HB.out.alloc hh _, by simp; omega⟩
      case measure => simp [intOf]; omega
    · have hconv : Sem.run Tryd.prog (convert 22 9 (.slice (some ⟨wr.heap.size, 0, none⟩) 1 1)) (wr.alloc (.cells #[.int .u8 (48 + (n : Int))] 5)) = .ok (.string (oneCh n)) (wr.alloc (.cells #[.int .u8 (48 + (n : Int))] 5)) :=
        conv_digit _ _ n _ rfl (cell_one_new _ _ _ 0 _ rfl)
      have h1y := h1z n
      have HD2 := Lib.hid (show oneCh n ++ s = decB n0 by rw [← dec_small n (by omega)]; exact HD.out)
      clear h1z
      generalize oneCh n = c at hconv HD2 h1y
      go_wp2_with fail
      go_ret
      exact ⟨ret_str HD2.out, HB.out.alloc hh _⟩

theorem bcell {W w1 : World} (hb : Below W.heap.size W w1) : (∀ b o, b < W.heap.size → w1.cell? ⟨b, o, none⟩ = W.cell? ⟨b, o, none⟩) ∧ (∀ b o, b < W.heap.size → w1.frozen? ⟨b, o, none⟩ = W.frozen? ⟨b, o, none⟩) :=
  ⟨fun b o h => hb.cell (p := ⟨b, o, none⟩) h, fun b o h => hb.frozen (p := ⟨b, o, none⟩) h⟩
theorem wrap_u8_in (x : Int) (h0 : 0 ≤ x) (h1 : x ≤ 255) : IntKind.u8.wrap x = x := by
  exact IntWalk.u8_in x ⟨h0, h1⟩
/-- The numeral of a negative number. -/
def negB (m : Nat) : ByteArray := ⟨#[45]⟩ ++ decB m
theorem neg_big (m : Nat) (h : ¬ m < 10) : negB m = negB (m / 10) ++ oneCh (m % 10) := by
  rw [negB, negB, dec_big m h, app_assoc]
theorem neg_size (m : Nat) (h : m ≤ 9223372036854775808) : (negB m).size ≤ 100 := by
  have h1 : (decB m).size = (Lib.decDigits m).length := by simp [decB, ByteArray.size]
  have h2 : (ByteArray.mk #[45]).size = 1 := rfl
  rw [negB, ByteArray.size_append, h1, h2, Lib.decDigits_length]
  have := Lib.nDigits_le20 m (by omega)
  omega

theorem below_a {w w1 : World} (hb : Below w.drew.heap.size w.drew w1) (o : Obj) : Below w.heap.size w (w1.alloc o) :=
  Below.alloc (show Below w.heap.size w w1 from ⟨hb.os, hb.tape, hb.output, hb.size, hb.block⟩) hb.size o
theorem below_b {w w1 : World} {o : Obj} (hb : Below (w.alloc o).drew.heap.size (w.alloc o).drew w1) : Below w.heap.size w w1 :=
  ((Below.refl _ _).alloc (Nat.le_refl _) o).drew.trans (hb.mono (by simp))

set_option maxRecDepth 100000 in
set_option maxHeartbeats 400000 in
theorem spec_neg (k : Nat) : ∀ (m : Nat) (w : World), m ≤ k → 1 ≤ m → m ≤ 9223372036854775808 →
    Calls Tryd.prog 34 #[.int .i64 (-(m : Int))] w fun e w' => e = .returned (.string (negB m)) ∧ Below w.heap.size w w' := by
  induction k with
  | zero => intro m w h1 h2; omega
  | succ k ih =>
    intro m w hk h1 h2
    by_cases hs : m < 10
    · have hneg : -(m : Int) < 0 := by omega
      have hconv : Sem.run Tryd.prog (convert 22 9 (.slice (some ⟨w.heap.size, 0, none⟩) 1 1)) (w.alloc (.cells #[.int .u8 (48 + (m : Int))] 5)) = .ok (.string (oneCh m)) (w.alloc (.cells #[.int .u8 (48 + (m : Int))] 5)) :=
        conv_digit _ _ m _ rfl (cell_one_new _ _ _ 0 _ rfl)
      have HM := Lib.hid (show (⟨#[45]⟩ : ByteArray) ++ oneCh m = negB m by rw [negB, dec_small m hs])
      have h1y := oneCh_size m
      have h1x : (ByteArray.mk #[45]).size ≤ 1 := Nat.le_refl _
      generalize oneCh m = c at hconv HM h1y
      go_enter Tryd.func34, Tryd.ntmps34
      go_wp2_with fail
      go_ret
      exact ⟨ret_str HM.out, (Below.refl _ _).alloc (Nat.le_refl _) _⟩
    · have hneg : -(m : Int) < 0 := by omega
      have IH : ∀ W : World, Calls Tryd.prog 34 #[.int .i64 (-((m : Int) / 10))] W fun e w' => e = .returned (.string (negB (m / 10))) ∧ Below W.heap.size W w' := by
        intro W
        have := ih (m / 10) W (by omega) (by omega) (by omega)
        rw [show (((m / 10 : Nat)) : Int) = (m : Int) / 10 from by omega] at this
        exact this
      have HI := Lib.hid IH
      have HN := Lib.hid (neg_big m hs)
      have hsz := neg_size (m / 10) (by omega)
      have h1y := oneCh_size (m % 10)
      have hconv : ∀ (W : World) (b : Nat), W.cell? ⟨b, 0, none⟩ = some (.int .u8 (48 + (m : Int) % 10)) → Sem.run Tryd.prog (convert 22 9 (.slice (some ⟨b, 0, none⟩) 1 1)) W = .ok (.string (oneCh (m % 10))) W :=
        fun W b hc => conv_digit W b (m % 10) _ (by omega) hc
      have hq : IntKind.i64.wrap (-((m : Int) / 10)) = -((m : Int) / 10) := IntWalk.i64_in _ (by omega)
      have ht : (m : Int).tmod 10 = (m : Int) % 10 := Int.tmod_eq_emod_of_nonneg (by omega)
      have hw1 : IntKind.i64.wrap (48 + (m : Int) % 10) = 48 + (m : Int) % 10 := IntWalk.i64_in _ (by omega)
      have hw2 : IntKind.u8.wrap (48 + (m : Int) % 10) = 48 + (m : Int) % 10 := wrap_u8_in _ (by omega) (by omega)
      clear IH ih
      generalize oneCh (m % 10) = c at hconv HN h1y
      generalize negB (m / 10) = q at HI HN hsz
      go_enter Tryd.func34, Tryd.ntmps34
      go_wp2_with fail
      go_region_with (go_at_call 34; refine (HI.out _).mono ?_; rintro e w1 ⟨rfl, hb⟩; obtain ⟨hc, hf⟩ := bcell hb; have hz := hb.size)
      all_goals
        go_wp2_with fail
        go_ret
        exact ⟨ret_str HN.out.symm, by first | exact below_a hb _ | exact below_b hb⟩

theorem itoa_nonneg (n : Nat) : itoaB n = decB n := by
  simp [itoaB, decB, Lib.itoa]
theorem itoa_neg (m : Nat) (h : 1 ≤ m) : itoaB (-(m : Int)) = negB m := by
  apply app_ext
  have h0 : -(m : Int) < 0 := by omega
  have h1 : (-(m : Int)).natAbs = m := by omega
  simp only [itoaB, negB, decB, Lib.itoa, if_pos h0, h1, ByteArray.data_append, Array.toList_append]
  rfl
theorem spec_any (n : Int) (w : World) (h0 : -9223372036854775808 ≤ n) (h1 : n ≤ 9223372036854775807) :
    Calls Tryd.prog 34 #[.int .i64 n] w fun e w' => e = .returned (.string (itoaB n)) ∧ Below w.heap.size w w' := by
  by_cases hn : 0 ≤ n
  · obtain ⟨m, rfl⟩ := Int.eq_ofNat_of_zero_le hn
    have := spec_nonneg m (by omega) w
    rw [← itoa_nonneg m] at this
    exact this
  · obtain ⟨m, rfl⟩ : ∃ m : Nat, n = -(m : Int) := ⟨n.natAbs, by omega⟩
    have := spec_neg m m w (Nat.le_refl _) (by omega) (by omega)
    rw [← itoa_neg m (by omega)] at this
    exact this
theorem impl_any (n : Int) (w : World) (h0 : -9223372036854775808 ≤ n) (h1 : n ≤ 9223372036854775807) (htab : Lib.TabIs Tryd.prog w "internal/strconv.uint64pow10" .u64 Lib.pow10Tab) :
    Calls Tryd.prog 48 #[.int .i64 n] w fun e w' => e = .returned (.string (itoaB n)) ∧ Below w.heap.size w w' := by
  have hc := Tryd.strconv_Itoa n h0 h1 w htab
  have HC := Lib.hid hc
  clear hc htab h0 h1
  go_enter Tryd.func48, Tryd.ntmps48
  go_wp2_with fail
  refine HC.out.mono ?_
  rintro e w1 ⟨rfl, k, os, rfl⟩
  go_wp2
  go_ret
  exact ⟨rfl, Lib.below_grow _ _ (Nat.le_refl _) _ _⟩
theorem tab_below {P : Program} {w w' : World} {name : String} {k : IntKind} {zs : List Int} {g : Nat} (hg : P.globalNamed name = some g) (hlt : g < w.heap.size) (h : Lib.TabIs P w name k zs) (hb : Below w.heap.size w w') : Lib.TabIs P w' name k zs := by
  unfold Lib.TabIs at *
  rw [← h]
  unfold World.var?
  rw [hg]
  simp only [Option.bind_some, hb.block g hlt]

end Go.Proofs.YtgilmmofbpembaaDoor.FormatInt
