/- Proved: for every string and every int, the law FnExactPadZeros returns true and leaves its arguments as they were: the program's PadZeros answers as the model's. No condition beyond the row's own. -/
import Derived.Test.YtjeienkfocppfaaKit
import Derived.Test.YtjeienkfocppfaaShelf
import Derived.BigQuiet
namespace Go.Proofs.Ytjeienkfocppfaa.PadZeros
open Go.ChangeShapes Go.WideShapes Go.ChangeAt Go.RowKit
open Go.ChangeMaps (open_string shut_string)
set_option linter.unusedVariables false

/-- s behind k zeros. -/
def zpad (s : ByteArray) : Nat → ByteArray
  | 0 => s
  | k + 1 => ⟨#[48]⟩ ++ zpad s k
theorem zpad_size (s : ByteArray) (k : Nat) : (zpad s k).size = k + s.size := by
  induction k with
  | zero => simp [zpad]
  | succ k ih =>
    have h1 : (ByteArray.mk #[48]).size = 1 := rfl
    simp only [zpad, ByteArray.size_append, ih, h1]
    omega
theorem zpad_data (s : ByteArray) (k : Nat) : (zpad s k).data.toList = List.replicate k 48 ++ s.data.toList := by
  induction k with
  | zero => simp [zpad]
  | succ k ih => simp [zpad, ih, List.replicate_succ]
theorem ret_str {a b : ByteArray} (h : a = b) : Ending.returned (.string a) = .returned (.string b) := by rw [h]
def sizeOfV : Value → Nat | .string t => t.size | _ => 0
def padOf (s : ByteArray) (n : Int) : ByteArray := if 2000 < n then s else zpad s (n.toNat - s.size)

theorem end_pad (s : ByteArray) (n : Int) (k : Nat) (hn : ¬ 2000 < n) (hk : k ≤ n.toNat - s.size) (hlt : ¬ k < n.toNat - s.size) : zpad s k = padOf s n := by
  obtain rfl : k = n.toNat - s.size := by omega
  rw [padOf, if_neg hn]
theorem measure_of (s : ByteArray) (n : Int) (k : Nat) (hlt : k < n.toNat - s.size) : n.toNat - sizeOfV (.string (⟨#[48]⟩ ++ zpad s k)) < n.toNat - sizeOfV (.string (zpad s k)) := by
  have h1 : (⟨#[48]⟩ ++ zpad s k).size = k + 1 + s.size := zpad_size s (k + 1)
  have h2 := zpad_size s k
  simp only [sizeOfV]
  omega

set_option maxHeartbeats 400000 in
theorem spec_any (s : ByteArray) (n : Int) (w : World) (hs : s.size ≤ 1048576) :
    Calls Try.prog 24 #[.string s, .int .i64 n] w fun e w' => e = .returned (.string (padOf s n)) ∧ w = w' := by
  by_cases hn : 2000 < n
  · go_enter Try.func24, Try.ntmps24
    go_wp2
    go_ret
    exact ⟨ret_str (by rw [padOf, if_pos hn]), rfl⟩
  · go_enter Try.func24, Try.ntmps24
    go_wp2
    go_loop [0] (fun t => ∃ k : Nat, k ≤ n.toNat - s.size ∧ t = .string (zpad s k)) (fun t => n.toNat - sizeOfV t)
    case atStart => exact ⟨0, Nat.zero_le _, rfl⟩
    case round =>
      obtain ⟨k, hk, rfl⟩ := hrel
      have hsz := Lib.hid (zpad_size s k)
      by_cases hlt : k < n.toNat - s.size
      · have h1 : ((zpad s k).size : Int) < n := by rw [hsz.out]; omega
        have h2 : (zpad s k).size ≤ 2000 := by rw [hsz.out]; omega
        have h3 : (ByteArray.mk #[48]).size ≤ 1 := Nat.le_refl _
        go_wp2
        go_round
        case rel => exact ⟨k + 1, by omega, rfl⟩
        case measure => exact measure_of s n k hlt
      · have h1 : ¬ ((zpad s k).size : Int) < n := by rw [hsz.out]; omega
        go_wp2
        go_ret
        exact ⟨ret_str (end_pad s n k (by omega) hk hlt), rfl⟩

theorem rep_data (c : Nat) : (Lib.repeatL [48] c : List UInt8) = List.replicate c 48 := by
  induction c with
  | zero => rfl
  | succ c ih => simp [Lib.repeatL, ih, List.replicate_succ]
theorem pad_eq (s : ByteArray) (c : Nat) : (⟨(Lib.repeatL (ByteArray.mk #[48]).data.toList c).toArray⟩ : ByteArray) ++ s = zpad s c := by
  apply ByteArray.ext
  apply Array.toList_inj.1
  rw [zpad_data, ByteArray.data_append, Array.toList_append]
  have : (ByteArray.mk #[48]).data.toList = [48] := rfl
  rw [this, rep_data]
theorem repsize (c : Nat) (h : c ≤ 2000) : (⟨(Lib.repeatL (ByteArray.mk #[48]).data.toList c).toArray⟩ : ByteArray).size ≤ 2000 := by
  have : (ByteArray.mk #[48]).data.toList = [48] := rfl
  rw [this, rep_data]
  simpa [ByteArray.size] using h
theorem pad_id (s : ByteArray) (n : Int) (h : 2000 < n ∨ n ≤ s.size) : padOf s n = s := by
  by_cases hn : 2000 < n
  · rw [padOf, if_pos hn]
  · rw [padOf, if_neg hn, show n.toNat - s.size = 0 from by omega]; rfl
theorem pad_go (s : ByteArray) (n : Int) (h : ¬ 2000 < n) (c : Nat) (hc : n = s.size + c) : padOf s n = zpad s c := by
  rw [padOf, if_neg h, show n.toNat - s.size = c from by omega]

set_option maxHeartbeats 400000 in
theorem impl_any (s : ByteArray) (n : Int) (w : World) (hs : s.size ≤ 1048576) (hlo : -9223372036854775808 ≤ n) :
    Calls Try.prog 25 #[.string s, .int .i64 n] w fun e w' => e = .returned (.string (padOf s n)) ∧ Below w.heap.size w w' := by
  have HLO := Lib.hid hlo
  clear hlo
  by_cases hn : 2000 < n
  · go_enter Try.func25, Try.ntmps25
    go_wp2
    go_ret
    exact ⟨ret_str (pad_id s n (.inl hn)).symm, Below.refl _ _⟩
  · by_cases hle : n ≤ s.size
    · go_enter Try.func25, Try.ntmps25
      go_wp2
      go_ret
      exact ⟨ret_str (pad_id s n (.inr hle)).symm, Below.refl _ _⟩
    · obtain ⟨c, hc⟩ : ∃ c : Nat, n = s.size + c := ⟨(n - s.size).toNat, by omega⟩
      have hp := pad_go s n hn c hc
      have HP := Lib.hid hp
      have HQ := Lib.hid (pad_eq s c)
      have hcs : c ≤ 2000 := by omega
      have HR := repsize c hcs
      clear hp
      subst hc
      have hone : (ByteArray.mk #[48]).size * c ≤ 140737488355328 := by
        have : (ByteArray.mk #[48]).size = 1 := rfl
        rw [this]; omega
      have hc0 : 0 < c := by omega
      have hc1 : ¬ c = 0 := by omega
      have HO := Lib.hid hone
      clear hone
      go_enter Try.func25, Try.ntmps25
      go_wp2_with fail
      rw [show ((s.size : Int) + (c : Int) - (s.size : Int)) = c from by omega]
      refine (Try.strings_Repeat (ByteArray.mk #[48]) c w (by omega) HO.out).mono ?_
      rintro e w1 ⟨rfl, hb1⟩
      go_wp2
      go_ret
      exact ⟨ret_str (by rw [HP.out, ← HQ.out]), hb1⟩

theorem law_any (s : ByteArray) (n : Int) (w : World) (hs : s.size ≤ maxLen) (hn : (Lit.int .i64 n).wf = true) :
    Calls Try.prog 8 #[.string s, .int .i64 n] w fun e w' => e = .returned (.bool true) ∧ Below w.heap.size w w' := by
  have hlo : -9223372036854775808 ≤ n := by
    have := hn
    simp [Lit.wf, IntKind.min, IntKind.max, IntKind.signed, IntKind.bits] at this
    omega
  have HLO := Lib.hid hlo
  clear hlo hn
  unfold maxLen at hs
  by_cases hbig : 1048576 < s.size
  · go_enter Try.func8, Try.ntmps8
    go_wp2
    go_ret
    exact ⟨rfl, Below.refl _ _⟩
  · go_enter Try.func8, Try.ntmps8
    go_wp2_with fail
    refine (spec_any s n _ (by omega)).mono ?_
    rintro e w1 ⟨rfl, rfl⟩
    go_wp2_with fail
    refine (impl_any s n _ (by omega) HLO.out).mono ?_
    rintro e w1 ⟨rfl, hb1⟩
    go_wp2
    go_ret
    exact ⟨rfl, hb1⟩

set_option maxRecDepth 100000 in
theorem lifted (os : Os) (started : os.Started) (H : Type) (enc : TypeId × Value → H) :
    ReturnsInHanded {} Try.checked os 8 .any (Rows.fnExactPadZerosSpec.pre6 enc Try.prog Try.f8 Rows.fnExactPadZerosRow.domain false) (Rows.fnExactPadZerosSpec.post enc Try.prog Try.f8 false true false false) := by
  refine returnsInHanded_of_change (C := Try.checked) Kit.own started (by kernel_rfl) Try.func8
    (ChangeSpec.witness6 (enc := enc) (C := Try.checked) false ⟨#[], #[.string ⟨#[]⟩, .int .i64 0], []⟩ 8 (by kernel_rfl) (by kernel_rfl) (by kernel_rfl) (by kernel_rfl)) ?_
  intro W base args ds gs before hval0 hW hcnd _
  have hval : ∀ (j : Nat) t v, Try.f8.params[j]? = some t → args[j]? = some v → Value.okWide Try.prog W .any base t v := hval0
  have hW' := hW
  obtain ⟨p, q, hA0, hV, rfl, hfz, hnd⟩ := hW
  have hA : DataW.TrodAll enc Try.prog W 0 (fun _ => true) true Try.f8.params.toList args.toList ds p := hA0
  rw [Try.params8] at hA hval
  obtain ⟨v0, v1, d0, d1, p0, p1, rfl, rfl, rfl, h0, h1⟩ := trodAll_two hA
  obtain ⟨s, rfl, rfl, rfl, hs⟩ := open_string Try.underlying9 (hval 0 9 v0 rfl rfl) h0
  obtain ⟨n, rfl, rfl, rfl, hn⟩ := open_int Try.underlying3 (hval 1 3 v1 rfl rfl) h1
  refine (law_any s n W hs hn).mono fun e W' ⟨he, hb⟩ => ?_
  subst he
  exact ⟨_, rfl, Kit.law_post Kit.laidOut (by kernel_rfl) Try.underlying4 rfl rfl (fun H ds hl => by match ds, hl with | [d, d'], _ => rfl) hW' hb⟩

theorem holds : Rows.FnExactPadZerosSaid :=
  OpenClaim.holds_of_wide 8 Try.f8 rfl rfl rfl rfl rfl rfl rfl ⟨rfl, rfl, rfl, rfl, rfl⟩ rfl rfl rfl rfl rfl (by kernel_rfl) Try.func8 (by kernel_rfl)
    (of_decide_eq_true (by kernel_rfl)) (by unfold Func.isWrapper; first | (rw [if_pos (by decide +kernel)]; kernel_rfl) | (rw [if_neg (by decide +kernel)]; exact ⟨rfl, rfl⟩))
    (fun os started H enc _ => lifted os started H enc)
#print axioms holds
end Go.Proofs.Ytjeienkfocppfaa.PadZeros
