/- Contracts: for every string of at most 2^20 bytes and every int, the program's PadTo and the model's return the string with the zero bytes that it wants behind it. Conditions: the string's length; the int is a 64-bit one. -/
import Derived.Test.YtafmpllkehbmeaaGreatDoorRowG
import Derived.BigQuiet
namespace Go.Proofs.YtafmpllkehbmeaaGreatDoor.PadTo
open Go.ChangeShapes Go.WideShapes Go.ChangeAt Go.RowKit
open RowG
set_option linter.unusedVariables false

/-- s with k zero bytes behind it. -/
def zend (s : ByteArray) (k : Nat) : List UInt8 := s.data.toList ++ List.replicate k 0
theorem zend_zero (s : ByteArray) : zend s 0 = s.data.toList := by simp [zend]
theorem zend_succ (s : ByteArray) (k : Nat) : zend s (k + 1) = zend s k ++ [0] := by simp [zend, List.replicate_succ']
def padB (s : ByteArray) (n : Int) : ByteArray := if 100000 < n then ⟨#[]⟩ else ⟨(zend s (n.toNat - s.size)).toArray⟩
theorem padB_big (s : ByteArray) (n : Int) (h : 100000 < n) : padB s n = ⟨#[]⟩ := by rw [padB, if_pos h]
theorem padB_at (s : ByteArray) (n : Int) (k : Nat) (h : ¬ 100000 < n) (hk : k = n.toNat - s.size) : padB s n = ⟨(zend s k).toArray⟩ := by rw [padB, if_neg h, hk]
theorem padB_id (s : ByteArray) (n : Int) (h : ¬ 100000 < n) (hk : n ≤ s.size) : padB s n = s := by
  rw [padB_at s n 0 h (by omega), zend_zero]
theorem own_step {w' : World} {base : Nat} {E : TypeId} {v : Value} {s : ByteArray} {k : Nat} (h : OwnG w' base E v (s.size + k + 1) (cellsB (zend s k) ++ [.int .u8 0])) : OwnG w' base E v (s.size + (k + 1)) (cellsB (zend s (k + 1))) := by
  rw [zend_succ, cellsB_append]
  exact h

set_option maxRecDepth 100000 in
set_option maxHeartbeats 400000 in
theorem spec_any (s : ByteArray) (n : Int) (w : World) (hs : s.size ≤ 1048576) :
    Calls Tryz.prog 171 #[.string s, .int .i64 n] w fun e w' => e = .returned (.string (padB s n)) ∧ Below w.heap.size w w' := by
  by_cases hn : 100000 < n
  · rw [padB_big s n hn]
    go_enter Tryz.func171, Tryz.ntmps171
    go_wp2
    go_ret
    exact ⟨rfl, Below.refl _ _⟩
  · obtain ⟨i0, hi, hz0, hz1, hz2⟩ := info_parts byteInfo
    have hkc := Lib.run_convert_string_bytes (P := Tryz.prog) w 9 22 5 s Tryz.underlying9 Tryz.underlying22 Tryz.underlying5
    have hby := bytes_own w 5 s (by unfold maxLen; omega)
    go_enter Tryz.func171, Tryz.ntmps171
    go_wp2_with fail
    generalize Lib.bytesWorld w 5 s = w1 at hby ⊢
    obtain ⟨hown, hb⟩ := hby
    have HOWN := Lib.hid hown
    have HB := Lib.hid hb
    clear hown hb hkc
    go_loopw [5] (fun v wr => ∃ k : Nat, k ≤ n.toNat - s.size ∧ OwnG wr w.heap.size 5 v (s.size + k) (cellsB (zend s k)) ∧ Below w.heap.size w wr) (fun v _ => n.toNat - (match v with | .slice _ l _ => l | _ => 0))
    case atStart => exact ⟨0, by omega, by rw [zend_zero]; exact HOWN.out, HB.out⟩
    case round =>
      clear HOWN HB
      obtain ⟨k, hk, hown, hb⟩ := hrel
      obtain ⟨g, cap, rfl, hg, hlt⟩ := hown.slice
      have HOWN := Lib.hid hown
      have HB := Lib.hid hb
      have hsz := hb.size
      clear hown hb
      by_cases hlt : k < n.toNat - s.size
      · have h1 : ((s.size + k : Nat) : Int) < n := by omega
        go_wp2_with (first | (at_builtin; refine wpList_append_one _ rfl _ _ 22 rfl w.heap.size 5 i0 (.int .u8 0) 1 Tryz.underlying22 hi hz0 hz1 hz2 rfl _ _ _ rfl (HOWN.out.alloc _) ⟨wr.heap.size, 0, none⟩ 1 (.int .u8 0) rfl ?c1 ?c2 ?c3 ?c4 ?c5 ?_))
        case c1 => exact cell_one_new _ _ _
        case c2 => simp [Value.oneCell']
        case c3 => unfold maxLen; omega
        case c4 => omega
        case c5 => simp; omega
        intro v' w1 hown1 hg1
        have HOWN1 := Lib.hid (own_step hown1)
        have HB1 := Lib.hid ((HB.out.alloc hsz _).grown hg1 (by simp; omega) (fun k hk => (HOWN.out.lt k hk).1))
        obtain ⟨g', cap', rfl, _, _⟩ := hown1.slice
        clear hown1 hg1
        go_wp2_with fail
        go_roundw
        case rel => exact ⟨k + 1, by omega, HOWN1.out, HB1.out⟩
        case measure => simp only []; omega
      · obtain rfl : k = n.toNat - s.size := by omega
        have hbk := back HOWN.out
        have h1 : n ≤ ((s.size + (n.toNat - s.size) : Nat) : Int) := by omega
        go_wp2_with fail
        go_ret
        exact ⟨ret_str (padB_at s n _ (by omega) rfl).symm, HB.out⟩
end Go.Proofs.YtafmpllkehbmeaaGreatDoor.PadTo
