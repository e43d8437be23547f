/- Contract: for every string of at most 2^20 bytes, the program's HexOf returns its bytes' hexadecimal digits. Condition: the string's length. -/
import Derived.Test.YthdhlebgojimcaaHexOf
namespace Go.Proofs.Ythdhlebgojimcaa.HexOf
open Go.ChangeShapes Go.WideShapes Go.ChangeAt Go.RowKit
open RowG
set_option linter.unusedVariables false

/-- The bound method, as a function value. -/
def bound (b : Nat) : Value := .func (.func 37) #[.pointer (some ⟨b, 0, none⟩)] #[]

set_option maxHeartbeats 400000 in
theorem each_any (s : ByteArray) (w : World) (b : Nat) (hs : s.size ≤ 1048576) (h : IsHex w b []) :
    Calls Try.prog 30 #[.string s, bound b] w fun e w' => e = .returned (.tuple #[]) ∧ IsHex w' b (hexL s.data.toList) ∧ Below b w w' := by
  have HI := Lib.hid h
  clear h
  unfold bound
  go_enter Try.func30, Try.ntmps30
  go_wp2
  go_loopw [7] (fun i wr => ∃ k : Nat, k ≤ s.size ∧ i = .int .i64 k ∧ IsHex wr b (hexL (s.data.toList.take k)) ∧ Below b w wr) (fun i _ => s.size - (intOf i).toNat)
  case atStart => exact ⟨0, Nat.zero_le _, rfl, HI.out, Below.refl _ _⟩
  case round =>
    obtain ⟨k, hk, rfl, hi, hg⟩ := hrel
    have HI := Lib.hid hi
    have HG := Lib.hid hg
    clear hi hg
    have hn : (hexL (s.data.toList.take k)).length ≤ 4194304 := by
      rw [hexL_length]
      have : (s.data.toList.take k).length ≤ k := List.length_take_le _ _
      omega
    by_cases hlt : k < s.size
    · have HS := Lib.hid (show hexL (s.data.toList.take (k + 1)) = hexL (s.data.toList.take k) ++ hexC s[k] by rw [take_snoc s k hlt, hexL_snoc])
      generalize hexL (s.data.toList.take k) = l at HI HS hn
      go_wp2_with fail
      refine (add_any _ _ l s[k] hn HI.out).mono ?_
      rintro e w1 ⟨rfl, hi1, hg1⟩
      have HI1 := Lib.hid hi1
      have HG1 := Lib.hid (HG.out.trans hg1)
      clear hi1 hg1
      go_wp2_with fail
      go_roundw
      case rel => exact ⟨k + 1, by omega, by go_num, by rw [HS.out]; exact HI1.out, HG1.out⟩
      case measure => simp [intOf]; omega
    · have e : s.data.toList.take k = s.data.toList := List.take_of_length_le (by simp; omega)
      have HE := Lib.hid e
      clear e
      go_wp2_with fail
      go_end0
      exact ⟨rfl, by rw [← HE.out]; exact HI.out, HG.out⟩

set_option maxHeartbeats 400000 in
theorem impl_any (s : ByteArray) (w : World) (hs : s.size ≤ 1048576) :
    Calls Try.prog 26 #[.string s] w fun e w' => e = .returned (.string ⟨(hexL s.data.toList).toArray⟩) ∧ Below w.heap.size w w' := by
  have hmf : ∀ (fn : Fn) (first cap : Array Value) (w : World), (Instr.makeFunc fn first cap).run Try.prog w = .ok (.func fn first cap) w := fun _ _ _ _ => rfl
  go_enter Try.func26, Try.ntmps26
  go_wp2_with fail
  refine (each_any s _ w.heap.size hs ⟨_, (MapKept.heap_alloc w _).1, SplitAny.own_nil _ _ _⟩).mono ?_
  rintro e w1 ⟨rfl, hi1, hg1⟩
  have HB1 := Lib.hid (((Below.refl w.heap.size w).alloc (Nat.le_refl _) _).trans hg1)
  obtain ⟨v, hv, hown⟩ := hi1
  have c0 : w1.cell? ⟨w.heap.size, 0, none⟩ = some v := by simp [World.cell?, hv]
  have hbk := back_own hown
  clear hv hown hg1
  go_wp2_with fail
  go_ret
  exact ⟨rfl, HB1.out⟩
end Go.Proofs.Ythdhlebgojimcaa.HexOf
