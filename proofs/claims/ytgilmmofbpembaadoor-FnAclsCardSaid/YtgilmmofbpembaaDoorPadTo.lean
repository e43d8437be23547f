/- Contracts and plain facts that a law of this seat leans on. Conditions: as each theorem types them. -/
import Derived.Test.YtgilmmofbpembaaDoorRowG
import Derived.BigQuiet
namespace Go.Proofs.YtgilmmofbpembaaDoor.PadTo
open Go.ChangeShapes Go.WideShapes Go.ChangeAt Go.RowKit
open RowG
set_option linter.unusedVariables false

theorem ret_str {a b : ByteArray} (h : a = b) : Ending.returned (.string a) = .returned (.string b) := by rw [h]
/-- s with k zero bytes behind it. -/
def zend (s : ByteArray) (k : Nat) : List UInt8 := s.data.toList ++ List.replicate k 0
theorem zend_zero (s : ByteArray) : zend s 0 = s.data.toList := by simp [zend]
theorem zend_succ (s : ByteArray) (k : Nat) : zend s (k + 1) = zend s k ++ [0] := by simp [zend, List.replicate_succ']
theorem zend_length (s : ByteArray) (k : Nat) : (zend s k).length = s.size + k := by simp [zend]
def padB (s : ByteArray) (n : Int) : ByteArray := if 100000 < n then ⟨#[]⟩ else ⟨(zend s (n.toNat - s.size)).toArray⟩
theorem padB_big (s : ByteArray) (n : Int) (h : 100000 < n) : padB s n = ⟨#[]⟩ := by rw [padB, if_pos h]
theorem padB_at (s : ByteArray) (n : Int) (k : Nat) (h : ¬ 100000 < n) (hk : k = n.toNat - s.size) : padB s n = ⟨(zend s k).toArray⟩ := by rw [padB, if_neg h, hk]
theorem padB_id (s : ByteArray) (n : Int) (h : ¬ 100000 < n) (hk : n ≤ s.size) : padB s n = s := by
  rw [padB_at s n 0 h (by omega), zend_zero]
theorem own_step {w' : World} {base : Nat} {E : TypeId} {v : Value} {s : ByteArray} {k : Nat} (h : OwnG w' base E v (s.size + k + 1) (cellsB (zend s k) ++ [.int .u8 0])) : OwnG w' base E v (s.size + (k + 1)) (cellsB (zend s (k + 1))) := by
  rw [zend_succ, cellsB_append]
  exact h

end Go.Proofs.YtgilmmofbpembaaDoor.PadTo
