/- A part. -/
import Derived.Test.YthppbcnejapbiaaGreatDoorIsDigits
namespace Go.Proofs.YthppbcnejapbiaaGreatDoor.IsName
open Go.ChangeShapes Go.WideShapes Go.ChangeAt Go.RowKit
open Go.ChangeMaps (open_string shut_string)
set_option linter.unusedVariables false
theorem emp_true (s : ByteArray) (h : s.size = 0) : s.toList.isEmpty = true := by
 rw [ByteArray.toList_eq]; obtain ⟨⟨l⟩⟩ := s; cases l <;> simp_all [ByteArray.size]
theorem emp_false (s : ByteArray) (h : s.size ≠ 0) : s.toList.isEmpty = false := by
 rw [ByteArray.toList_eq]; obtain ⟨⟨l⟩⟩ := s; cases l <;> simp_all [ByteArray.size]
end Go.Proofs.YthppbcnejapbiaaGreatDoor.IsName
