/- Contracts and plain facts that a law of this seat leans on. Conditions: as each theorem types them. -/
import Derived.Test.YtbbnginolidedaaGreatDoorKit
import Derived.BigQuiet
import Derived.Deep.QuietTactic
namespace Go.Proofs.YtbbnginolidedaaGreatDoor.SplitAny
open Go.ChangeShapes Go.WideShapes Go.ChangeAt Go.RowKit
open Go.ChangeMaps (open_string shut_string)
set_option linter.unusedVariables false

/-- The parts cut off before place k, and where the next one begins. -/
def cutL (s b : ByteArray) : Nat → List ByteArray × Nat
  | 0 => ([], 0)
  | k + 1 => if b.data.toList.contains (s.data.toList.getD k 0) = true then ((cutL s b k).1 ++ [s.extract (cutL s b k).2 k], k + 1) else cutL s b k
def parts (s b : ByteArray) : List ByteArray := (cutL s b s.size).1 ++ [s.extract (cutL s b s.size).2 s.size]
theorem strInfo : (Tryz.prog.info? 9).map (fun i => (i.zero, i.size, i.bytes)) = some (some (.string ⟨#[]⟩), 1, 16) := by kernel_rfl

theorem byte_at (s : ByteArray) (k : Nat) (h : k < s.size) : s.data.toList.getD k 0 = s[k] := by
  have h2 : k < s.data.toList.length := by simpa using h
  rw [List.getD_eq_getElem?_getD, List.getElem?_eq_getElem h2]; rfl
end Go.Proofs.YtbbnginolidedaaGreatDoor.SplitAny
