/- Contracts and plain facts that a law of this seat leans on. Conditions: as each theorem types them. -/
import Derived.Test.YthppbcnejapbiaaGreatDoorWr
namespace Go.Proofs.YthppbcnejapbiaaGreatDoor.Wr
open Go.ChangeShapes Go.WideShapes Go.ChangeAt Go.RowKit
open Strs (own_below ret_int budgetOf total total_take_succ total_take_le take_set_succ)
set_option linter.unusedVariables false

/-- The data of the writes. -/
def datas (ws : List Wt) : List ByteArray := ws.map (·.2)
theorem datas_length (ws : List Wt) : (datas ws).length = ws.length := by simp [datas]
end Go.Proofs.YthppbcnejapbiaaGreatDoor.Wr
