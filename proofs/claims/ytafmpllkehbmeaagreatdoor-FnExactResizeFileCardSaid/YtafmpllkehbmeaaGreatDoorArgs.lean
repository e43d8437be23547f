/- The arguments of a call of four to twelve parameters, each with its reading. No condition. -/
import Derived.Test.YtafmpllkehbmeaaGreatDoorKit
namespace Go.Proofs.YtafmpllkehbmeaaGreatDoor.Args
open Go.ChangeShapes Go.WideShapes
set_option linter.unusedVariables false
section
variable {H : Type} {enc : TypeId × Value → H} {P : Program} {w : World} {base : Nat} {spare : Nat → Bool} {held : Bool}

end
end Go.Proofs.YtafmpllkehbmeaaGreatDoor.Args
