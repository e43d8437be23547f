/- Contracts and plain facts that a law of this seat leans on. Conditions: as each theorem types them. -/
import Derived.Test.YtafmpllkehbmeaaGreatDoorFsE
namespace Go.Proofs.YtafmpllkehbmeaaGreatDoor.FsC
open Go.ChangeShapes Go.WideShapes Go.ChangeAt Go.RowKit
open Foot Bx
open InoV (I usedV hasB)
open FsV (F cnt first pick useI useB usersB okF)
open Dk (ret_bool)
open Strs (ret_int)
open MpB (Is)
set_option linter.unusedVariables false

/-- Which inodes of the first i are in use. -/
def usI (l : List I) (i : Nat) (x : Int) : Bool := decide (0 ≤ x) && decide (x < (i : Int)) && !decide ((l.getD x.toNat InoV.zero).kind = 0)
/-- A pool's value. -/
abbrev poolV (a m : Nat) (q : Int) (b : Nat) : Value := .agg #[.int .i64 a, .int .i64 m, .int .i64 q, .map (some b)]

def pairV (x : Int × Int) : Value := .tuple #[.int .i64 x.1, .int .i64 x.2]
end Go.Proofs.YtafmpllkehbmeaaGreatDoor.FsC
