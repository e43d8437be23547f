/- A part. -/
import Derived.Test.YthppbcnejapbiaaGreatDoorModeV
import Derived.Test.YthppbcnejapbiaaGreatDoorAclQ
namespace Go.Proofs.YthppbcnejapbiaaGreatDoor.CredV
open Go
open AclV ModeV
set_option linter.unusedVariables false
abbrev Cr := Int × Int × List Int
def userB (n : Int) : Bool := decide (0 <= n) && decide (n <= 3)
theorem user_iff (n : Int) : userB n = true ↔ 0 <= n /\ n <= 3 := by simp [userB]
def ascB (l : List Int) (k : Nat) : Bool := (List.range k).all fun i => userB (l.getD i 0) && (i == 0 || decide (l.getD (i - 1) 0 < l.getD i 0))
theorem ascB_succ (l : List Int) (k : Nat) : ascB l (k + 1) = (ascB l k && (userB (l.getD k 0) && (k == 0 || decide (l.getD (k - 1) 0 < l.getD k 0)))) := by
 simp [ascB, List.range_succ]
theorem ascB_mono {l : List Int} {j k : Nat} (h : ascB l k = true) (hjk : j <= k) : ascB l j = true := by
 unfold ascB at *
 rw [List.all_eq_true] at *
 exact fun i hi => h i (by rw [List.mem_range] at *; omega)
def credB (c : Cr) : Bool := ascB c.2.2 c.2.2.length && userB c.1 && userB c.2.1
def inB (c : Cr) (g : Int) : Bool := decide (c.2.1 = g) || c.2.2.any fun x => decide (x = g)
end Go.Proofs.YthppbcnejapbiaaGreatDoor.CredV
