/- A part. -/
import Derived.Test.YthppbcnejapbiaaGreatDoorSplitC
namespace Go.Proofs.YthppbcnejapbiaaGreatDoor.AclV
open SplitAny (cutL parts)
set_option linter.unusedVariables false
abbrev At := Int × Int × Int
def a0 : At := (0, 0, 0)
def entB (x : At) : Bool := decide (0 <= x.2.2) && decide (x.2.2 <= 7) && (((decide (x.1 = 1) || decide (x.1 = 2)) && decide (0 <= x.2.1) && decide (x.2.1 <= 3)) || (decide (x.1 = 3) && decide (x.2.1 = 0)))
def ltB (x y : At) : Bool := decide (x.1 < y.1) || (decide (x.1 = y.1) && decide (x.2.1 < y.2.1))
def upB (l : List At) (k : Nat) : Bool := (List.range k).all fun i => entB (l.getD i a0) && (i == 0 || ltB (l.getD (i - 1) a0) (l.getD i a0))
def okB (l : List At) : Bool := upB l l.length && (l.isEmpty || (decide (l.length <= 6) && decide ((l.getD (l.length - 1) a0).1 = 3)))
theorem upB_succ (l : List At) (k : Nat) : upB l (k + 1) = (upB l k && (entB (l.getD k a0) && (k == 0 || ltB (l.getD (k - 1) a0) (l.getD k a0)))) := by
 simp [upB, List.range_succ]
theorem upB_mono {l : List At} {j k : Nat} (h : upB l k = true) (hjk : j <= k) : upB l j = true := by
 unfold upB at *
 rw [List.all_eq_true] at *
 exact fun i hi => h i (by rw [List.mem_range] at *; omega)
theorem ok_up {l : List At} (h : okB l = true) : upB l l.length = true := by
 unfold okB at h; rw [Bool.and_eq_true] at h; exact h.1
theorem ok_len {l : List At} (h : okB l = true) : l.length <= 6 := by
 unfold okB at h
 rw [Bool.and_eq_true] at h
 cases l with
 | nil => simp
 | cons a l => simpa using (by simpa using h.2 : _ /\ _).1
end Go.Proofs.YthppbcnejapbiaaGreatDoor.AclV
