/- Credentials as values; who may do what: what the lists, the classes and the mask say. Plain facts, no condition. -/
import Derived.Test.YthppbcnejapbiaaGreatDoorModeV
import Derived.Test.YthppbcnejapbiaaGreatDoorAclQ
namespace Go.Proofs.YthppbcnejapbiaaGreatDoor.CredV
open Go
open AclV ModeV
set_option linter.unusedVariables false

/-- Credentials: user, group, further groups. -/
abbrev Cr := Int × Int × List Int
def userB (n : Int) : Bool := decide (0 ≤ n) && decide (n ≤ 3)
theorem user_iff (n : Int) : userB n = true ↔ 0 ≤ n ∧ n ≤ 3 := by simp [userB]
/-- The first k groups are users' numbers and ascend. -/
def ascB (l : List Int) (k : Nat) : Bool := (List.range k).all fun i => userB (l.getD i 0) && (i == 0 || decide (l.getD (i - 1) 0 < l.getD i 0))
theorem ascB_succ (l : List Int) (k : Nat) : ascB l (k + 1) = (ascB l k && (userB (l.getD k 0) && (k == 0 || decide (l.getD (k - 1) 0 < l.getD k 0)))) := by
  simp [ascB, List.range_succ]
theorem ascB_mono {l : List Int} {j k : Nat} (h : ascB l k = true) (hjk : j ≤ k) : ascB l j = true := by
  unfold ascB at *
  rw [List.all_eq_true] at *
  exact fun i hi => h i (by rw [List.mem_range] at *; omega)
def credB (c : Cr) : Bool := ascB c.2.2 c.2.2.length && userB c.1 && userB c.2.1
/-- A group of the credentials. -/
def inB (c : Cr) (g : Int) : Bool := decide (c.2.1 = g) || c.2.2.any fun x => decide (x = g)
/-- A permission has all bits of another one. -/
def andP (a b : Int) : Int := ((a.toNat &&& b.toNat : Nat) : Int)
def covB (a b : Int) : Bool := decide (andP a b = b)
theorem and_all : ∀ a, a < 8 → ∀ b, b < 8 → bits .and .i64 ((a : Nat) : Int) ((b : Nat) : Int) = ((a &&& b : Nat) : Int) := by decide +kernel
theorem and_bits {a b : Int} (ha : 0 ≤ a) (ha' : a ≤ 7) (hb : 0 ≤ b) (hb' : b ≤ 7) : bits .and .i64 a b = andP a b := by
  obtain ⟨x, rfl⟩ := Int.eq_ofNat_of_zero_le ha
  obtain ⟨y, rfl⟩ := Int.eq_ofNat_of_zero_le hb
  have := and_all x (by omega) y (by omega)
  unfold andP
  simpa using this
theorem and_lt : ∀ a, a < 8 → ∀ b, b < 8 → (a &&& b : Nat) < 8 := by decide +kernel
def In8 (a : Int) : Prop := 0 ≤ a ∧ a ≤ 7
theorem and_in {a b : Int} (ha : In8 a) (hb : In8 b) : In8 (andP a b) := by
  have := and_lt a.toNat (by have := ha.2; have := ha.1; omega) b.toNat (by have := hb.2; have := hb.1; omega)
  unfold In8 andP
  omega
theorem cov_iff {a b : Int} (hb : 0 ≤ b) : covB a b = true ↔ (a.toNat &&& b.toNat) = b.toNat := by
  unfold covB andP
  rw [decide_eq_true_eq]
  omega
theorem ent_in {l : List At} (h : okB l = true) {x : At} (hx : x ∈ l) : In8 x.2.2 := by
  have := ent_facts (ok_ent h x hx)
  exact ⟨this.1, this.2.1⟩
theorem mask_in {l : List At} (h : okB l = true) : In8 (maskV l) := by
  unfold maskV
  split
  · rename_i x hx
    exact ent_in h (List.mem_of_find?_eq_some hx)
  · exact ⟨by omega, by omega⟩
theorem perm_in {l : List At} (h : okB l = true) (t i : Int) : In8 (permV l t i).1 := by
  unfold permV
  split
  · rename_i x hx
    exact ent_in h (List.mem_of_find?_eq_some hx)
  · exact ⟨by show (0 : Int) ≤ 0; omega, by show (0 : Int) ≤ 7; omega⟩

/-- The arguments of Allowed are valid. -/
def argsB (c : Cr) (uid gid mode : Int) (l : List At) (want : Int) : Bool := credB c && okB l && userB uid && userB gid && modeB mode && decide (0 ≤ want) && decide (want ≤ 7)
/-- An entry of a group of the credentials. -/
def grpB (c : Cr) (x : At) : Bool := decide (x.1 = 2) && inB c x.2.1
/-- What the classes, the list and its mask decide, want being 0 to 7. -/
def decideV (c : Cr) (uid gid mode : Int) (l : List At) (want : Int) : Bool :=
  if c.1 = 0 then true
  else if c.1 = uid then covB (permOfV mode 0) want
  else if (permV l 1 c.1).2 = true then covB (andP (permV l 1 c.1).1 (maskV l)) want
  else if (inB c gid || l.any (grpB c)) = true then ((inB c gid && covB (permOfV mode 1) want) || l.any fun x => grpB c x && covB x.2.2 want) && covB (maskV l) want
  else covB (permOfV mode 2) want
def allowedV (c : Cr) (uid gid mode : Int) (l : List At) (want : Int) : Bool := argsB c uid gid mode l want && decideV c uid gid mode l want
/-- Who may remove from a directory. -/
def mayV (c : Cr) (d m u : Int) : Bool := credB c && modeB m && (!stickyB m || decide (c.1 = 0) || decide (c.1 = d) || decide (c.1 = u))
end Go.Proofs.YthppbcnejapbiaaGreatDoor.CredV
