/- Contracts and plain facts that a law of this seat leans on. Conditions: as each theorem types them. -/
import Derived.Test.YtjefefedhhloiaaGreatDoorKit
import Derived.BigQuiet
import Derived.Deep.QuietTactic
namespace Go.Proofs.YtjefefedhhloiaaGreatDoor.SplitAny
open Go.ChangeShapes Go.WideShapes Go.ChangeAt Go.RowKit
open Go.ChangeMaps (open_string shut_string)
set_option linter.unusedVariables false

/-- The parts cut off before place k, and where the next one begins. -/
def cutL (s b : ByteArray) : Nat → List ByteArray × Nat
  | 0 => ([], 0)
  | k + 1 => if b.data.toList.contains (s.data.toList.getD k 0) = true then ((cutL s b k).1 ++ [s.extract (cutL s b k).2 k], k + 1) else cutL s b k
def parts (s b : ByteArray) : List ByteArray := (cutL s b s.size).1 ++ [s.extract (cutL s b s.size).2 s.size]
theorem cutL_le (s b : ByteArray) (k : Nat) : (cutL s b k).1.length ≤ k ∧ (cutL s b k).2 ≤ k := by
  induction k with
  | zero => simp [cutL]
  | succ k ih =>
    simp only [cutL]
    split
    · simp; omega
    · omega

theorem strInfo : (Tryz.prog.info? 9).map (fun i => (i.zero, i.size, i.bytes)) = some (some (.string ⟨#[]⟩), 1, 16) := by kernel_rfl

theorem own_of_heap {w w' : World} {base : Nat} {e : TypeId} {size : Nat} {v : Value} {n : Nat} {xs : List Value} (h : w.ownsRow base e size v n xs) (hh : w'.heap = w.heap) : w'.ownsRow base e size v n xs := by
  unfold World.ownsRow at *
  rw [hh]; exact h
theorem below_drewN {B : Nat} {a w : World} (h : Below B a w) (n : Nat) : Below B a (w.drewN n) := ⟨h.os, h.tape, h.output, h.size, h.block⟩
/-- An empty row that has just been laid. -/
theorem own_fresh (w : World) (e : TypeId) : (w.alloc (.cells #[] e)).ownsRow w.heap.size e 1 (.slice (some ⟨w.heap.size, 0, none⟩) 0 0) 0 [] := by
  refine ⟨rfl, .inr ⟨w.heap.size, 0, #[], rfl, Nat.le_refl _, ?_, Nat.le_refl _, Nat.zero_le _, rfl, rfl⟩⟩
  exact (MapKept.heap_alloc w _).1
theorem byte_at (s : ByteArray) (k : Nat) (h : k < s.size) : s.data.toList.getD k 0 = s[k] := by
  have h2 : k < s.data.toList.length := by simpa using h
  rw [List.getD_eq_getElem?_getD, List.getElem?_eq_getElem h2]; rfl
theorem has_of (s b : ByteArray) (k j : Nat) (hk : k < s.size) (hj : j < b.size) (h : ((s[k].toNat : Int) == (b[j].toNat : Int)) = true) : b.data.toList.contains (s.data.toList.getD k 0) = true := by
  rw [byte_at s k hk]
  have e : s[k] = b[j] := by
    have : s[k].toNat = b[j].toNat := by have := eq_of_beq h; omega
    exact UInt8.toNat_inj.1 this
  rw [e]
  have h2 : j < b.data.toList.length := by simpa using hj
  have : b.data.toList[j]'h2 = b[j] := rfl
  rw [← this]
  simp
/-- Byte k of s is none of the first j bytes of b. -/
def NotIn (s b : ByteArray) (k j : Nat) : Prop := ∀ x, x < j → b.data.toList.getD x 0 ≠ s.data.toList.getD k 0
theorem notIn_zero (s b : ByteArray) (k : Nat) : NotIn s b k 0 := fun x h => by omega
theorem notIn_succ (s b : ByteArray) (k j : Nat) (hk : k < s.size) (hj : j < b.size) (h : NotIn s b k j) (hne : ((s[k].toNat : Int) == (b[j].toNat : Int)) = false) : NotIn s b k (j + 1) := by
  intro x hx
  by_cases e : x = j
  · subst e
    rw [byte_at s k hk, byte_at b x hj]
    intro e2
    rw [e2] at hne
    simp at hne
  · exact h x (by omega)
theorem not_has (s b : ByteArray) (k : Nat) (h : NotIn s b k b.size) : ¬ b.data.toList.contains (s.data.toList.getD k 0) = true := by
  intro hc
  rw [List.contains_iff_mem] at hc
  obtain ⟨x, hx, e⟩ := List.getElem_of_mem hc
  refine h x (by simpa using hx) ?_
  rw [← e, List.getD_eq_getElem?_getD, List.getElem?_eq_getElem hx]; rfl
theorem cut_yes (s b : ByteArray) (k : Nat) (h : b.data.toList.contains (s.data.toList.getD k 0) = true) : cutL s b (k + 1) = ((cutL s b k).1 ++ [s.extract (cutL s b k).2 k], k + 1) := by
  rw [cutL, if_pos h]
theorem cut_no (s b : ByteArray) (k : Nat) (h : NotIn s b k b.size) : cutL s b (k + 1) = cutL s b k := by
  rw [cutL, if_neg (not_has s b k h)]
/-- The state at the head of a round: what has been cut off is the call's own row; the next part's beginning. -/
def St (s b : ByteArray) (w : World) (base k : Nat) (v f : Value) (wr : World) : Prop :=
  f = .int .i64 (cutL s b k).2 ∧ wr.ownsRow base 9 1 v (cutL s b k).1.length ((cutL s b k).1.map Value.string) ∧ Below w.heap.size w wr ∧ base ≤ wr.heap.size

theorem st_below {w wq w1 : World} {base n : Nat} {o : Obj} {v : Value} {xs : List Value} {e : TypeId} (hown : wq.ownsRow base e 1 v n xs) (hbel : Below w.heap.size w wq) (hbs : base ≤ wq.heap.size) (hB : w.heap.size ≤ base) (hg : (wq.alloc o).grownBy w1 v.ownBlock) : Below w.heap.size w w1 ∧ base ≤ w1.heap.size := by
  have h1 : Below w.heap.size w (wq.alloc o) := hbel.alloc (Nat.le_trans hB hbs) _
  refine ⟨h1.grown hg (by simp; omega) (fun k hk => Nat.le_trans hB (hown.lt k hk).1), ?_⟩
  have := hg.size
  simp at this
  omega
theorem st_next (s b : ByteArray) (w : World) (base k : Nat) (v v' : Value) (wq w1 : World) {o : Obj} (hown : wq.ownsRow base 9 1 v (cutL s b k).1.length ((cutL s b k).1.map Value.string)) (hbel : Below w.heap.size w wq) (hbs : base ≤ wq.heap.size) (hB : w.heap.size ≤ base)
    (hc : cutL s b (k + 1) = ((cutL s b k).1 ++ [s.extract (cutL s b k).2 k], k + 1))
    (hown1 : w1.ownsRow base 9 1 v' ((cutL s b k).1.length + 1) ((cutL s b k).1.map Value.string ++ [.string (s.extract (cutL s b k).2 k)])) (hg : (wq.alloc o).grownBy w1 v.ownBlock) :
    St s b w base (k + 1) v' (.int .i64 ((k : Int) + 1)) w1 := by
  obtain ⟨h1, h2⟩ := st_below hown hbel hbs hB hg
  refine ⟨by rw [hc]; rfl, ?_, h1, h2⟩
  rw [hc]
  simpa using hown1

theorem st_same (s b : ByteArray) (w : World) (base k : Nat) (v : Value) (wq : World) (hown : wq.ownsRow base 9 1 v (cutL s b k).1.length ((cutL s b k).1.map Value.string)) (hbel : Below w.heap.size w wq) (hbs : base ≤ wq.heap.size)
    (hc : cutL s b (k + 1) = cutL s b k) : St s b w base (k + 1) v (.int .i64 (cutL s b k).2) wq := by
  refine ⟨by rw [hc], ?_, hbel, hbs⟩
  rw [hc]; exact hown

end Go.Proofs.YtjefefedhhloiaaGreatDoor.SplitAny
