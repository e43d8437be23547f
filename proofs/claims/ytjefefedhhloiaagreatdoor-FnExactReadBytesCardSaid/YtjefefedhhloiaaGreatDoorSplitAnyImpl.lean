/- Contracts and plain facts that a law of this seat leans on. Conditions: as each theorem types them. -/
import Derived.Test.YtjefefedhhloiaaGreatDoorSplitAny
namespace Go.Proofs.YtjefefedhhloiaaGreatDoor.SplitAny
open Go.ChangeShapes Go.WideShapes Go.ChangeAt Go.RowKit
open Go.ChangeMaps (open_string shut_string)
set_option linter.unusedVariables false

def falses : Array Value := Array.replicate 256 (.bool false)
theorem zero_cuts : ∀ w : World, Sem.run Tryz.prog (zeroValue 176) w = .ok (.agg falses) w := fun w => by kernel_rfl
/-- The block of 256 marks: place x is marked if x is one of the first k bytes of b. -/
def Marks (b : ByteArray) (T : TypeId) (B k : Nat) (w : World) : Prop :=
  ∃ cs : Array Value, w.heap[B]? = some (.cells cs T (0, 0)) ∧ cs.size = 256 ∧ ∀ x, x < 256 → cs[x]? = some (.bool ((b.data.toList.take k).any fun c => decide (c.toNat = x)))

theorem marks_start (b : ByteArray) (w : World) (T : TypeId) : Marks b T w.heap.size 0 (w.alloc (.cells falses T)) := by
  refine ⟨falses, (MapKept.heap_alloc w _).1, by simp [falses], fun x hx => ?_⟩
  simp [falses, hx]

theorem marks_cell {b : ByteArray} {T : TypeId} {B k : Nat} {w : World} (h : Marks b T B k w) (x : Nat) (hx : x < 256) : w.cell? ⟨B, x, none⟩ = some (.bool ((b.data.toList.take k).any fun c => decide (c.toNat = x))) := by
  obtain ⟨cs, h1, h2, h3⟩ := h
  simp [World.cell?, h1, h3 x hx]
theorem marks_free {b : ByteArray} {T : TypeId} {B k : Nat} {w : World} (h : Marks b T B k w) (x : Nat) : w.frozen? ⟨B, x, none⟩ = false := by
  obtain ⟨cs, h1, h2, h3⟩ := h
  simp [World.frozen?, h1]
theorem marks_step {b : ByteArray} {T : TypeId} {B k : Nat} {w : World} (h : Marks b T B k w) (hk : k < b.size) : Marks b T B (k + 1) (w.setCell ⟨B, b[k].toNat, none⟩ (.bool true)) := by
  obtain ⟨cs, h1, h2, h3⟩ := h
  refine ⟨cs.setIfInBounds b[k].toNat (.bool true), heap_setCell_same w B _ cs T _ h1, by simpa using h2, fun x hx => ?_⟩
  have hl : k < b.data.toList.length := by simpa using hk
  have e : b.data.toList.take (k + 1) = b.data.toList.take k ++ [b[k]] := by
    rw [List.take_succ_eq_append_getElem hl]; rfl
  rw [e, List.any_append]
  by_cases hx2 : b[k].toNat = x
  · subst hx2
    simp [h2, hx]
  · rw [Array.getElem?_setIfInBounds, if_neg hx2, h3 x hx]
    simp [hx2]
theorem marks_kept {b : ByteArray} {T : TypeId} {B k : Nat} {w w' : World} (h : Marks b T B k w) (hh : w'.heap[B]? = w.heap[B]?) : Marks b T B k w' := by
  obtain ⟨cs, h1, h2, h3⟩ := h
  exact ⟨cs, hh.trans h1, h2, h3⟩
theorem marks_all {s b : ByteArray} {k : Nat} (hk : k < s.size) : ((b.data.toList.take b.size).any fun c => decide (c.toNat = s[k].toNat)) = b.data.toList.contains (s.data.toList.getD k 0) := by
  rw [List.take_of_length_le (by simp), byte_at s k hk, Bool.eq_iff_iff]
  simp only [List.any_eq_true, decide_eq_true_eq, List.contains_iff_mem]
  constructor
  · rintro ⟨c, hc, e⟩
    rw [← UInt8.toNat_inj.1 e]; exact hc
  · intro h
    exact ⟨_, h, rfl⟩
theorem own_mono {w : World} {base base' : Nat} {e : TypeId} {size : Nat} {v : Value} {n : Nat} {xs : List Value} (h : w.ownsRow base e size v n xs) (hb : base' ≤ base) : w.ownsRow base' e size v n xs := by
  obtain ⟨h1, h2⟩ := h
  refine ⟨h1, ?_⟩
  rcases h2 with h2 | ⟨g, cap, cur, hv, hg, r⟩
  · exact .inl h2
  · exact .inr ⟨g, cap, cur, hv, Nat.le_trans hb hg, r⟩
theorem own_nil (w : World) (base : Nat) (e : TypeId) : w.ownsRow base e 1 (.slice none 0 0) 0 [] := ⟨rfl, .inl ⟨rfl, rfl⟩⟩
/-- Behind an append the marks stand: the row that may have been written is another block. -/
theorem marks_append {b : ByteArray} {T : TypeId} {B k : Nat} {wq w1 : World} {o : Obj} {v : Value} {e : TypeId} {n : Nat} {xs : List Value} (h : Marks b T B k wq) (hown : wq.ownsRow (B + 1) e 1 v n xs) (hlt : B < wq.heap.size) (hg : (wq.alloc o).grownBy w1 v.ownBlock) : Marks b T B k w1 := by
  refine marks_kept h ?_
  rw [hg.block B (by simp; omega) ?_, Below.heap_alloc _ _ _ hlt]
  intro hh
  have := (hown.lt B hh.symm).1
  omega

end Go.Proofs.YtjefefedhhloiaaGreatDoor.SplitAny
