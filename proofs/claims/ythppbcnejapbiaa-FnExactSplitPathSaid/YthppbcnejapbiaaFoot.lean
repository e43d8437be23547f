/- Memory that a value owns, as the list of its blocks; worlds in which only some blocks have turned. Plain facts on worlds, no condition. -/
import Derived.Below
import Derived.Laws.AppendOwn
import Derived.Laws.OwnMore
import Derived.OwnWalk
import Derived.Lib.Hide
namespace Go.Proofs.Ythppbcnejapbiaa.Foot
open Go Go.RowKit
set_option linter.unusedVariables false

/-- Only the blocks of S may have turned. -/
structure Chg (w w' : World) (S : List Nat) : Prop where
  os : w'.os = w.os
  tape : w'.tape = w.tape
  output : w'.output = w.output
  size : w.heap.size ≤ w'.heap.size
  block : ∀ k, k < w.heap.size → k ∉ S → w'.heap[k]? = w.heap[k]?
theorem Chg.refl (w : World) (S : List Nat) : Chg w w S := ⟨rfl, rfl, rfl, Nat.le_refl _, fun _ _ _ => rfl⟩
theorem Chg.trans {a b c : World} {S : List Nat} (h1 : Chg a b S) (h2 : Chg b c S) : Chg a c S :=
  ⟨h2.os.trans h1.os, h2.tape.trans h1.tape, h2.output.trans h1.output, Nat.le_trans h1.size h2.size, fun k hk hn => (h2.block k (Nat.lt_of_lt_of_le hk h1.size) hn).trans (h1.block k hk hn)⟩
theorem Chg.more {a b : World} {S T : List Nat} (h : Chg a b S) (hs : ∀ k ∈ S, k ∈ T) : Chg a b T := ⟨h.os, h.tape, h.output, h.size, fun k hk hn => h.block k hk (fun hh => hn (hs k hh))⟩
theorem Chg.of_below {a b : World} {B : Nat} (h : Below B a b) (hB : a.heap.size ≤ B) (S : List Nat) : Chg a b S := ⟨h.os, h.tape, h.output, h.size, fun k hk _ => h.block k (Nat.lt_of_lt_of_le hk hB)⟩
theorem Chg.of_grown {a b : World} {row : Option Nat} (h : a.grownBy b row) : Chg a b row.toList := ⟨h.os, h.tape, h.output, h.size, fun k hk hn => h.block k hk (fun e => hn (by rw [← e]; simp))⟩
theorem Chg.below {a b : World} {S : List Nat} {B : Nat} (h : Chg a b S) (hB : B ≤ a.heap.size) (hS : ∀ k ∈ S, B ≤ k) : Below B a b :=
  ⟨h.os, h.tape, h.output, h.size, fun k hk => h.block k (Nat.lt_of_lt_of_le hk hB) (fun hh => by have := hS k hh; omega)⟩
theorem Chg.cell {a b : World} {S : List Nat} (h : Chg a b S) {p : Addr} (hp : p.block < a.heap.size) (hn : p.block ∉ S) : b.cell? p = a.cell? p := by
  have e := h.block p.block hp hn
  unfold World.cell?
  rw [e]
/-- Two lists of blocks share none. -/
def Apart (S T : List Nat) : Prop := ∀ k ∈ S, k ∉ T
theorem Apart.symm {S T : List Nat} (h : Apart S T) : Apart T S := fun k hk hh => h k hh hk
theorem apart_nil (T : List Nat) : Apart [] T := fun k hk => by cases hk
theorem apart_lt {S T : List Nat} {n : Nat} (hS : ∀ k ∈ S, k < n) (hT : ∀ k ∈ T, n ≤ k) : Apart S T := fun k hk hh => by have := hS k hk; have := hT k hh; omega
theorem apart_app {S T U : List Nat} : Apart (S ++ T) U ↔ Apart S U ∧ Apart T U := by
  unfold Apart
  simp only [List.mem_append]
  exact ⟨fun h => ⟨fun k hk => h k (.inl hk), fun k hk => h k (.inr hk)⟩, fun h k hk => hk.elim (h.1 k) (h.2 k)⟩
theorem apart_app_right {S T U : List Nat} : Apart U (S ++ T) ↔ Apart U S ∧ Apart U T := by
  unfold Apart
  simp only [List.mem_append, not_or]
  exact ⟨fun h => ⟨fun k hk => (h k hk).1, fun k hk => (h k hk).2⟩, fun h k hk => ⟨h.1 k hk, h.2 k hk⟩⟩
/-- The blocks of S lie from base on, below hi. -/
def Lies (S : List Nat) (base hi : Nat) : Prop := ∀ k ∈ S, base ≤ k ∧ k < hi
theorem lies_nil (base hi : Nat) : Lies [] base hi := fun k hk => by cases hk
theorem Lies.wide {S : List Nat} {a b c d : Nat} (h : Lies S a b) (h1 : c ≤ a) (h2 : b ≤ d) : Lies S c d := fun k hk => by have := h k hk; omega
theorem Lies.app {S T : List Nat} {a b : Nat} (h : Lies S a b) (h' : Lies T a b) : Lies (S ++ T) a b := fun k hk => (List.mem_append.1 hk).elim (h k) (h' k)
theorem Lies.apart {S T : List Nat} {a b c d : Nat} (h : Lies S a b) (h' : Lies T c d) (hbc : b ≤ c) : Apart S T := fun k hk hh => by have := h k hk; have := h' k hh; omega
theorem nodup_app {S T : List Nat} (hS : S.Nodup) (hT : T.Nodup) (h : Apart S T) : (S ++ T).Nodup := List.nodup_append.2 ⟨hS, hT, fun a ha b hb e => h a ha (e ▸ hb)⟩
theorem nodup_parts {S T : List Nat} (h : (S ++ T).Nodup) : S.Nodup ∧ T.Nodup ∧ Apart S T := by
  obtain ⟨h1, h2, h3⟩ := List.nodup_append.1 h
  exact ⟨h1, h2, fun k hk hh => h3 k hk k hh rfl⟩
/-- A row's blocks: one, or none. -/
def fpR (v : Value) : List Nat := v.ownBlock.toList
theorem fpR_nodup (v : Value) : (fpR v).Nodup := by unfold fpR; cases v.ownBlock <;> simp
theorem row_lies {w : World} {base size n : Nat} {e : TypeId} {v : Value} {xs : List Value} (h : w.ownsRow base e size v n xs) : Lies (fpR v) base w.heap.size := fun k hk => by
  have := h.lt k (by unfold fpR at hk; simpa using hk)
  exact this
theorem row_chg {w w' : World} {base size n : Nat} {e : TypeId} {v : Value} {xs : List Value} {S : List Nat} (h : w.ownsRow base e size v n xs) (hc : Chg w w' S) (ha : Apart (fpR v) S) : w'.ownsRow base e size v n xs := by
  refine ⟨h.1, ?_⟩
  rcases h.2 with hn | ⟨g, cap, cur, rfl, hb, hg, rest⟩
  · exact .inl hn
  · exact .inr ⟨g, cap, cur, rfl, hb, (hc.block g (Array.getElem?_eq_some_iff.1 hg).1 (ha g (by simp [fpR, Value.ownBlock]))).trans hg, rest⟩
theorem row_below {w w' : World} {base size n : Nat} {e : TypeId} {v : Value} {xs : List Value} (h : w.ownsRow base e size v n xs) (hb : Below w.heap.size w w') : w'.ownsRow base e size v n xs :=
  row_chg h (Chg.of_below hb (Nat.le_refl _) []) (fun k _ hh => by cases hh)
theorem row_mono {w : World} {base base' size n : Nat} {e : TypeId} {v : Value} {xs : List Value} (h : w.ownsRow base e size v n xs) (hb : base' ≤ base) : w.ownsRow base' e size v n xs :=
  ⟨h.1, h.2.elim .inl (fun ⟨g, cap, cur, hv, hg, r⟩ => .inr ⟨g, cap, cur, hv, Nat.le_trans hb hg, r⟩)⟩
/-- An int of 64 bits. -/
def Rg (x : Int) : Prop := -9223372036854775808 ≤ x ∧ x ≤ 9223372036854775807
theorem rg_of {x : Int} (h : (Lit.int .i64 x).wf = true) : Rg x := by
  simp only [Lit.wf, Bool.and_eq_true, decide_eq_true_eq, show IntKind.i64.min = -9223372036854775808 from rfl, show IntKind.i64.max = 9223372036854775807 from rfl] at h
  exact h
/-- The cost of a value, held against what is left. -/
def costOf (n left : Nat) : Int := if n ≤ left then ((left - n : Nat) : Int) else -1
theorem cost_pos {n left : Nat} (h : n ≤ left) : costOf n left = ((left - n : Nat) : Int) := if_pos h
theorem cost_neg {n left : Nat} (h : ¬ n ≤ left) : costOf n left = -1 := if_neg h
end Go.Proofs.Ythppbcnejapbiaa.Foot
