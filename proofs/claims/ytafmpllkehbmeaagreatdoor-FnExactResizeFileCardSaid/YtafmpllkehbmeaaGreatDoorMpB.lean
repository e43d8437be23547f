/- A map from ints to bools of the call's own, told by the set of its keys that are true: made, read, written, a key deleted; what stands while other blocks turn. Conditions: as each theorem types them. -/
import Derived.Test.YtafmpllkehbmeaaGreatDoorFoot
import Derived.Test.YtafmpllkehbmeaaGreatDoorBx
import Derived.Maps.OwnSet
namespace Go.Proofs.YtafmpllkehbmeaaGreatDoor.MpB
open Go.ChangeShapes Go.WideShapes Go.ChangeAt Go.RowKit
open Go.Maps (Keyed int_keyed IsMap)
open Foot
set_option linter.unusedVariables false

theorem law : Keyed Tryz.prog 3 := int_keyed Tryz.underlying3
theorem zeroE (w : World) : (zeroValue 4).run Tryz.prog w = .ok (.bool false) w := by kernel_rfl
theorem wf_of {x : Int} (h : Rg x) : (Lit.int .i64 x).wf = true := by
  unfold Rg at h
  exact WalkArith.wf_i64 (by omega)
theorem key_of {x : Int} (h : Rg x) : keyOf Tryz.prog 3 (.int .i64 x) = some (.int .i64 x) := Maps.keyOf_int_mk Tryz.underlying3 (wf_of h)
theorem key_lit {x : Int} (h : Rg x) : WideAt.IsKeyLit (.int .i64 x) := law.key (key_of h)
set_option maxRecDepth 100000 in
theorem bool_inv {H : Type} {v : Value} {z : DataW H × List MemPlace} (h : plainElem Tryz.prog 4 v = some z) : ∃ a, v = .bool a ∧ z = (.lit (.bool a), []) := by
  have hu := Tryz.underlying4
  generalize Tryz.prog = P at h hu
  unfold plainElem at h
  rw [hu] at h
  cases v <;> simp at h
  subst h
  exact ⟨_, rfl, rfl⟩
/-- Block b is a map of at most n entries; s tells which keys read as true. -/
def Is (w : World) (b n : Nat) (s : Int → Bool) : Prop := ∃ D : DataW Unit, w.ownsMap Tryz.prog 3 (plainElem Tryz.prog 4) b n D ∧ ∀ x, Rg x → D.atKey (.int .i64 x) (.lit (.bool false)) = .lit (.bool (s x))
section
variable {w w' : World} {b n : Nat} {s : Int → Bool}
theorem made (w : World) : Is (w.alloc (.map #[] 0)) w.heap.size 0 fun _ => false := ⟨_, World.ownsMap_made _ _ _ _, fun _ _ => rfl⟩
theorem Is.lt (h : Is w b n s) : b < w.heap.size := by obtain ⟨D, hD, _⟩ := h; exact hD.lt
theorem Is.kept {row : Option Nat} (h : Is w b n s) (hg : w.grownBy w' row) (hne : some b ≠ row) : Is w' b n s := by obtain ⟨D, hD, hs⟩ := h; exact ⟨D, hD.kept hg hne, hs⟩
theorem grown_of (hb : Below w.heap.size w w') : w.grownBy w' none := ⟨hb.os, hb.tape, hb.output, hb.size, fun k hk _ => hb.block k hk⟩
theorem Is.below (h : Is w b n s) (hb : Below w.heap.size w w') : Is w' b n s := h.kept (grown_of hb) (by simp)
theorem Is.alloc (h : Is w b n s) (o : Obj) : Is (w.alloc o) b n s := h.kept (World.grownBy_alloc w o none) (by simp)
theorem Is.drew (h : Is w b n s) : Is w.drew b n s := h
theorem Is.set (h : Is w b n s) {a : Addr} (ha : b ≠ a.block) (u : Value) : Is (w.setCell a u) b n s := by obtain ⟨D, hD, hs⟩ := h; exact ⟨D, hD.setCell ha u, hs⟩
theorem Is.chg {S : List Nat} (h : Is w b n s) (hc : Chg w w' S) (hb : b ∉ S) : Is w' b n s := by
  obtain ⟨D, ⟨es, clock, hh, r⟩, hs⟩ := h
  exact ⟨D, ⟨es, clock, (hc.block b (Array.getElem?_eq_some_iff.1 hh).1 hb).trans hh, r⟩, hs⟩
theorem Is.as {t : Int → Bool} (h : Is w b n s) (he : ∀ x, Rg x → s x = t x) : Is w b n t := by obtain ⟨D, hD, hs⟩ := h; exact ⟨D, hD, fun x hx => by rw [hs x hx, he x hx]⟩
theorem Is.mono {m : Nat} (h : Is w b n s) (hm : n ≤ m) : Is w b m s := by obtain ⟨D, hD, hs⟩ := h; exact ⟨D, hD.mono hm, hs⟩
theorem Is.look (h : Is w b n s) {x : Int} (hx : Rg x) : (Instr.lookup 81 (.map (some b)) (.int .i64 x) false).run Tryz.prog w = .ok (.bool (s x)) w := by
  obtain ⟨D, hD, hs⟩ := h
  obtain ⟨v, ps, hrun, hv⟩ := hD.lookup law Tryz.underlying81 (zeroE w) (plainElem_bool Tryz.underlying4 false) (key_of hx)
  obtain ⟨c, rfl, hc⟩ := bool_inv hv
  have e := congrArg Prod.fst hc
  dsimp only at e
  rw [hs x hx] at e
  rw [hrun]
  simp only [DataW.lit.injEq, Lit.bool.injEq] at e
  rw [e]
end
section
variable (w : World) {ops : Array Oper} {rest : List Oper} {o : Oper} {a : Act} {Q : Exit → Act → World → Prop}
theorem wpList_put (hg : o.guard = none) (m x v : Operand) (hop : o.op = Op.mapUpdate 81 m x v) (b n : Nat) (s : Int → Bool) (hm : a.eval m = .map (some b)) (hown : Is w b n s) (hn : n < maxLen) (k : Int) (hx : a.eval x = .int .i64 k) (hv : a.eval v = .bool true) (hr : Rg k)
    (hK : ∀ w', Is w' b (n + 1) (fun y => decide (y = k) || s y) → w.grownBy w' (some b) → wpList Tryz.prog ops Q rest (a.put o.dst undef) w') : wpList Tryz.prog ops Q (o :: rest) a w := by
  obtain ⟨D, hD, hs⟩ := hown
  refine wpList_mapUpdate_own w hg m x v 81 hop 3 4 law Tryz.underlying81 _ b n D hm hD hn _ _ _ hx hv (key_of hr) (.lit (.bool true)) [] (plainElem_bool Tryz.underlying4 true) ?_
  intro w' hown' hg'
  refine hK w' ⟨_, hown', fun y hy => ?_⟩ hg'
  by_cases hyk : y = k
  · subst hyk
    rw [Maps.atKey_put_same hD.isMap (key_lit hy)]
    simp
  · rw [Maps.atKey_put_other (by simpa using hyk), hs y hy]
    simp [hyk]
theorem wpList_del (hg : o.guard = none) (m x : Operand) (hop : o.op = Op.call { callee := Callee.builtin Builtin.delete, args := #[m, x], argTypes := #[81, 3] }) (b n : Nat) (s : Int → Bool) (hm : a.eval m = .map (some b)) (hown : Is w b n s) (k : Int) (hx : a.eval x = .int .i64 k) (hr : Rg k)
    (hK : ∀ w', Is w' b n (fun y => !decide (y = k) && s y) → w.grownBy w' (some b) → wpList Tryz.prog ops Q rest (a.put o.dst (.tuple #[])) w') : wpList Tryz.prog ops Q (o :: rest) a w := by
  obtain ⟨D, hD, hs⟩ := hown
  refine wpList_delete_own w hg m x 81 3 hop 4 law Tryz.underlying81 _ b n D hm hD _ _ hx (key_of hr) ?_
  intro w' hown' hg'
  refine hK w' ⟨_, hown', fun y hy => ?_⟩ hg'.grown
  by_cases hyk : y = k
  · subst hyk
    rw [Maps.atKey_del_same]
    simp
  · rw [Maps.atKey_del_other (by simpa using hyk), hs y hy]
    simp [hyk]
end
end Go.Proofs.YtafmpllkehbmeaaGreatDoor.MpB
