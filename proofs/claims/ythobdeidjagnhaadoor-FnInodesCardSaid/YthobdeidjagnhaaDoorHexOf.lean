/- Contracts and plain facts that a law of this seat leans on. Conditions: as each theorem types them. -/
import Derived.Test.YthobdeidjagnhaaDoorRowG
import Derived.Test.YthobdeidjagnhaaDoorSplitAnyLaw
import Derived.BigQuiet
import Derived.Deep.QuietTactic
import Derived.Deep.RegionLaw
import Derived.StillTailTactics
import Derived.Laws.BitsAllLaws
namespace Go.Proofs.YthobdeidjagnhaaDoor.HexOf
open Go.ChangeShapes Go.WideShapes Go.ChangeAt Go.RowKit
open RowG
open SplitAny (own_fresh own_nil)
set_option linter.unusedVariables false

/-- A digit's byte. -/
def hexD (k : Nat) : UInt8 := [48, 49, 50, 51, 52, 53, 54, 55, 56, 57, 97, 98, 99, 100, 101, 102].getD k 0
def hexC (c : UInt8) : List UInt8 := [hexD (c.toNat / 16), hexD (c.toNat % 16)]
def hexL (l : List UInt8) : List UInt8 := l.flatMap hexC
theorem hexL_snoc (l : List UInt8) (c : UInt8) : hexL (l ++ [c]) = hexL l ++ hexC c := by simp [hexL]
theorem hexL_length (l : List UInt8) : (hexL l).length = 2 * l.length := by
  induction l with
  | nil => rfl
  | cons a l ih => simp [hexL, hexC] at ih ⊢; omega
theorem take_snoc (s : ByteArray) (k : Nat) (h : k < s.size) : s.data.toList.take (k + 1) = s.data.toList.take k ++ [s[k]] := by
  rw [List.take_succ_eq_append_getElem (by simpa using h)]; rfl
theorem hex_index (k : Nat) (h : k < 16) (q : Int) (hq : q = (k : Int)) (w : World) :
    (Instr.index 9 (.string ⟨#[48, 49, 50, 51, 52, 53, 54, 55, 56, 57, 97, 98, 99, 100, 101, 102]⟩) (.int .u8 q)).run Tryd.prog w = .ok (.int .u8 ((hexD k).toNat : Int)) w := by
  subst hq
  rcases (show k = 0 ∨ k = 1 ∨ k = 2 ∨ k = 3 ∨ k = 4 ∨ k = 5 ∨ k = 6 ∨ k = 7 ∨ k = 8 ∨ k = 9 ∨ k = 10 ∨ k = 11 ∨ k = 12 ∨ k = 13 ∨ k = 14 ∨ k = 15 from by omega) with rfl | rfl | rfl | rfl | rfl | rfl | rfl | rfl | rfl | rfl | rfl | rfl | rfl | rfl | rfl | rfl
  all_goals kernel_rfl
theorem and15 (c : UInt8) : bits .and .u8 (c.toNat : Int) 15 = (c.toNat : Int) % 16 := by
  have h := u8_and_nat c.toNat 15 c.toNat_lt (by omega)
  rw [show ((15 : Nat) : Int) = 15 from rfl] at h
  rw [h, show (15 : Nat) = 2 ^ 4 - 1 from rfl, Nat.and_two_pow_sub_one_eq_mod]
  rfl

theorem own_drew {w : World} {base : Nat} {e : TypeId} {v : Value} {n : Nat} {xs : List Value} (h : w.ownsRow base e 1 v n xs) (o : Obj) : (w.alloc o).drew.ownsRow base e 1 v n xs :=
  SplitAny.own_of_heap (w' := (w.alloc o).drew) (World.ownsRow.alloc h o) rfl
theorem own_form {w : World} {base : Nat} {e : TypeId} {v : Value} {n : Nat} {xs : List Value} (h : w.ownsRow base e 1 v n xs) (hn : 0 < n) : ∃ g cap, v = .slice (some ⟨g, 0, none⟩) n cap ∧ base ≤ g := by
  rcases h.2 with ⟨_, rfl⟩ | ⟨g, cap, cur, rfl, hb, _⟩
  · omega
  · exact ⟨g, cap, rfl, hb⟩
theorem cell_two_new (w : World) (x y : Value) (T : TypeId) : ∀ j u, [x, y][j]? = some u → (w.alloc (.cells #[x, y] T)).drew.cell? ((⟨w.heap.size, 0, none⟩ : Addr).add j) = some u := by
  intro j u hj
  show (w.alloc (.cells #[x, y] T)).cell? _ = _
  rw [Addr.add_lit, Nat.zero_add, World.cell?_alloc_at _ _ _ _ rfl]
  simpa using hj
theorem step_append_own {P : Program} {ops : Array Oper} {o : Oper} {a : Act} {w : World} {K : Act → World → Prop} {Q : Exit → Act → World → Prop} {E : Prop} (hgd : o.guard = none) (s x : Operand) (t : TypeId)
    (ho : o.op = .call { callee := .builtin .append, args := #[s, x], argTypes := #[t, t] })
    (base : Nat) (e : TypeId) (i : TypeInfo) (z : Value) (size bytes : Nat) (ht : P.underlying t = some (.slice e)) (hi : P.info? e = some i) (hz : i.zero = some z)
    (hsize : i.size = size) (hby : i.bytes = bytes) (hzs : z.cells.size = size) (hsz : 0 < size)
    (v : Value) (n : Nat) (xs : List Value) (hs : a.eval s = v) (hown : w.ownsRow base e size v n xs)
    (ad : Addr) (m c : Nat) (news : List Value) (hx : a.eval x = .slice (some ad) m c) (hl : news.length = m * size) (hnews : ∀ j u, news[j]? = some u → w.cell? (ad.add j) = some u) (h1 : ∀ u ∈ news, u.oneCell' = true)
    (h63 : n + m ≤ maxLen) (hbytes : (n + m) * bytes ≤ 140737488355328) (hbase : base ≤ w.heap.size)
    (h : ∀ v' w', w'.ownsRow base e size v' (n + m) (xs ++ news) → w.grownBy w' v.ownBlock → (v' = .slice none 0 0 ↔ v = .slice none 0 0 ∧ m = 0) → K (a.put o.dst v') w') :
    if Region.wanted o (yielded ops a.tmps) = true then Oper.wp P o a w K Q else E := by
  have hw : Region.wanted o (yielded ops a.tmps) = true := by simp [Region.wanted, hgd]
  rw [if_pos hw]
  exact wp_append_own w s x t ho base e i z size bytes ht hi hz hsize hby hzs hsz v n xs hs hown ad m c news hx hl hnews h1 h63 hbytes hbase h

theorem hex_next {w1 : World} {base k : Nat} {v' : Value} {l l' : List UInt8} {c : UInt8} (h : w1.ownsRow base 5 1 v' (2 * k + 2) (cellsB l ++ [.int .u8 ((hexD (c.toNat / 16)).toNat : Int), .int .u8 ((hexD (c.toNat % 16)).toNat : Int)])) (hl : l' = l ++ hexC c) : w1.ownsRow base 5 1 v' (2 * (k + 1)) (cellsB l') := by
  subst hl
  rw [cellsB_append]
  exact h
theorem hex_below {w wr w1 : World} {base n : Nat} {v : Value} {e : TypeId} {xs : List Value} {o : Obj} (hb : Below base w wr) (hown : wr.ownsRow base e 1 v n xs) (hsz : base ≤ wr.heap.size) (hg : (wr.alloc o).drew.grownBy w1 v.ownBlock) : Below base w w1 :=
  ((hb.alloc hsz o).drew).grown hg (by simp; omega) (fun k hk => (hown.lt k hk).1)

theorem hex_block {w w1 : World} {b n : Nat} {v : Value} {T e : TypeId} {xs : List Value} {o : Obj} (h : w.heap[b]? = some (.cells #[v] T (0, 0))) (hown : w.ownsRow (b + 1) e 1 v n xs) (hg : (w.alloc o).drew.grownBy w1 v.ownBlock) : w1.heap[b]? = some (.cells #[v] T (0, 0)) := by
  have hlt : b < w.heap.size := (Array.getElem?_eq_some_iff.1 h).1
  rw [hg.block b (by simp; omega) (fun e => by have := (hown.lt b e.symm).1; omega)]
  exact (Below.heap_alloc w o b hlt).trans h
theorem hex_cell {w w1 : World} {b n : Nat} {v : Value} {T e : TypeId} {xs : List Value} {o : Obj} (h : w.heap[b]? = some (.cells #[v] T (0, 0))) (hown : w.ownsRow (b + 1) e 1 v n xs) (hg : (w.alloc o).drew.grownBy w1 v.ownBlock) : w1.cell? ⟨b, 0, none⟩ = some v := by
  simp [World.cell?, hex_block h hown hg]
theorem hex_free {w w1 : World} {b n : Nat} {v : Value} {T e : TypeId} {xs : List Value} {o : Obj} (h : w.heap[b]? = some (.cells #[v] T (0, 0))) (hown : w.ownsRow (b + 1) e 1 v n xs) (hg : (w.alloc o).drew.grownBy w1 v.ownBlock) : w1.frozen? ⟨b, 0, none⟩ = false := by
  simp [World.frozen?, hex_block h hown hg]
end Go.Proofs.YthobdeidjagnhaaDoor.HexOf
