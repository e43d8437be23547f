/- Contracts: for every string of at most 2^20 bytes, the program's HexOf and the model's return its bytes' hexadecimal digits. Condition: the string's length. -/
import Derived.Test.YthdhlebgojimcaaRowG
import Derived.Test.YthdhlebgojimcaaSplitAnyLaw
import Derived.BigQuiet
import Derived.Deep.QuietTactic
import Derived.Deep.RegionLaw
import Derived.StillTailTactics
import Derived.Laws.BitsAllLaws
namespace Go.Proofs.Ythdhlebgojimcaa.HexOf
open Go.ChangeShapes Go.WideShapes Go.ChangeAt Go.RowKit
open RowG
open SplitAny (own_fresh own_nil)
set_option linter.unusedVariables false

/-- A digit's byte. -/
def hexD (k : Nat) : UInt8 := [48, 49, 50, 51, 52, 53, 54, 55, 56, 57, 97, 98, 99, 100, 101, 102].getD k 0
def hexC (c : UInt8) : List UInt8 := [hexD (c.toNat / 16), hexD (c.toNat % 16)]
def hexL (l : List UInt8) : List UInt8 := l.flatMap hexC
theorem hexL_snoc (l : List UInt8) (c : UInt8) : hexL (l ++ [c]) = hexL l ++ hexC c := by simp [hexL]
theorem hexL_length (l : List UInt8) : (hexL l).length = 2 * l.length := by
  induction l with
  | nil => rfl
  | cons a l ih => simp [hexL, hexC] at ih ⊢; omega
theorem take_snoc (s : ByteArray) (k : Nat) (h : k < s.size) : s.data.toList.take (k + 1) = s.data.toList.take k ++ [s[k]] := by
  rw [List.take_succ_eq_append_getElem (by simpa using h)]; rfl
theorem hex_index (k : Nat) (h : k < 16) (q : Int) (hq : q = (k : Int)) (w : World) :
    (Instr.index 9 (.string ⟨#[48, 49, 50, 51, 52, 53, 54, 55, 56, 57, 97, 98, 99, 100, 101, 102]⟩) (.int .u8 q)).run Try.prog w = .ok (.int .u8 ((hexD k).toNat : Int)) w := by
  subst hq
  rcases (show k = 0 ∨ k = 1 ∨ k = 2 ∨ k = 3 ∨ k = 4 ∨ k = 5 ∨ k = 6 ∨ k = 7 ∨ k = 8 ∨ k = 9 ∨ k = 10 ∨ k = 11 ∨ k = 12 ∨ k = 13 ∨ k = 14 ∨ k = 15 from by omega) with rfl | rfl | rfl | rfl | rfl | rfl | rfl | rfl | rfl | rfl | rfl | rfl | rfl | rfl | rfl | rfl
  all_goals kernel_rfl
theorem and15 (c : UInt8) : bits .and .u8 (c.toNat : Int) 15 = (c.toNat : Int) % 16 := by
  have h := u8_and_nat c.toNat 15 c.toNat_lt (by omega)
  rw [show ((15 : Nat) : Int) = 15 from rfl] at h
  rw [h, show (15 : Nat) = 2 ^ 4 - 1 from rfl, Nat.and_two_pow_sub_one_eq_mod]
  rfl

theorem own_drew {w : World} {base : Nat} {e : TypeId} {v : Value} {n : Nat} {xs : List Value} (h : w.ownsRow base e 1 v n xs) (o : Obj) : (w.alloc o).drew.ownsRow base e 1 v n xs :=
  SplitAny.own_of_heap (w' := (w.alloc o).drew) (World.ownsRow.alloc h o) rfl
theorem own_form {w : World} {base : Nat} {e : TypeId} {v : Value} {n : Nat} {xs : List Value} (h : w.ownsRow base e 1 v n xs) (hn : 0 < n) : ∃ g cap, v = .slice (some ⟨g, 0, none⟩) n cap ∧ base ≤ g := by
  rcases h.2 with ⟨_, rfl⟩ | ⟨g, cap, cur, rfl, hb, _⟩
  · omega
  · exact ⟨g, cap, rfl, hb⟩
theorem cell_two_new (w : World) (x y : Value) (T : TypeId) : ∀ j u, [x, y][j]? = some u → (w.alloc (.cells #[x, y] T)).drew.cell? ((⟨w.heap.size, 0, none⟩ : Addr).add j) = some u := by
  intro j u hj
  show (w.alloc (.cells #[x, y] T)).cell? _ = _
  rw [Addr.add_lit, Nat.zero_add, World.cell?_alloc_at _ _ _ _ rfl]
  simpa using hj
theorem step_append_own {P : Program} {ops : Array Oper} {o : Oper} {a : Act} {w : World} {K : Act → World → Prop} {Q : Exit → Act → World → Prop} {E : Prop} (hgd : o.guard = none) (s x : Operand) (t : TypeId)
    (ho : o.op = .call { callee := .builtin .append, args := #[s, x], argTypes := #[t, t] })
    (base : Nat) (e : TypeId) (i : TypeInfo) (z : Value) (size bytes : Nat) (ht : P.underlying t = some (.slice e)) (hi : P.info? e = some i) (hz : i.zero = some z)
    (hsize : i.size = size) (hby : i.bytes = bytes) (hzs : z.cells.size = size) (hsz : 0 < size)
    (v : Value) (n : Nat) (xs : List Value) (hs : a.eval s = v) (hown : w.ownsRow base e size v n xs)
    (ad : Addr) (m c : Nat) (news : List Value) (hx : a.eval x = .slice (some ad) m c) (hl : news.length = m * size) (hnews : ∀ j u, news[j]? = some u → w.cell? (ad.add j) = some u) (h1 : ∀ u ∈ news, u.oneCell' = true)
    (h63 : n + m ≤ maxLen) (hbytes : (n + m) * bytes ≤ 140737488355328) (hbase : base ≤ w.heap.size)
    (h : ∀ v' w', w'.ownsRow base e size v' (n + m) (xs ++ news) → w.grownBy w' v.ownBlock → (v' = .slice none 0 0 ↔ v = .slice none 0 0 ∧ m = 0) → K (a.put o.dst v') w') :
    if Region.wanted o (yielded ops a.tmps) = true then Oper.wp P o a w K Q else E := by
  have hw : Region.wanted o (yielded ops a.tmps) = true := by simp [Region.wanted, hgd]
  rw [if_pos hw]
  exact wp_append_own w s x t ho base e i z size bytes ht hi hz hsize hby hzs hsz v n xs hs hown ad m c news hx hl hnews h1 h63 hbytes hbase h

theorem hex_next {w1 : World} {base k : Nat} {v' : Value} {l l' : List UInt8} {c : UInt8} (h : w1.ownsRow base 5 1 v' (2 * k + 2) (cellsB l ++ [.int .u8 ((hexD (c.toNat / 16)).toNat : Int), .int .u8 ((hexD (c.toNat % 16)).toNat : Int)])) (hl : l' = l ++ hexC c) : w1.ownsRow base 5 1 v' (2 * (k + 1)) (cellsB l') := by
  subst hl
  rw [cellsB_append]
  exact h
theorem hex_below {w wr w1 : World} {base n : Nat} {v : Value} {e : TypeId} {xs : List Value} {o : Obj} (hb : Below base w wr) (hown : wr.ownsRow base e 1 v n xs) (hsz : base ≤ wr.heap.size) (hg : (wr.alloc o).drew.grownBy w1 v.ownBlock) : Below base w w1 :=
  ((hb.alloc hsz o).drew).grown hg (by simp; omega) (fun k hk => (hown.lt k hk).1)

set_option maxHeartbeats 400000 in
theorem spec_any (s : ByteArray) (w : World) (hs : s.size ≤ 1048576) :
    Calls Try.prog 25 #[.string s] w fun e w' => e = .returned (.string ⟨(hexL s.data.toList).toArray⟩) ∧ Below w.heap.size w w' := by
  obtain ⟨i0, hi, hz0, hz1, hz2⟩ := info_parts byteInfo
  go_enter Try.func25, Try.ntmps25
  go_wp2
  go_loopw [3, 4] (fun v i wr => ∃ k : Nat, k ≤ s.size ∧ i = .int .i64 k ∧ wr.ownsRow w.heap.size 5 1 v (2 * k) (cellsB (hexL (s.data.toList.take k))) ∧ Below w.heap.size w wr) (fun _ i _ => s.size - (intOf i).toNat)
  case atStart => exact ⟨0, Nat.zero_le _, rfl, own_fresh w _, (Below.refl _ _).alloc (Nat.le_refl _) _⟩
  case round =>
    obtain ⟨k, hk, rfl, hown, hb⟩ := hrel
    have HOWN := Lib.hid hown
    have HB := Lib.hid hb
    have hsz := hb.size
    clear hown hb
    by_cases hlt : k < s.size
    · have HS := Lib.hid (show hexL (s.data.toList.take (k + 1)) = hexL (s.data.toList.take k) ++ hexC s[k] by rw [take_snoc s k hlt, hexL_snoc])
      have hc := s[k].toNat_lt
      have x1 := fun w => hex_index (s[k].toNat / 16) (by omega) ((s[k].toNat : Int) / 16) (by omega) w
      have x2 := fun w => hex_index (s[k].toNat % 16) (by omega) ((s[k].toNat : Int) % 16) (by omega) w
      have x3 : IntKind.u8.wrap ((s[k].toNat : Int) / 16) = (s[k].toNat : Int) / 16 := by rw [IntKind.wrap_u8']; omega
      have x4 : IntKind.u8.wrap ((s[k].toNat : Int) % 16) = (s[k].toNat : Int) % 16 := by rw [IntKind.wrap_u8']; omega
      have x5 : ((s[k].toNat : Int)).tmod 16 = (s[k].toNat : Int) % 16 := Int.tmod_eq_emod_of_nonneg (by omega)
      go_wp2
      go_region_law (refine step_append_own rfl _ _ 22 rfl w.heap.size 5 i0 (.int .u8 0) 1 1 Try.underlying22 hi hz0 hz1 hz2 rfl (by decide) _ _ _ rfl (own_drew HOWN.out _) ⟨wr.heap.size, 0, none⟩ 2 2 [.int .u8 ((hexD (s[k].toNat / 16)).toNat : Int), .int .u8 ((hexD (s[k].toNat % 16)).toNat : Int)] rfl rfl (cell_two_new _ _ _ _) (by simp [Value.oneCell']) (by unfold maxLen; omega) (by omega) (by simp; omega) ?_; intro v' w1 hown1 hg1 _; have HO1 := Lib.hid hown1; have HG1 := Lib.hid hg1; clear hown1 hg1)
      all_goals
        go_wp2
        go_roundw
        case rel => exact ⟨k + 1, by omega, by go_num, hex_next HO1.out HS.out, hex_below HB.out HOWN.out hsz HG1.out⟩
        case measure => simp [intOf]; omega
    · have e : s.data.toList.take k = s.data.toList := List.take_of_length_le (by simp; omega)
      have hbk := back_own HOWN.out
      rw [e] at hbk
      go_wp2
      go_ret
      exact ⟨rfl, HB.out⟩

theorem hex_block {w w1 : World} {b n : Nat} {v : Value} {T e : TypeId} {xs : List Value} {o : Obj} (h : w.heap[b]? = some (.cells #[v] T (0, 0))) (hown : w.ownsRow (b + 1) e 1 v n xs) (hg : (w.alloc o).drew.grownBy w1 v.ownBlock) : w1.heap[b]? = some (.cells #[v] T (0, 0)) := by
  have hlt : b < w.heap.size := (Array.getElem?_eq_some_iff.1 h).1
  rw [hg.block b (by simp; omega) (fun e => by have := (hown.lt b e.symm).1; omega)]
  exact (Below.heap_alloc w o b hlt).trans h
theorem hex_cell {w w1 : World} {b n : Nat} {v : Value} {T e : TypeId} {xs : List Value} {o : Obj} (h : w.heap[b]? = some (.cells #[v] T (0, 0))) (hown : w.ownsRow (b + 1) e 1 v n xs) (hg : (w.alloc o).drew.grownBy w1 v.ownBlock) : w1.cell? ⟨b, 0, none⟩ = some v := by
  simp [World.cell?, hex_block h hown hg]
theorem hex_free {w w1 : World} {b n : Nat} {v : Value} {T e : TypeId} {xs : List Value} {o : Obj} (h : w.heap[b]? = some (.cells #[v] T (0, 0))) (hown : w.ownsRow (b + 1) e 1 v n xs) (hg : (w.alloc o).drew.grownBy w1 v.ownBlock) : w1.frozen? ⟨b, 0, none⟩ = false := by
  simp [World.frozen?, hex_block h hown hg]
/-- Block b is the struct, and its row holds these bytes. -/
def IsHex (w : World) (b : Nat) (l : List UInt8) : Prop :=
  ∃ v, w.heap[b]? = some (.cells #[v] 54 (0, 0)) ∧ w.ownsRow (b + 1) 5 1 v l.length (cellsB l)

theorem hex_store {w w1 : World} {b : Nat} {v v' : Value} {l : List UInt8} {c : UInt8} {o : Obj} (h : w.heap[b]? = some (.cells #[v] 54 (0, 0))) (hown : w.ownsRow (b + 1) 5 1 v l.length (cellsB l))
    (hown1 : w1.ownsRow (b + 1) 5 1 v' (l.length + 2) (cellsB l ++ [.int .u8 ((hexD (c.toNat / 16)).toNat : Int), .int .u8 ((hexD (c.toNat % 16)).toNat : Int)])) (hg : (w.alloc o).drew.grownBy w1 v.ownBlock) :
    IsHex (w1.setCell ⟨b, 0, none⟩ v') b (l ++ hexC c) ∧ Below b w (w1.setCell ⟨b, 0, none⟩ v') := by
  have hlt : b < w.heap.size := (Array.getElem?_eq_some_iff.1 h).1
  refine ⟨⟨v', ?_, ?_⟩, ?_⟩
  · exact heap_setCell_same w1 b 0 _ _ v' (hex_block h hown hg)
  · rw [cellsB_append, List.length_append]
    exact ownsRow_setCell_below hown1 (Nat.lt_succ_self b) v'
  · exact ((((Below.refl b w).alloc (by omega) o).drew).grown hg (by simp; omega) (fun k hk => by have := (hown.lt k hk).1; omega)).setCell (Nat.le_refl _) _

set_option maxHeartbeats 400000 in
theorem add_any (w : World) (b : Nat) (l : List UInt8) (c : UInt8) (hl : l.length ≤ 4194304) (h : IsHex w b l) :
    Calls Try.prog 37 #[.pointer (some ⟨b, 0, none⟩), .int .u8 c.toNat] w fun e w' => e = .returned (.tuple #[]) ∧ IsHex w' b (l ++ hexC c) ∧ Below b w w' := by
  obtain ⟨i0, hi, hz0, hz1, hz2⟩ := info_parts byteInfo
  obtain ⟨v, h, hown⟩ := h
  have HH := Lib.hid h
  have HOWN := Lib.hid hown
  have hlt : b < w.heap.size := (Array.getElem?_eq_some_iff.1 h).1
  have c0 : w.cell? ⟨b, 0, none⟩ = some v := by simp [World.cell?, h]
  have f0 : w.frozen? ⟨b, 0, none⟩ = false := by simp [World.frozen?, h]
  have hb := c.toNat_lt
  have x1 := fun w => hex_index (c.toNat / 16) (by omega) ((c.toNat : Int) / 16) (by omega) w
  have x2 := fun w => hex_index (c.toNat % 16) (by omega) ((c.toNat : Int) % 16) (by omega) w
  have x3 := and15 c
  clear h hown
  go_enter Try.func37, Try.ntmps37
  go_wp2
  go_region_law (refine step_append_own rfl _ _ 22 rfl (b + 1) 5 i0 (.int .u8 0) 1 1 Try.underlying22 hi hz0 hz1 hz2 rfl (by decide) _ _ _ rfl (own_drew HOWN.out _) ⟨w.heap.size, 0, none⟩ 2 2 [.int .u8 ((hexD (c.toNat / 16)).toNat : Int), .int .u8 ((hexD (c.toNat % 16)).toNat : Int)] rfl rfl (cell_two_new _ _ _ _) (by simp [Value.oneCell']) (by unfold maxLen; omega) (by omega) (by simp; omega) ?_; intro v' w1 hown1 hg1 _; have c1 := hex_cell HH.out HOWN.out hg1; have f1 := hex_free HH.out HOWN.out hg1; obtain ⟨g', cap', rfl, _⟩ := own_form hown1 (by omega); have HO1 := Lib.hid hown1; have HG1 := Lib.hid hg1; clear hown1 hg1)
  all_goals
    go_end0
    exact ⟨rfl, hex_store HH.out HOWN.out HO1.out HG1.out⟩
end Go.Proofs.Ythdhlebgojimcaa.HexOf
