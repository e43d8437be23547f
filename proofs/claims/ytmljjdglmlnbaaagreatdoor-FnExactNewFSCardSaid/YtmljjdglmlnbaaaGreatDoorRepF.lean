/- Contract: the library's slices.Repeat of one string (as Repeat, where no disk is near): n of them in a row of the call's own. Conditions: n is at most 2^30. -/
import Derived.Test.YtmljjdglmlnbaaaGreatDoorShelf
import Derived.Test.YtmljjdglmlnbaaaGreatDoorStrs
import Derived.Test.YtmljjdglmlnbaaaGreatDoorApp
import Derived.Laws.CopyOwn
import Derived.Laws.OwnMore
import Derived.Deep.RegionHeld3
namespace Go.Proofs.YtmljjdglmlnbaaaGreatDoor.Rep
open Go.ChangeShapes Go.WideShapes Go.ChangeAt Go.RowKit
open Strs (strInfo)
set_option linter.unusedVariables false

/-- The row when k of its m elements are laid. -/
def part (z : ByteArray) (m k : Nat) : List Value := List.replicate k (.string z) ++ List.replicate (m - k) (.string ⟨#[]⟩)
theorem part_length (z : ByteArray) (m k : Nat) (h : k ≤ m) : (part z m k).length = m := by simp [part]; omega
theorem part_zero (z : ByteArray) (m : Nat) : part z m 0 = List.replicate m (.string ⟨#[]⟩) := by simp [part]
theorem part_all (z : ByteArray) (m : Nat) : part z m m = List.replicate m (.string z) := by simp [part]
theorem part_get (z : ByteArray) (m k j : Nat) (h : j < k) : (part z m k)[j]? = some (.string z) := by
  rw [part, List.getElem?_append_left (by simpa using h)]
  simp [h]
theorem part_step (z : ByteArray) (m k c : Nat) (h : k + c ≤ m) : splice (part z m k) k (List.replicate c (.string z)) = part z m (k + c) := by
  unfold splice part
  rw [List.take_append_of_le_length (by simp), List.take_of_length_le (by simp)]
  rw [List.drop_append, List.drop_eq_nil_of_le (by simp), List.nil_append, List.length_replicate, List.length_replicate, List.drop_replicate, ← List.append_assoc, List.replicate_append_replicate]
  congr 2
  omega
theorem whole {w : World} {base : Nat} {e : TypeId} {g n : Nat} {xs : List Value} (h : w.ownsRow base e 1 (.slice (some ⟨g, 0, none⟩) n n) n xs) : w.heap[g]? = some (.cells xs.toArray e (0, 0)) ∧ base ≤ g ∧ n ≤ maxLen := by
  rcases h.2 with ⟨hv, _⟩ | ⟨g', cap, cur, hv, hb, hg, h1, h2, h3, h4⟩
  · cases hv
  · cases hv
    refine ⟨?_, hb, h2⟩
    rw [hg, ← h4, List.take_of_length_le (by simp; omega)]
theorem owned {w : World} {base : Nat} {e : TypeId} {g n : Nat} {xs : List Value} (h : w.heap[g]? = some (.cells xs.toArray e (0, 0))) (hb : base ≤ g) (hn : n ≤ maxLen) (hl : xs.length = n) : w.ownsRow base e 1 (.slice (some ⟨g, 0, none⟩) n n) n xs :=
  ⟨by omega, .inr ⟨g, n, xs.toArray, rfl, hb, h, Nat.le_refl _, hn, by simp; omega, by subst hl; simp⟩⟩
theorem cell_at {w : World} {g : Nat} {xs : List Value} {e : TypeId} (h : w.heap[g]? = some (.cells xs.toArray e (0, 0))) (j : Nat) : w.cell? ((⟨g, 0, none⟩ : Addr).add j) = xs[j]? := by
  rw [Addr.add_lit, Nat.zero_add]
  simp [World.cell?, h]

set_option maxRecDepth 100000 in
set_option maxHeartbeats 2000000 in
theorem rep_any (w : World) (bx cx : Nat) (z : ByteArray) (m : Nat) (hm : m ≤ 1073741824) (hx : w.cell? ⟨bx, 0, none⟩ = some (.string z)) :
    Calls Tryz.prog 28 #[.slice (some ⟨bx, 0, none⟩) 1 cx, .int .i64 m] w fun e w' => ∃ v, e = .returned v ∧ w'.ownsRow w.heap.size 9 1 v m (List.replicate m (.string z)) ∧ Below w.heap.size w w' := by
  obtain ⟨i0, hi, hz0, hz1, hz2⟩ := info_parts strInfo
  have hbx : bx < w.heap.size := World.block_lt_of_cell? w _ hx
  have hro : i0.bytes * m ≤ 281474976710656 := by rw [hz2]; omega
  have HRO := Lib.hid hro
  have HZ2 := Lib.hid hz2
  clear hro hz2
  go_enter Tryz.func28, Tryz.ntmps28
  go_wp2_with fail
  have hmul := Tryz.bits_Mul 1 m (by omega) (by omega) w
  rw [Nat.one_mul, Nat.div_eq_of_lt (by omega), Nat.mod_eq_of_lt (by omega)] at hmul
  refine hmul.mono ?_
  rintro e w1 ⟨rfl, h⟩
  obtain rfl := h.symm
  clear hmul h
  go_wp2_with (at_make; refine wpList_make_full _ rfl _ _ 26 rfl w.heap.size 9 i0 (.string ⟨#[]⟩) 1 Tryz.underlying26 hi hz0 hz1 .i64 .i64 _ _ m rfl rfl rfl rfl ?c1 ?c2 ?c3 ?_)
  case c1 => exact HRO.out
  case c2 => unfold maxLen; omega
  case c3 => exact Nat.le_refl _
  intro w1 hown1 hg1
  try rw [toList_madeCells_one] at hown1
  try rw [Nat.mul_one] at hown1
  rw [← part_zero z m] at hown1
  obtain ⟨hG, _, _⟩ := whole hown1
  have HG := Lib.hid hG
  have HB := Lib.hid (show Below w.heap.size w w1 from (Below.refl _ _).grown hg1 (Nat.le_refl _) (fun k hk => by cases hk))
  have hx1 := (HB.out.cell (p := ⟨bx, 0, none⟩) hbx).trans hx
  clear hown1 hg1 hG
  have HL := fun k h => Lib.hid (part_length z m k h)
  have hT : m ≤ maxLen := by unfold maxLen; omega
  have HT := Lib.hid hT
  clear hT
  obtain ⟨c, hc, hc1⟩ : ∃ c, c = Nat.min 1 m ∧ c ≤ m := ⟨_, rfl, Nat.min_le_right _ _⟩
  obtain ⟨cs, hcs⟩ : ∃ cs, cs = List.replicate c (Value.string z) := ⟨_, rfl⟩
  have hcl : cs.length = c := by rw [hcs]; simp
  have HCS := Lib.hid hcs
  have HC := Lib.hid hc
  have hsz := HB.out.size
  clear hc hcs
  go_wp2_with (with_reducible refine wpList_copy_splice rfl _ _ 26 26 rfl 9 Tryz.underlying26 ?d1 _ _ _ _ _ _ rfl rfl w.heap.size 0 (part z m 0) 9 HG.out cs ?d2 ?d3 ?d4 ?d5 w.heap.size w HB.out (Nat.le_refl _) ?_)
  case d1 => rw [hi]; simp [hz1]
  case d2 => rw [hcl]; exact HC.out
  case d3 =>
    intro h
    try refine ⟨rfl, _, rfl, ?_⟩
    intro j v hj
    rw [HCS.out] at hj
    have hj0 : j < c := by
      have := (List.getElem?_eq_some_iff.1 hj).1
      simpa using this
    have : c ≤ 1 := by rw [HC.out]; exact Nat.min_le_left _ _
    obtain rfl : j = 0 := by omega
    try rw [Addr.add_lit, Nat.add_zero]
    rw [List.eq_of_mem_replicate (List.mem_of_getElem? hj)]; exact hx1
  case d4 => rw [part_length z m 0 (Nat.zero_le _), hcl]; omega
  case d5 => intro v hv; rw [HCS.out] at hv; rw [List.eq_of_mem_replicate hv]; rfl
  intro w2 hg2 hb2
  rw [HCS.out] at hg2
  have HG2 := Lib.hid (show w2.heap[w.heap.size]? = some (.cells (part z m c).toArray 9 (0, 0)) from by
    have := hg2.out
    rw [part_step z m 0 c (by omega), Nat.zero_add] at this
    exact this)
  have HB2 := Lib.hid hb2
  clear hg2 hb2 HG HB hx1 hsz
  try rw [show goInt cs.length = .int .i64 (c : Int) by rw [hcl]; rfl]
  go_wp2
  go_loopw [8] (fun i wr => ∃ k : Nat, k ≤ m ∧ (m = 0 ∨ 1 ≤ k) ∧ i = .int .i64 k ∧ wr.heap[w.heap.size]? = some (.cells (part z m k).toArray 9 (0, 0)) ∧ Below w.heap.size w wr) (fun i _ => m - (intOf i).toNat)
  case atStart => exact ⟨c, hc1, by have : c = min 1 m := HC.out; omega, rfl, HG2.out, HB2.out⟩
  case round =>
    clear HG2 HB2
    obtain ⟨k, hk, hk1, rfl, hg, hb⟩ := hrel
    have HGK := Lib.hid hg
    have HBK := Lib.hid hb
    clear hg hb
    by_cases hlt : k < m
    · obtain ⟨q, hq⟩ : ∃ q, q = Nat.min k (m - k) := ⟨_, rfl⟩
      have hqk : q ≤ k := by rw [hq]; exact Nat.min_le_left _ _
      have hqm : q ≤ m - k := by rw [hq]; exact Nat.min_le_right _ _
      have hq1 : 1 ≤ q := by have hq' : q = min k (m - k) := hq; omega
      have b1 : (0 : Int) ≤ (k : Int) := by omega
      have b2 : (k : Int) ≤ (m : Int) := by omega
      obtain ⟨qs, hqs⟩ : ∃ qs, qs = List.replicate q (Value.string z) := ⟨_, rfl⟩
      have hql : qs.length = q := by rw [hqs]; simp
      have HQS := Lib.hid hqs
      have HQ := Lib.hid hq
      clear hq hqs
      go_wp2
      have hwr : IntKind.i64.wrap ((k : Int) + (q : Int)) = (k : Int) + (q : Int) := by rw [IntKind.wrap_i64]; omega
      have hBB := HBK.out
      go_region_held3 (fun w' => Below w.heap.size w w') (first | assumption | exact Below.drew (by assumption)) ((refine step_copy_splice rfl _ _ 26 26 rfl 9 Tryz.underlying26 (by rw [hi]; simp [hz1]) _ _ _ _ _ _ rfl rfl w.heap.size k (part z m k) 9 HGK.out qs (by rw [hql]; exact HQ.out) (fun h => ⟨by simp [Addr.add]; omega, _, rfl, fun j v hj => by rw [HQS.out] at hj; have hj0 : j < q := by { have := (List.getElem?_eq_some_iff.1 hj).1; simpa using this }; change wr.cell? ((⟨w.heap.size, 0, none⟩ : Addr).add j) = some v; rw [cell_at HGK.out j, part_get z m k j (by omega)]; rw [List.eq_of_mem_replicate (List.mem_of_getElem? hj)]⟩) (by rw [part_length z m k (by omega), hql]; omega) (fun v hv => by rw [HQS.out] at hv; rw [List.eq_of_mem_replicate hv]; rfl) w.heap.size w HBK.out.drew (Nat.le_refl _) ?_; intro w3 hg3 hb3; have HG3 := Lib.hid (show w3.heap[w.heap.size]? = some (.cells (part z m (k + q)).toArray 9 (0, 0)) from by { have := hg3.out; rw [HQS.out, part_step z m k q (by omega)] at this; exact this }); have HB3 := Lib.hid hb3; clear hg3; try rw [show goInt qs.length = .int .i64 (q : Int) by rw [hql]; rfl]))
      all_goals
        go_wp2
        go_roundw
        case rel => exact ⟨k + q, by omega, .inr (by omega), by go_num, HG3.out, HB3.out⟩
        case measure => simp [intOf]; omega
    · obtain rfl : k = m := by omega
      have hfin := owned (base := w.heap.size) (n := k) HGK.out (Nat.le_refl _) HT.out (part_length z k k (Nat.le_refl _))
      rw [part_all] at hfin
      have HF := Lib.hid hfin
      clear hfin
      go_wp2
      go_ret
      exact ⟨_, rfl, HF.out, HBK.out⟩
end Go.Proofs.YtmljjdglmlnbaaaGreatDoor.Rep
