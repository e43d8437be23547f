/- Contracts of the law's own helpers over slices of ints: their size, a copy of one, comparing two that read alike; what an argument of that type holds. Conditions: as each theorem types them. -/
import Derived.Test.YtafmpllkehbmeaaGreatDoorDkOpen
namespace Go.Proofs.YtafmpllkehbmeaaGreatDoor.Ni
open Go.ChangeShapes Go.WideShapes Go.ChangeAt Go.RowKit Go.Deep
open Dk (RowIn Turned)
open Strs (own_below grow_trans take_set_succ below_of_drew)
set_option linter.unusedVariables false

/-- A slice value that is nil, or whose cells hold the ints xs. -/
def HoldsN (w : World) (v : Value) (xs : List Int) : Prop :=
  ∃ (a : Option Addr) (cap : Nat), v = .slice a xs.length cap ∧ ∀ i, i < xs.length → ∃ b o, a = some ⟨b, o, none⟩ ∧ b < w.heap.size ∧ w.cell? ⟨b, o + i, none⟩ = some (.int .i64 (xs.getD i 0))
theorem holds_below {w w' : World} {v : Value} {xs : List Int} (h : HoldsN w v xs) (hb : Below w.heap.size w w') : HoldsN w' v xs := by
  obtain ⟨a, cap, rfl, hc⟩ := h
  refine ⟨a, cap, rfl, fun i hi => ?_⟩
  obtain ⟨b, o, rfl, hlt, hcell⟩ := hc i hi
  exact ⟨b, o, rfl, Nat.lt_of_lt_of_le hlt hb.size, by rw [hb.cell (p := ⟨b, _, none⟩) hlt]; exact hcell⟩
theorem holds_of_own {w : World} {base : Nat} {e : TypeId} {v : Value} {n : Nat} {bs : List Int} (h : w.ownsRow base e 1 v n (bs.map (Value.int .i64))) : HoldsN w v bs := by
  have hl := h.1
  simp at hl
  rcases h.2 with ⟨rfl, h0⟩ | ⟨g, cap, cur, rfl, hb, hg, hn, _, _, htake⟩
  · have : bs = [] := List.eq_nil_of_length_eq_zero (by omega)
    subst this
    exact ⟨none, 0, rfl, fun i hi => by simp at hi⟩
  · refine ⟨some ⟨g, 0, none⟩, cap, by rw [hl], fun i hi => ⟨g, 0, rfl, (Array.getElem?_eq_some_iff.1 hg).1, ?_⟩⟩
    rw [Nat.zero_add, h.cellAt i (by omega)]
    simp [List.getD, List.getElem?_eq_getElem hi]
theorem intInfo : (Tryz.prog.info? 3).map (fun i => (i.zero, i.size, i.bytes)) = some (some (.int .i64 0), 1, 8) := by kernel_rfl

set_option maxRecDepth 100000 in
set_option maxHeartbeats 800000 in
/-- A copy, in a row of the call's own. -/
theorem to_any (w : World) (v : Value) (xs : List Int) (hlen : xs.length ≤ 1073741824) (h : HoldsN w v xs) :
    Calls Tryz.prog 203 #[v] w fun e w' => ∃ v', e = .returned v' ∧ w'.ownsRow w.heap.size 3 1 v' xs.length (xs.map (Value.int .i64)) ∧ Below w.heap.size w w' := by
  obtain ⟨i0, hi, hz0, hz1, hz2⟩ := info_parts intInfo
  obtain ⟨a, cap, rfl, hc⟩ := h
  obtain ⟨L, hL⟩ : ∃ L, L = xs.length := ⟨_, rfl⟩
  have HC := Lib.hid hc
  rw [← hL] at hlen ⊢
  have HL := Lib.hid hL
  clear hL hc
  have hro : i0.bytes * L ≤ 281474976710656 := by rw [hz2]; omega
  have HRO := Lib.hid hro
  have HB := Lib.hid hz2
  clear hro hz2
  go_enter Tryz.func203, Tryz.ntmps203
  go_wp2_with (at_make; refine wpList_make_full _ rfl _ _ 31 rfl w.heap.size 3 i0 (.int .i64 0) 1 Tryz.underlying31 hi hz0 hz1 .i64 .i64 _ _ L rfl rfl rfl rfl ?c1 ?c2 ?c3 ?_)
  case c1 => exact HRO.out
  case c2 => unfold maxLen; omega
  case c3 => exact Nat.le_refl _
  intro w1 hown1 hg1
  have HO1 := Lib.hid hown1
  have HB1 := Lib.hid (show Below w.heap.size w w1 from (Below.refl _ _).grown hg1 (Nat.le_refl _) (fun k hk => by cases hk))
  clear hown1 hg1
  go_wp2
  go_loopw [4] (fun iv wr => ∃ (i : Nat) (l : List Value), i ≤ L ∧ iv = .int .i64 i ∧ wr.ownsRow w.heap.size 3 1 (.slice (some ⟨w.heap.size, 0, none⟩) L L) L l ∧ l.take i = (xs.take i).map (Value.int .i64) ∧ Below w.heap.size w wr) (fun iv _ => L - (intOf iv).toNat)
  case atStart => exact ⟨0, _, Nat.zero_le _, rfl, HO1.out, rfl, HB1.out⟩
  case round =>
    obtain ⟨i, l, hi, rfl, hown, htake, hbel⟩ := hrel
    have HO := Lib.hid hown
    have HT := Lib.hid htake
    have HBEL := Lib.hid hbel
    clear hown htake hbel HO1 HB1
    by_cases hlt : i < L
    · have hlx : i < xs.length := by rw [← HL.out]; exact hlt
      have hll : i < l.length := by have := HO.out.1; omega
      obtain ⟨b, o, rfl, hb, hcell⟩ := HC.out i hlx
      have g1 : wr.cell? ⟨b, o + i, none⟩ = some (.int .i64 (xs.getD i 0)) := by
        rw [HBEL.out.cell (p := ⟨b, o + i, none⟩) hb]; exact hcell
      have hx : (xs.take (i + 1)).map (Value.int .i64) = (xs.take i).map (Value.int .i64) ++ [.int .i64 (xs.getD i 0)] := by
        rw [List.take_succ_eq_append_getElem hlx, List.map_append]
        simp [List.getD, List.getElem?_eq_getElem hlx]
      have hcl := HO.out.cellAt i (by omega)
      rw [List.getElem?_eq_getElem hll] at hcl
      have hf := HO.out.frozenAt i
      have hst := HO.out.stored i (.int .i64 (xs.getD i 0))
      have hts := take_set_succ l i (.int .i64 (xs.getD i 0)) hll
      rw [HT.out, ← hx] at hts
      have HST := Lib.hid hst.1
      have HTS := Lib.hid hts
      clear hx hst hts hcell
      generalize l[i] = y at hcl
      generalize xs.getD i 0 = x at g1 HST HTS
      go_wp2
      go_roundw
      case rel => exact ⟨i + 1, _, by omega, by go_num, HST.out, HTS.out, HBEL.out.setCell (Nat.le_refl _) _⟩
      case measure => simp [intOf]; omega
    · obtain rfl : i = L := by omega
      go_wp2
      go_ret
      refine ⟨_, rfl, ?_, HBEL.out⟩
      have h1 := HT.out
      have h2 := HO.out.1
      rw [List.take_of_length_le (by omega), List.take_of_length_le (by rw [HL.out]; exact Nat.le_refl _)] at h1
      rw [← h1]; exact HO.out

set_option maxRecDepth 100000 in
set_option maxHeartbeats 400000 in
/-- Two slices that read alike are found equal; only draws are made. -/
theorem eq_any (w : World) (va vb : Value) (xs : List Int) (hn : xs.length ≤ 1073741824) (ha : HoldsN w va xs) (hb : HoldsN w vb xs) :
    Calls Tryz.prog 205 #[va, vb] w fun e w' => e = .returned (.bool true) ∧ Below w.heap.size w w' := by
  obtain ⟨a, ca, rfl, hca⟩ := ha
  obtain ⟨b, cb, rfl, hcb⟩ := hb
  have HC1 := Lib.hid hca
  have HC2 := Lib.hid hcb
  clear hca hcb
  obtain ⟨L, hL⟩ : ∃ L, L = xs.length := ⟨_, rfl⟩
  rw [← hL] at hn ⊢
  have HL := Lib.hid hL
  clear hL
  go_enter Tryz.func205, Tryz.ntmps205
  go_wp2
  go_loopw [5] (fun i wr => ∃ k m : Nat, k ≤ L ∧ i = .int .i64 k ∧ wr = w.drewN m) (fun i _ => L - (intOf i).toNat)
  case atStart => exact ⟨0, 0, Nat.zero_le _, rfl, rfl⟩
  case round =>
    obtain ⟨k, m, hk, rfl, rfl⟩ := hrel
    by_cases hlt : k < L
    · obtain ⟨b1, o1, rfl, _, g1⟩ := HC1.out k (by rw [← HL.out]; exact hlt)
      obtain ⟨b2, o2, rfl, _, g2⟩ := HC2.out k (by rw [← HL.out]; exact hlt)
      generalize xs.getD k 0 = x at g1 g2
      go_wp2
      go_quiet (fail)
      go_wp2
      go_roundw
      case rel => exact ⟨k + 1, _, by omega, by go_num, by first | rfl | exact World.drewN_drewN ..⟩
      case measure => simp [intOf]; omega
    · go_wp2
      go_ret
      exact ⟨rfl, Joins.below_draws _ w m⟩

/-- The size of a list: its length alone. -/
theorem sz_any (w : World) (v : Value) (xs : List Int) (left : Nat) (hleft : left ≤ 1073741824) (hlen : xs.length ≤ maxLen) (h : HoldsN w v xs) :
    Calls Tryz.prog 199 #[v, .int .i64 left] w fun e w' => e = .returned (.int .i64 (if xs.length ≤ left then ((left - xs.length : Nat) : Int) else -1)) ∧ Below w.heap.size w w' := by
  unfold maxLen at hlen
  obtain ⟨a, cap, rfl, hc⟩ := h
  clear hc
  generalize xs.length = L at hlen ⊢
  by_cases hlt : L ≤ left
  · rw [if_pos hlt]
    go_enter Tryz.func199, Tryz.ntmps199
    go_wp2
    go_ret
    exact ⟨Strs.ret_int (by omega), Below.refl _ _⟩
  · rw [if_neg hlt]
    go_enter Tryz.func199, Tryz.ntmps199
    go_wp2
    go_ret
    exact ⟨rfl, Below.refl _ _⟩
end Go.Proofs.YtafmpllkehbmeaaGreatDoor.Ni
