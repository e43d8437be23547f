/- Contract: the model's NewDisk gives n sectors of zeros in memory of its own, nothing for a number beyond the limits. No condition. -/
import Derived.Test.YtbfbcfnnajaeeaaPadTo
import Derived.Test.YtbfbcfnnajaeeaaIsDisk
import Derived.Test.YtbfbcfnnajaeeaaOwn
import Derived.Test.YtbfbcfnnajaeeaaHexOf
import Derived.Deep.RegionHeld3
namespace Go.Proofs.Ytbfbcfnnajaeeaa.NewD
open Go.ChangeShapes Go.WideShapes Go.ChangeAt Go.RowKit
open Wr (Wt wcells d0)
open Strs (strInfo)
open Dk (D Holds Ok Own RowIn Box Turned)
set_option linter.unusedVariables false

/-- A sector of zeros. -/
def zs : ByteArray := PadTo.padB ⟨#[]⟩ 32
def newV (n : Int) : D := if 0 ≤ n ∧ n ≤ 400 then (List.replicate n.toNat zs, []) else ([], [])
/-- How many sectors the disk in block b has. -/
def lenAt (w : World) (b : Nat) : Nat := match w.cell? ⟨b, 0, none⟩ with | some (.slice _ l _) => l | _ => 0

theorem rep_step {w : World} {base k : Nat} {v : Value} (h : w.ownsRow base 9 1 v (k + 1) ((List.replicate k zs).map Value.string ++ [.string zs])) : w.ownsRow base 9 1 v (k + 1) ((List.replicate (k + 1) zs).map Value.string) := by
  rw [List.replicate_succ', List.map_append]
  exact h

set_option maxRecDepth 100000 in
set_option maxHeartbeats 2000000 in
theorem spec_any (n : Int) (w : World) :
    Calls Try.prog 23 #[.int .i64 n] w fun e w' => ∃ us up, e = .returned (.agg #[us, up]) ∧ Own w' w.heap.size w'.heap.size us up (newV n) ∧ Below w.heap.size w w' := by
  obtain ⟨i0, hi, hz0, hz1, hz2⟩ := info_parts strInfo
  have hb1 := Joins.below_alloc1 w (.cells #[.slice none 0 0, .slice none 0 0] 26)
  have hb2 := hb1.alloc (by simp) (.cells #[.slice none 0 0, .slice none 0 0] 26)
  have bR := Lib.hid (show Box ((w.alloc (.cells #[.slice none 0 0, .slice none 0 0] 26)).alloc (.cells #[.slice none 0 0, .slice none 0 0] 26)) w.heap.size (.slice none 0 0) (.slice none 0 0) 26 from Dk.blk_alloc (Dk.blk_new w _) _)
  have bDs := Dk.blk_new (w.alloc (.cells #[.slice none 0 0, .slice none 0 0] 26)) (.cells #[.slice none 0 0, .slice none 0 0] 26)
  rw [World.size_alloc] at bDs
  have bD := Lib.hid (show Box ((w.alloc (.cells #[.slice none 0 0, .slice none 0 0] 26)).alloc (.cells #[.slice none 0 0, .slice none 0 0] 26)) (w.heap.size + 1) (.slice none 0 0) (.slice none 0 0) 26 from bDs)
  have hsz : ((w.alloc (.cells #[.slice none 0 0, .slice none 0 0] 26)).alloc (.cells #[.slice none 0 0, .slice none 0 0] 26)).heap.size = w.heap.size + 1 + 1 := by simp
  have HB := Lib.hid hb2
  clear hb1 hb2 bDs
  by_cases hn : 0 ≤ n ∧ n ≤ 400
  · rw [show newV n = (List.replicate n.toNat zs, []) from if_pos hn]
    obtain ⟨m, rfl⟩ : ∃ m : Nat, n = m := ⟨n.toNat, by omega⟩
    have hm : m ≤ 400 := by omega
    have HI := Lib.hid (show decide (0 ≤ (m : Int) ∧ (m : Int) ≤ 400) = true from decide_eq_true hn)
    rw [Int.toNat_natCast]
    clear hn
    go_enter Try.func23, Try.ntmps23
    go_wp2_with fail
    refine (IsDisk.in_any (m : Int) 0 400 _).mono ?_
    rw [HI.out]
    rintro e w1 ⟨rfl, rfl⟩
    generalize ((w.alloc (.cells #[.slice none 0 0, .slice none 0 0] 26)).alloc (.cells #[.slice none 0 0, .slice none 0 0] 26)) = w0 at bR bD hsz HB ⊢
    go_wp2_with fail
    go_loopw [] (fun wr => ∃ (k : Nat) (v : Value), k ≤ m ∧ Box wr w.heap.size (.slice none 0 0) (.slice none 0 0) 26 ∧ Box wr (w.heap.size + 1) v (.slice none 0 0) 26 ∧ wr.ownsRow (w.heap.size + 1 + 1) 9 1 v k ((List.replicate k zs).map Value.string) ∧ Below w.heap.size w wr ∧ w.heap.size + 1 + 1 ≤ wr.heap.size) (fun wr => m - lenAt wr (w.heap.size + 1))
    case atStart => exact ⟨0, .slice none 0 0, Nat.zero_le _, bR.out, bD.out, World.ownsRow_nil _ _ _ _, HB.out, by omega⟩
    case round =>
      clear bR bD HB
      obtain ⟨k, v, hk, bR, bD, hown, hB, hs⟩ := hrel
      have HB := Lib.hid hB
      have BR := Lib.hid bR
      have BD := Lib.hid bD
      have HO := Lib.hid hown
      have HLEN := Lib.hid (show lenAt wr (w.heap.size + 1) = k by
        obtain ⟨a, c, rfl⟩ := Dk.slice_of hown
        unfold lenAt
        rw [bD.cells.1])
      obtain ⟨a, c, rfl⟩ := Dk.slice_of hown
      obtain ⟨x0, x1, x2, x3⟩ := Dk.Box.four bD
      clear bR bD hown hB
      by_cases hlt : k < m
      · go_wp2
        go_region_law (first | (go_simp; go_at_call 55; refine (PadTo.spec_any ⟨#[]⟩ 32 _ (by decide)).mono ?_; rintro e w2 ⟨rfl, hb⟩; have s2 := hb.size; simp only [World.size_drew] at s2; replace HB := Lib.hid (HB.out.drew.trans (hb.mono HB.out.drew.size)); replace BR := Lib.hid (Dk.Box.below (show Box wr.drew _ _ _ _ from BR.out) hb); replace BD := Lib.hid (Dk.Box.below (show Box wr.drew _ _ _ _ from BD.out) hb); replace HO := Lib.hid (Strs.own_below (show wr.drew.ownsRow _ _ _ _ _ _ from HO.out) hb); clear hb; obtain ⟨z0, z1, z2, z3⟩ := Dk.Box.four BD.out; have z9 := (Dk.Box.cells (show Box (w2.alloc (.cells #[.string (PadTo.padB ⟨#[]⟩ 32)] 9)) (w.heap.size + 1) _ _ _ from Dk.blk_alloc BD.out _)).1) | (refine HexOf.step_append_own rfl _ _ 23 rfl (w.heap.size + 1 + 1) 9 i0 (.string ⟨#[]⟩) 1 16 Try.underlying23 hi hz0 hz1 hz2 rfl (by decide) _ _ _ rfl (World.ownsRow.alloc HO.out _) ⟨w2.heap.size, 0, none⟩ 1 1 [.string (PadTo.padB ⟨#[]⟩ 32)] rfl rfl (cell_one_new _ _ _) (by simp [Value.oneCell']) (by unfold maxLen; omega) (by omega) (by simp; omega) ?_; intro v' w1 hown1 hg1 _; obtain ⟨a', c', rfl⟩ := Dk.slice_of hown1; have HO1 := Lib.hid (rep_step hown1); have s1 := hg1.size; simp only [World.size_alloc] at s1; have ht := Turned.of_grown (lo := w.heap.size + 1 + 1) (hi := w1.heap.size) hg1 (fun q hq => ⟨by have := (HO.out.lt q hq).1; omega, by have := (HO.out.lt q hq).2; omega⟩); replace HB := Lib.hid ((HB.out.alloc (by omega) _).trans (ht.below (by omega) (by simp only [World.size_alloc]; omega))); replace BR := Lib.hid (Dk.Box.turned (Dk.blk_alloc BR.out _) ht (by omega)); replace BD := Lib.hid (Dk.Box.turned (Dk.blk_alloc BD.out _) ht (by omega)); clear hown1 hg1 ht; obtain ⟨q0, q1, q2, q3⟩ := Dk.Box.four BD.out))
        all_goals
          have hcs := World.cell?_setCell_same' w1 ⟨w.heap.size + 1, 0, none⟩ (.slice a' (k + 1) c') (by rw [q0]; rfl)
          have hst := Dk.Box.other (i := 0) (u := .slice a' (k + 1) c') (c := w.heap.size + 1) BR.out (by omega)
          have hst2 := Dk.Box.set0 (u := .slice a' (k + 1) c') BD.out
          have hrow := Dk.row_set (i := 0) (u := .slice a' (k + 1) c') HO1.out BD.out (by decide)
          have hBs := HB.out.setCell (p := ⟨w.heap.size + 1, 0, none⟩) (Nat.le_succ _) (.slice a' (k + 1) c')
          have hss : (w1.setCell ⟨w.heap.size + 1, 0, none⟩ (.slice a' (k + 1) c')).heap.size = w1.heap.size := World.size_setCell ..
          have hlen : lenAt (w1.setCell ⟨w.heap.size + 1, 0, none⟩ (.slice a' (k + 1) c')) (w.heap.size + 1) = k + 1 := by unfold lenAt; rw [hcs]
          generalize w1.setCell ⟨w.heap.size + 1, 0, none⟩ (.slice a' (k + 1) c') = w9 at hcs hst hst2 hrow hBs hss hlen ⊢
          go_wp2
          go_roundw
          case rel => exact ⟨k + 1, _, by omega, hst, hst2, hrow, hBs, by omega⟩
          case measure => rw [HLEN.out, hlen]; omega
      · obtain rfl : k = m := by omega
        obtain ⟨y0, y1, y2, y3⟩ := Dk.Box.four BR.out
        go_wp2
        have hO := (show Own wr (w.heap.size + 1 + 1) wr.heap.size (.slice a k c) (.slice none 0 0) (List.replicate k zs, []) from ⟨by rw [List.length_replicate]; exact RowIn.fresh HO.out, ⟨World.ownsRow_nil _ _ _ _, fun k hk => by cases hk⟩⟩)
        obtain ⟨hO', hF, hS⟩ := Dk.Own.into hO BR.out
        have hBB := Dk.below_into (b := w.heap.size) HB.out (Nat.le_refl _) (.slice a k c) (.slice none 0 0)
        generalize (wr.setCell ⟨w.heap.size, 0, none⟩ (.slice a k c)).setCell ⟨w.heap.size, 1, none⟩ (.slice none 0 0) = wf at hO' hF hS hBB ⊢
        obtain ⟨c0, c1, _, _⟩ := Dk.Box.four hF
        exact bodyPost_ret (v := .agg #[(.slice a k c), .slice none 0 0]) (by simp [results, Try.results23, go_sem, c0, c1]) rfl ⟨_, _, rfl, hO'.wide (by omega) (by rw [hS]; omega), hBB⟩
  · have HI := Lib.hid (show decide (0 ≤ n ∧ n ≤ 400) = false from decide_eq_false hn)
    rw [show newV n = ([], []) from if_neg hn]
    clear hn
    go_enter Try.func23, Try.ntmps23
    go_wp2_with fail
    refine (IsDisk.in_any n 0 400 _).mono ?_
    rw [HI.out]
    rintro e w1 ⟨rfl, rfl⟩
    generalize ((w.alloc (.cells #[.slice none 0 0, .slice none 0 0] 26)).alloc (.cells #[.slice none 0 0, .slice none 0 0] 26)) = w0 at bR bD hsz HB ⊢
    obtain ⟨x0, x1⟩ := bD.out.cells
    obtain ⟨y0, y1, y2, y3⟩ := bR.out.four
    go_wp2
    have hO := (show Own w0 w.heap.size w0.heap.size (.slice none 0 0) (.slice none 0 0) ([], []) from ⟨⟨World.ownsRow_nil _ _ _ _, fun k hk => by cases hk⟩, ⟨World.ownsRow_nil _ _ _ _, fun k hk => by cases hk⟩⟩)
    obtain ⟨hO', hF, hS⟩ := Dk.Own.into hO bR.out
    have hBB := Dk.below_into (b := w.heap.size) HB.out (Nat.le_refl _) (.slice none 0 0) (.slice none 0 0)
    generalize (w0.setCell ⟨w.heap.size, 0, none⟩ (.slice none 0 0)).setCell ⟨w.heap.size, 1, none⟩ (.slice none 0 0) = wf at hO' hF hS hBB ⊢
    obtain ⟨c0, c1, _, _⟩ := Dk.Box.four hF
    exact bodyPost_ret (v := .agg #[(.slice none 0 0), .slice none 0 0]) (by simp [results, Try.results23, go_sem, c0, c1]) rfl ⟨_, _, rfl, hO'.wide (by omega) (by rw [hS]; omega), hBB⟩
end Go.Proofs.Ytbfbcfnnajaeeaa.NewD
