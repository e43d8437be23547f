/- Contract: the program's NewDisk gives n sectors of zeros in memory of its own, nothing for a number beyond the limits. No condition beyond the int's. -/
import Derived.Test.YtbfbcfnnajaeeaaNewDisk
import Derived.Test.YtbfbcfnnajaeeaaPadToImpl
import Derived.Test.YtbfbcfnnajaeeaaRepeat
namespace Go.Proofs.Ytbfbcfnnajaeeaa.NewD
open Go.ChangeShapes Go.WideShapes Go.ChangeAt Go.RowKit
open Wr (Wt wcells d0)
open Dk (D Holds Ok Own RowIn Box Turned)
set_option linter.unusedVariables false

set_option maxRecDepth 100000 in
set_option maxHeartbeats 2000000 in
theorem impl_any (n : Int) (w : World) :
    Calls Try.prog 24 #[.int .i64 n] w fun e w' => ∃ us up, e = .returned (.agg #[us, up]) ∧ Own w' w.heap.size w'.heap.size us up (newV n) ∧ Below w.heap.size w w' := by
  have hb1 := Joins.below_alloc1 w (.cells #[.slice none 0 0, .slice none 0 0] 26)
  have bR := Lib.hid (show Box (w.alloc (.cells #[.slice none 0 0, .slice none 0 0] 26)) w.heap.size (.slice none 0 0) (.slice none 0 0) 26 from Dk.blk_new w _)
  have hsz : (w.alloc (.cells #[.slice none 0 0, .slice none 0 0] 26)).heap.size = w.heap.size + 1 := by simp
  have HB := Lib.hid hb1
  clear hb1
  by_cases hn : 0 ≤ n ∧ n ≤ 400
  · rw [show newV n = (List.replicate n.toNat zs, []) from if_pos hn]
    obtain ⟨m, rfl⟩ : ∃ m : Nat, n = m := ⟨n.toNat, by omega⟩
    have hm : m ≤ 400 := by omega
    rw [Int.toNat_natCast]
    clear hn
    go_enter Try.func24, Try.ntmps24
    go_wp2_with fail
    generalize w.alloc (.cells #[.slice none 0 0, .slice none 0 0] 26) = w0 at bR hsz HB ⊢
    refine (PadTo.impl_any ⟨#[]⟩ 32 _ (by decide) (by decide)).mono ?_
    rintro e w1 ⟨rfl, hb⟩
    have s1 := hb.size
    replace HB := Lib.hid (HB.out.trans (hb.mono HB.out.size))
    replace bR := Lib.hid (Box.below bR.out hb)
    clear hb
    rw [show PadTo.padB ⟨#[]⟩ 32 = zs from rfl]
    have hba := Joins.below_alloc1 w1 (.cells #[.string zs] 9)
    have HB2 := Lib.hid (HB.out.trans (hba.mono HB.out.size))
    have bR2 := Lib.hid (Box.below bR.out hba)
    have hc : (w1.alloc (.cells #[.string zs] 9)).cell? ⟨w1.heap.size, 0, none⟩ = some (.string zs) := by
      have := cell_one_new w1 (.string zs) 9 0 (.string zs) rfl
      rw [Addr.add_lit] at this; exact this
    clear hba
    go_wp2_with fail
    have hs2 : (w1.alloc (.cells #[.string zs] 9)).heap.size = w1.heap.size + 1 := by simp
    generalize w1.alloc (.cells #[.string zs] 9) = w2 at HB2 bR2 hc hs2 ⊢
    refine (Rep.rep_any w2 w1.heap.size _ zs m (by omega) hc).mono ?_
    rintro e w3 ⟨v, rfl, hown, hb⟩
    obtain ⟨a, c, rfl⟩ := Dk.slice_of hown
    have s3 := hb.size
    have HB3 := Lib.hid (HB2.out.trans (hb.mono HB2.out.size))
    have bR3 := Lib.hid (Box.below bR2.out hb)
    have HO := Lib.hid hown
    clear hb hown hc
    obtain ⟨y0, y1, y2, y3⟩ := Dk.Box.four bR3.out
    go_wp2
    have hO : Own w3 (w.heap.size + 1) w3.heap.size (.slice a m c) (.slice none 0 0) (List.replicate m zs, []) := ⟨by rw [List.length_replicate, List.map_replicate]; exact (RowIn.fresh HO.out).wide (by omega) (Nat.le_refl _), ⟨World.ownsRow_nil _ _ _ _, fun k hk => by cases hk⟩⟩
    obtain ⟨hO', hF, hS⟩ := Dk.Own.into hO bR3.out
    have hBB := Dk.below_into (b := w.heap.size) HB3.out (Nat.le_refl _) (.slice a m c) (.slice none 0 0)
    generalize (w3.setCell ⟨w.heap.size, 0, none⟩ (.slice a m c)).setCell ⟨w.heap.size, 1, none⟩ (.slice none 0 0) = wf at hO' hF hS hBB ⊢
    obtain ⟨c0, c1, _, _⟩ := Dk.Box.four hF
    exact bodyPost_ret (v := .agg #[.slice a m c, .slice none 0 0]) (by simp [results, Try.results24, go_sem, c0, c1]) rfl ⟨_, _, rfl, hO'.wide (by omega) (by rw [hS]; omega), hBB⟩
  · rw [show newV n = ([], []) from if_neg hn]
    obtain ⟨x0, x1, x2, x3⟩ := Dk.Box.four bR.out
    have hlt : n < 0 ∨ 400 < n := by omega
    clear hn
    go_enter Try.func24, Try.ntmps24
    rcases hlt with h0 | h0
    all_goals
      go_wp2
      have hO : Own (w.alloc (.cells #[.slice none 0 0, .slice none 0 0] 26)) w.heap.size (w.alloc (.cells #[.slice none 0 0, .slice none 0 0] 26)).heap.size (.slice none 0 0) (.slice none 0 0) ([], []) := ⟨⟨World.ownsRow_nil _ _ _ _, fun k hk => by cases hk⟩, ⟨World.ownsRow_nil _ _ _ _, fun k hk => by cases hk⟩⟩
      exact bodyPost_ret (v := .agg #[.slice none 0 0, .slice none 0 0]) (by simp [results, Try.results24, go_sem, x0, x1]) rfl ⟨_, _, rfl, hO, HB.out⟩
end Go.Proofs.Ytbfbcfnnajaeeaa.NewD
