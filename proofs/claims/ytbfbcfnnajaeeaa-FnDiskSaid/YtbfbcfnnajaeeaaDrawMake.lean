/- Contract: the model's MakeDisk gives a valid disk with 1 to 4 sectors and at most 3 pending writes, in memory of its own. Condition: the code came in. -/
import Derived.Test.YtbfbcfnnajaeeaaDraw
namespace Go.Proofs.Ytbfbcfnnajaeeaa.Draw
open Go.ChangeShapes Go.WideShapes Go.ChangeAt Go.RowKit
open Wr (Wt wcells d0)
open Dk (D Holds Ok Own RowIn Box Turned Fits)
open Cur
set_option linter.unusedVariables false

/-- The code stands behind whatever lets the blocks before it lie. -/
theorem code_at {w w' : World} {cv : Value} {ns : List Nat} (h : CodeIn w w.heap.size cv ns) (hb : Below w.heap.size w w') : CodeIn w' w'.heap.size cv ns := by
  obtain ⟨a, cap, rfl, hn, hx, hc⟩ := code_kept h hb.block
  refine ⟨a, cap, rfl, hn, hx, fun hp => ?_⟩
  obtain ⟨b, o, h1, h2, h3⟩ := hc hp
  exact ⟨b, o, h1, Nat.lt_of_lt_of_le h2 hb.size, h3⟩

set_option maxRecDepth 100000 in
set_option maxHeartbeats 1000000 in
theorem make_any (w : World) (cv : Value) (ns : List Nat) (hc : CodeIn w w.heap.size cv ns) :
    Calls Try.prog 11 #[cv] w fun e w' => ∃ (us up : Value) (d : D), e = .returned (.agg #[us, up]) ∧ Ok d ∧ (1 ≤ d.1.length ∧ d.1.length ≤ 4 ∧ d.2.length ≤ 3) ∧ Own w' w.heap.size w'.heap.size us up d ∧ Below w.heap.size w w' := by
  have HC := Lib.hid hc
  have hb1 := Joins.below_alloc1 w (.cells #[.slice none 0 0, .slice none 0 0] 26)
  have bR := Lib.hid (show Box (w.alloc (.cells #[.slice none 0 0, .slice none 0 0] 26)) w.heap.size (.slice none 0 0) (.slice none 0 0) 26 from Dk.blk_new w _)
  have hsz : (w.alloc (.cells #[.slice none 0 0, .slice none 0 0] 26)).heap.size = w.heap.size + 1 := by simp
  have hc1 : CodeIn (w.alloc (.cells #[.slice none 0 0, .slice none 0 0] 26)) (w.alloc (.cells #[.slice none 0 0, .slice none 0 0] 26)).heap.size cv ns := by
    have := code_kept hc (fun k hk => hb1.block k hk)
    obtain ⟨a, cap, h1, h2, h3, h4⟩ := this
    exact ⟨a, cap, h1, h2, h3, fun hp => by obtain ⟨b, o, e1, e2, e3⟩ := h4 hp; exact ⟨b, o, e1, by rw [hsz]; omega, e3⟩⟩
  have HC1 := Lib.hid hc1
  have HB := Lib.hid hb1
  clear hc hc1 hb1
  go_enter Try.func11, Try.ntmps11
  go_wp2_with fail
  generalize w.alloc (.cells #[.slice none 0 0, .slice none 0 0] 26) = w0 at HC1 bR HB hsz ⊢
  have HSZ := Lib.hid hsz
  clear hsz
  refine (new_any _ cv ns HC1.out).mono ?_
  rintro e w1 ⟨rfl, hcur, hb, _⟩
  have HCU := Lib.hid hcur
  have S1 := Lib.hid hb.size
  replace bR := Lib.hid (Box.below bR.out hb)
  replace HB := Lib.hid (HB.out.trans (hb.mono HB.out.size))
  clear hcur hb
  go_wp2_with fail
  refine (draw_any _ _ _ _ _ _ _ HCU.out).mono ?_
  rintro e w2 ⟨us, up, d, i', h', rfl, hok, hlen, hown, _, hg⟩
  have s2 := hg.size
  have s1 := S1.out
  have hsz := HSZ.out
  replace bR := Lib.hid (box_grown bR.out hg (by omega))
  replace HB := Lib.hid (HB.out.grown hg HB.out.size (fun k hk => by cases hk; omega))
  have HO := Lib.hid hown
  have HOK := Lib.hid hok
  clear hown hg hok
  obtain ⟨⟨ua, un, uc, rfl⟩, ⟨ub, um, ud, rfl⟩⟩ := HO.out.forms
  obtain ⟨t0, t1, t2, t3⟩ := Box.four bR.out
  go_wp2
  obtain ⟨hO', hF, hS⟩ := Dk.Own.into HO.out bR.out
  have hBB := Dk.below_into (b := w.heap.size) HB.out (Nat.le_refl _) (.slice ua un uc) (.slice ub um ud)
  generalize (w2.setCell ⟨w.heap.size, 0, none⟩ (.slice ua un uc)).setCell ⟨w.heap.size, 1, none⟩ (.slice ub um ud) = wf at hO' hF hS hBB ⊢
  obtain ⟨c0, c1, _, _⟩ := Dk.Box.four hF
  exact bodyPost_ret (v := .agg #[.slice ua un uc, .slice ub um ud]) (by simp [results, Try.results11, go_sem, c0, c1]) rfl ⟨_, _, d, rfl, HOK.out, hlen, hO'.wide (by omega) (by rw [hS]; omega), hBB⟩
end Go.Proofs.Ytbfbcfnnajaeeaa.Draw
