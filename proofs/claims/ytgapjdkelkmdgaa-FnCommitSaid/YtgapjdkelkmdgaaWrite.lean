/- Contracts: the program's WriteSector and the model's: the disk with one pending write more, in rows of the call's own, or a copy of the disk where the write is refused. Conditions: the lengths. -/
import Derived.Test.YtgapjdkelkmdgaaOwn
import Derived.Test.YtgapjdkelkmdgaaReadSpec
namespace Go.Proofs.Ytgapjdkelkmdgaa.WriteS
open Go.ChangeShapes Go.WideShapes Go.ChangeAt Go.RowKit
open Wr (Wt wcells d0)
open Dk (D Holds Ok Own atS atW)
open ReadS (Has)
set_option linter.unusedVariables false

/-- What WriteSector answers. -/
def writeF (d : D) (i : Int) (data : ByteArray) : D × Bool := if Ok d ∧ Has d i ∧ data.size = 32 ∧ d.2.length ≠ 400 then ((d.1, d.2 ++ [(i, data)]), true) else (d, false)

set_option maxRecDepth 100000 in
set_option maxHeartbeats 8000000 in
theorem spec_any (w : World) (vs vp : Value) (d : D) (i : Int) (data : ByteArray) (h1 : d.1.length ≤ 1073741824) (h2 : d.2.length ≤ 1073741824) (h3 : data.size ≤ 1073741824) (h : Holds w vs vp d) :
    Calls Try.prog 102 #[.agg #[vs, vp], .int .i64 i, .string data] w fun e w' => ∃ us up, e = .returned (.tuple #[.agg #[us, up], .bool (writeF d i data).2]) ∧ Own w' w.heap.size w'.heap.size us up (writeF d i data).1 ∧ Below w.heap.size w w' := by
  obtain ⟨j0, hj, hy0, hy1, hy2⟩ := info_parts Wr.wrInfo
  have H := Lib.hid h
  obtain ⟨a, ca, rfl, _⟩ := atS h.1
  obtain ⟨b, cb, rfl, _⟩ := atW h.2
  clear h
  obtain ⟨L, hL⟩ : ∃ L, L = d.1.length := ⟨_, rfl⟩
  obtain ⟨M, hM⟩ : ∃ M, M = d.2.length := ⟨_, rfl⟩
  have hLb : L ≤ 1073741824 := by omega
  have hMb : M ≤ 1073741824 := by omega
  rw [← hL, ← hM] at H
  rw [← hL, ← hM]
  have HL := Lib.hid hL
  have HM := Lib.hid hM
  clear hL hM
  by_cases hok : Ok d
  · have HOK := Lib.hid (show decide (Ok d) = true from decide_eq_true hok)
    by_cases hi : Has d i
    · have HI := Lib.hid (show decide (0 ≤ i ∧ i ≤ (L : Int) - 1) = true from decide_eq_true ⟨hi.1, by have := hi.2; have := HL.out; omega⟩)
      by_cases h32 : data.size = 32
      · by_cases h400 : M = 400
        · have hR : writeF d i data = (d, false) := if_neg (fun h => h.2.2.2 (by have := HM.out; omega))
          subst h400
          rw [hR]
          dsimp only
          clear hR hok hi
          go_enter Try.func102, Try.ntmps102
          have HB := Lib.hid (Below.refl w.heap.size w)
          have hb := Joins.below_alloc1 w (.cells #[.slice a L ca, .slice b 400 cb] 26)
          replace HB := Lib.hid (HB.out.trans (hb.mono HB.out.size))
          have BD := Lib.hid (show Dk.Box (w.alloc (.cells #[.slice a L ca, .slice b 400 cb] 26)) (w.heap.size) _ _ 26 from Dk.blk_new w (.cells #[.slice a L ca, .slice b 400 cb] 26))
          clear hb
          obtain ⟨vBD0, vBD1⟩ := BD.out.cells
          clear vBD0 vBD1
          have hb := Joins.below_alloc1 (w.alloc (.cells #[.slice a L ca, .slice b 400 cb] 26)) (.cells #[.slice none 0 0, .slice none 0 0] 26)
          replace HB := Lib.hid (HB.out.trans (hb.mono HB.out.size))
          replace BD := Lib.hid (BD.out.below hb)
          have BR := Lib.hid (show Dk.Box ((w.alloc (.cells #[.slice a L ca, .slice b 400 cb] 26)).alloc (.cells #[.slice none 0 0, .slice none 0 0] 26)) (w.heap.size + 1) _ _ 26 from by have hk := Dk.blk_new (w.alloc (.cells #[.slice a L ca, .slice b 400 cb] 26)) (.cells #[.slice none 0 0, .slice none 0 0] 26); simp only [World.size_alloc] at hk; exact hk)
          clear hb
          obtain ⟨vBD0, vBD1⟩ := BD.out.cells
          obtain ⟨vBR0, vBR1, vBR2, vBR3⟩ := BR.out.four
          go_wp2_with fail
          refine (Copy.spec_any _ _ _ d h1 h2 (H.out.below HB.out)).mono ?_
          rintro e w1 ⟨_, _, rfl, hown, hb⟩
          have s1 := hb.size
          simp only [World.size_alloc] at s1
          clear vBD0 vBD1 vBR0 vBR1 vBR2 vBR3
          obtain ⟨⟨ua, un, uc, rfl⟩, ⟨ub, um, ud, rfl⟩⟩ := hown.forms
          have HO := Lib.hid hown
          clear hown
          replace HB := Lib.hid (HB.out.trans (hb.mono HB.out.size))
          replace BD := Lib.hid (BD.out.below hb)
          replace BR := Lib.hid (BR.out.below hb)
          clear hb
          obtain ⟨vBD0, vBD1⟩ := BD.out.cells
          obtain ⟨vBR0, vBR1, vBR2, vBR3⟩ := BR.out.four
          clear vBD0 vBD1 vBR0 vBR1 vBR2 vBR3
          have hb := Joins.below_alloc1 w1 (.cells #[.slice ua un uc, .slice ub um ud] 26)
          replace HB := Lib.hid (HB.out.trans (hb.mono HB.out.size))
          replace BD := Lib.hid (BD.out.below hb)
          replace BR := Lib.hid (BR.out.below hb)
          replace HO := Lib.hid (HO.out.below hb)
          have BO := Lib.hid (show Dk.Box (w1.alloc (.cells #[.slice ua un uc, .slice ub um ud] 26)) (w1.heap.size) _ _ 26 from Dk.blk_new w1 (.cells #[.slice ua un uc, .slice ub um ud] 26))
          clear hb
          obtain ⟨vBD0, vBD1⟩ := BD.out.cells
          obtain ⟨vBR0, vBR1, vBR2, vBR3⟩ := BR.out.four
          obtain ⟨vBO0, vBO1, vBO2, vBO3⟩ := BO.out.four
          go_wp2_with fail
          refine (IsDisk.spec_any _ _ _ d h1 h2 (H.out.below HB.out)).mono ?_
          rintro e w2 ⟨rfl, hb⟩
          have s2 := hb.size
          simp only [World.size_alloc] at s2
          clear vBD0 vBD1 vBR0 vBR1 vBR2 vBR3 vBO0 vBO1 vBO2 vBO3
          replace HB := Lib.hid (HB.out.trans (hb.mono HB.out.size))
          replace BD := Lib.hid (BD.out.below hb)
          replace BR := Lib.hid (BR.out.below hb)
          replace BO := Lib.hid (BO.out.below hb)
          replace HO := Lib.hid (HO.out.below hb)
          clear hb
          rw [HOK.out]
          obtain ⟨vBD0, vBD1⟩ := BD.out.cells
          obtain ⟨vBR0, vBR1, vBR2, vBR3⟩ := BR.out.four
          obtain ⟨vBO0, vBO1, vBO2, vBO3⟩ := BO.out.four
          go_wp2_with fail
          refine (IsDisk.in_any i 0 ((L : Int) - 1) _).mono ?_
          rw [HI.out]
          rintro e wq ⟨rfl, rfl⟩
          go_wp2
          obtain ⟨hO, hF, hS⟩ := Dk.Own.into HO.out BR.out
          have hBB := Dk.below_into (b := w.heap.size + 1) HB.out (by omega) (.slice ua un uc) (.slice ub um ud)
          generalize (w2.setCell ⟨w.heap.size + 1, 0, none⟩ (.slice ua un uc)).setCell ⟨w.heap.size + 1, 1, none⟩ (.slice ub um ud) = wf at hO hF hS hBB ⊢
          obtain ⟨c0, c1, _, _⟩ := Dk.Box.four hF
          exact bodyPost_ret (v := .tuple #[.agg #[.slice ua un uc, .slice ub um ud], .bool false]) (by simp [results, Try.results102, go_sem, c0, c1]) rfl ⟨_, _, rfl, hO.wide (by (try simp only [World.size_alloc]); omega) (by rw [hS]; (try simp only [World.size_alloc]); omega), hBB⟩
        · have hR : writeF d i data = ((d.1, d.2 ++ [(i, data)]), true) := if_pos ⟨hok, hi, h32, by have := HM.out; omega⟩
          rw [hR]
          dsimp only
          have h4 : d.2.length ≤ 400 := hok.1.2
          clear hR hok hi
          go_enter Try.func102, Try.ntmps102
          have HB := Lib.hid (Below.refl w.heap.size w)
          have hb := Joins.below_alloc1 w (.cells #[.slice a L ca, .slice b M cb] 26)
          replace HB := Lib.hid (HB.out.trans (hb.mono HB.out.size))
          have BD := Lib.hid (show Dk.Box (w.alloc (.cells #[.slice a L ca, .slice b M cb] 26)) (w.heap.size) _ _ 26 from Dk.blk_new w (.cells #[.slice a L ca, .slice b M cb] 26))
          clear hb
          obtain ⟨vBD0, vBD1⟩ := BD.out.cells
          clear vBD0 vBD1
          have hb := Joins.below_alloc1 (w.alloc (.cells #[.slice a L ca, .slice b M cb] 26)) (.cells #[.slice none 0 0, .slice none 0 0] 26)
          replace HB := Lib.hid (HB.out.trans (hb.mono HB.out.size))
          replace BD := Lib.hid (BD.out.below hb)
          have BR := Lib.hid (show Dk.Box ((w.alloc (.cells #[.slice a L ca, .slice b M cb] 26)).alloc (.cells #[.slice none 0 0, .slice none 0 0] 26)) (w.heap.size + 1) _ _ 26 from by have hk := Dk.blk_new (w.alloc (.cells #[.slice a L ca, .slice b M cb] 26)) (.cells #[.slice none 0 0, .slice none 0 0] 26); simp only [World.size_alloc] at hk; exact hk)
          clear hb
          obtain ⟨vBD0, vBD1⟩ := BD.out.cells
          obtain ⟨vBR0, vBR1, vBR2, vBR3⟩ := BR.out.four
          go_wp2_with fail
          refine (Copy.spec_any _ _ _ d h1 h2 (H.out.below HB.out)).mono ?_
          rintro e w1 ⟨_, _, rfl, hown, hb⟩
          have s1 := hb.size
          simp only [World.size_alloc] at s1
          clear vBD0 vBD1 vBR0 vBR1 vBR2 vBR3
          obtain ⟨⟨ua, un, uc, rfl⟩, ⟨ub, um, ud, rfl⟩⟩ := hown.forms
          have HO := Lib.hid hown
          clear hown
          replace HB := Lib.hid (HB.out.trans (hb.mono HB.out.size))
          replace BD := Lib.hid (BD.out.below hb)
          replace BR := Lib.hid (BR.out.below hb)
          clear hb
          obtain ⟨vBD0, vBD1⟩ := BD.out.cells
          obtain ⟨vBR0, vBR1, vBR2, vBR3⟩ := BR.out.four
          clear vBD0 vBD1 vBR0 vBR1 vBR2 vBR3
          have hb := Joins.below_alloc1 w1 (.cells #[.slice ua un uc, .slice ub um ud] 26)
          replace HB := Lib.hid (HB.out.trans (hb.mono HB.out.size))
          replace BD := Lib.hid (BD.out.below hb)
          replace BR := Lib.hid (BR.out.below hb)
          replace HO := Lib.hid (HO.out.below hb)
          have BO := Lib.hid (show Dk.Box (w1.alloc (.cells #[.slice ua un uc, .slice ub um ud] 26)) (w1.heap.size) _ _ 26 from Dk.blk_new w1 (.cells #[.slice ua un uc, .slice ub um ud] 26))
          clear hb
          obtain ⟨vBD0, vBD1⟩ := BD.out.cells
          obtain ⟨vBR0, vBR1, vBR2, vBR3⟩ := BR.out.four
          obtain ⟨vBO0, vBO1, vBO2, vBO3⟩ := BO.out.four
          go_wp2_with fail
          refine (IsDisk.spec_any _ _ _ d h1 h2 (H.out.below HB.out)).mono ?_
          rintro e w2 ⟨rfl, hb⟩
          have s2 := hb.size
          simp only [World.size_alloc] at s2
          clear vBD0 vBD1 vBR0 vBR1 vBR2 vBR3 vBO0 vBO1 vBO2 vBO3
          replace HB := Lib.hid (HB.out.trans (hb.mono HB.out.size))
          replace BD := Lib.hid (BD.out.below hb)
          replace BR := Lib.hid (BR.out.below hb)
          replace BO := Lib.hid (BO.out.below hb)
          replace HO := Lib.hid (HO.out.below hb)
          clear hb
          rw [HOK.out]
          obtain ⟨vBD0, vBD1⟩ := BD.out.cells
          obtain ⟨vBR0, vBR1, vBR2, vBR3⟩ := BR.out.four
          obtain ⟨vBO0, vBO1, vBO2, vBO3⟩ := BO.out.four
          go_wp2_with fail
          refine (IsDisk.in_any i 0 ((L : Int) - 1) _).mono ?_
          rw [HI.out]
          rintro e wq ⟨rfl, rfl⟩
          have ho1 := HO.out.1.1
          have ho2 := HO.out.2.1
          have HR1 := Lib.hid (Dk.own_two ho1 ho2 (by decide))
          clear ho1 ho2
          go_wp2_with (at_builtin; refine wpList_append_own _ rfl _ _ 24 rfl _ 39 j0 (.agg #[.int .i64 0, .string ⟨#[]⟩]) 2 24 Try.underlying24 hj hy0 hy1 hy2 rfl (by decide) _ _ _ rfl (World.ownsRow.alloc HO.out.2.1 _) ⟨w2.heap.size, 0, none⟩ 1 1 [.int .i64 i, .string data] rfl rfl (Dk.cell_two_new _ _ _ _) (by simp [Value.oneCell']) ?c1 ?c2 ?c3 ?_)
          case c1 => unfold maxLen; omega
          case c2 => omega
          case c3 => simp only [World.size_alloc]; omega
          intro v9 w9 hown9 hg9 _
          clear vBD0 vBD1 vBR0 vBR1 vBR2 vBR3 vBO0 vBO1 vBO2 vBO3
          have hb := Joins.below_alloc1 w2 (.cells #[.int .i64 i, .string data] 39)
          replace HB := Lib.hid (HB.out.trans (hb.mono HB.out.size))
          replace BD := Lib.hid (BD.out.below hb)
          replace BR := Lib.hid (BR.out.below hb)
          replace BO := Lib.hid (BO.out.below hb)
          replace HO := Lib.hid (HO.out.below hb)
          clear hb
          obtain ⟨vBD0, vBD1⟩ := BD.out.cells
          obtain ⟨vBR0, vBR1, vBR2, vBR3⟩ := BR.out.four
          obtain ⟨vBO0, vBO1, vBO2, vBO3⟩ := BO.out.four
          obtain ⟨pa, pc, rfl⟩ := Dk.slice_of hown9
          have s9 := hg9.size
          simp only [World.size_alloc] at s9
          clear vBD0 vBD1 vBR0 vBR1 vBR2 vBR3 vBO0 vBO1 vBO2 vBO3
          have ht := Dk.Turned.of_grown (lo := w.heap.size + 1 + 1) (hi := w1.heap.size) hg9 (fun k hk => ⟨by have := (HO.out.2.1.lt k hk).1; simp only [World.size_alloc] at this; omega, HO.out.2.2 k hk⟩)
          replace HB := Lib.hid (HB.out.trans (ht.below (by omega) (by simp only [World.size_alloc]; omega)))
          replace BD := Lib.hid (Dk.Box.turned BD.out ht (by omega))
          replace BR := Lib.hid (Dk.Box.turned BR.out ht (by omega))
          replace BO := Lib.hid (Dk.Box.turned BO.out ht (by omega))
          have HU := Lib.hid (World.ownsRow.kept HO.out.1.1 hg9 HR1.out)
          have HN := Lib.hid (show Dk.Own w9 (w.heap.size + 1 + 1) w9.heap.size (.slice ua un uc) (.slice pa (d.2.length + 1) pc) (d.1, d.2 ++ [(i, data)]) from
  ⟨(Dk.RowIn.fresh HU.out).wide (by first | omega | (simp only [World.size_alloc]; omega)) (Nat.le_refl _), by
    have hr := (Dk.RowIn.fresh hown9).wide (lo' := w.heap.size + 1 + 1) (by first | omega | (simp only [World.size_alloc]; omega)) (Nat.le_refl _)
    simpa [wcells, Wr.wcell] using hr⟩)
          clear hown9 hg9 ht HO HU
          obtain ⟨vBD0, vBD1⟩ := BD.out.cells
          obtain ⟨vBR0, vBR1, vBR2, vBR3⟩ := BR.out.four
          obtain ⟨vBO0, vBO1, vBO2, vBO3⟩ := BO.out.four
          go_wp2
          have hN1 := Dk.Own.set (i := 1) (u := .slice pa (d.2.length + 1) pc) HN.out BO.out
          have hR1 := Dk.Box.other (i := 1) (u := .slice pa (d.2.length + 1) pc) (c := w1.heap.size) BR.out (by omega)
          have hB1 := HB.out.setCell (p := ⟨w1.heap.size, 1, none⟩) (show w.heap.size ≤ w1.heap.size by omega) (.slice pa (d.2.length + 1) pc)
          have hs10 : (w9.setCell ⟨w1.heap.size, 1, none⟩ (.slice pa (d.2.length + 1) pc)).heap.size = w9.heap.size := World.size_setCell ..
          generalize w9.setCell ⟨w1.heap.size, 1, none⟩ (.slice pa (d.2.length + 1) pc) = w10 at hN1 hR1 hB1 hs10 ⊢
          obtain ⟨hO, hF, hS⟩ := Dk.Own.into hN1 hR1
          have hS9 : w10.heap.size ≤ w10.heap.size := Nat.le_refl _
          have hBB := Dk.below_into (b := w.heap.size + 1) hB1 (by omega) (.slice ua un uc) (.slice pa (d.2.length + 1) pc)
          generalize (w10.setCell ⟨w.heap.size + 1, 0, none⟩ (.slice ua un uc)).setCell ⟨w.heap.size + 1, 1, none⟩ (.slice pa (d.2.length + 1) pc) = wf at hO hF hS hBB ⊢
          obtain ⟨c0, c1, _, _⟩ := Dk.Box.four hF
          exact bodyPost_ret (v := .tuple #[.agg #[.slice ua un uc, .slice pa (d.2.length + 1) pc], .bool true]) (by simp [results, Try.results102, go_sem, c0, c1]) rfl ⟨_, _, rfl, hO.wide (by omega) (by rw [hS]; omega), hBB⟩
      · have hR : writeF d i data = (d, false) := if_neg (fun h => h32 h.2.2.1)
        have hd : decide (data.size = 32) = false := decide_eq_false h32
        rw [hR]
        dsimp only
        clear hR hok hi
        go_enter Try.func102, Try.ntmps102
        have HB := Lib.hid (Below.refl w.heap.size w)
        have hb := Joins.below_alloc1 w (.cells #[.slice a L ca, .slice b M cb] 26)
        replace HB := Lib.hid (HB.out.trans (hb.mono HB.out.size))
        have BD := Lib.hid (show Dk.Box (w.alloc (.cells #[.slice a L ca, .slice b M cb] 26)) (w.heap.size) _ _ 26 from Dk.blk_new w (.cells #[.slice a L ca, .slice b M cb] 26))
        clear hb
        obtain ⟨vBD0, vBD1⟩ := BD.out.cells
        clear vBD0 vBD1
        have hb := Joins.below_alloc1 (w.alloc (.cells #[.slice a L ca, .slice b M cb] 26)) (.cells #[.slice none 0 0, .slice none 0 0] 26)
        replace HB := Lib.hid (HB.out.trans (hb.mono HB.out.size))
        replace BD := Lib.hid (BD.out.below hb)
        have BR := Lib.hid (show Dk.Box ((w.alloc (.cells #[.slice a L ca, .slice b M cb] 26)).alloc (.cells #[.slice none 0 0, .slice none 0 0] 26)) (w.heap.size + 1) _ _ 26 from by have hk := Dk.blk_new (w.alloc (.cells #[.slice a L ca, .slice b M cb] 26)) (.cells #[.slice none 0 0, .slice none 0 0] 26); simp only [World.size_alloc] at hk; exact hk)
        clear hb
        obtain ⟨vBD0, vBD1⟩ := BD.out.cells
        obtain ⟨vBR0, vBR1, vBR2, vBR3⟩ := BR.out.four
        go_wp2_with fail
        refine (Copy.spec_any _ _ _ d h1 h2 (H.out.below HB.out)).mono ?_
        rintro e w1 ⟨_, _, rfl, hown, hb⟩
        have s1 := hb.size
        simp only [World.size_alloc] at s1
        clear vBD0 vBD1 vBR0 vBR1 vBR2 vBR3
        obtain ⟨⟨ua, un, uc, rfl⟩, ⟨ub, um, ud, rfl⟩⟩ := hown.forms
        have HO := Lib.hid hown
        clear hown
        replace HB := Lib.hid (HB.out.trans (hb.mono HB.out.size))
        replace BD := Lib.hid (BD.out.below hb)
        replace BR := Lib.hid (BR.out.below hb)
        clear hb
        obtain ⟨vBD0, vBD1⟩ := BD.out.cells
        obtain ⟨vBR0, vBR1, vBR2, vBR3⟩ := BR.out.four
        clear vBD0 vBD1 vBR0 vBR1 vBR2 vBR3
        have hb := Joins.below_alloc1 w1 (.cells #[.slice ua un uc, .slice ub um ud] 26)
        replace HB := Lib.hid (HB.out.trans (hb.mono HB.out.size))
        replace BD := Lib.hid (BD.out.below hb)
        replace BR := Lib.hid (BR.out.below hb)
        replace HO := Lib.hid (HO.out.below hb)
        have BO := Lib.hid (show Dk.Box (w1.alloc (.cells #[.slice ua un uc, .slice ub um ud] 26)) (w1.heap.size) _ _ 26 from Dk.blk_new w1 (.cells #[.slice ua un uc, .slice ub um ud] 26))
        clear hb
        obtain ⟨vBD0, vBD1⟩ := BD.out.cells
        obtain ⟨vBR0, vBR1, vBR2, vBR3⟩ := BR.out.four
        obtain ⟨vBO0, vBO1, vBO2, vBO3⟩ := BO.out.four
        go_wp2_with fail
        refine (IsDisk.spec_any _ _ _ d h1 h2 (H.out.below HB.out)).mono ?_
        rintro e w2 ⟨rfl, hb⟩
        have s2 := hb.size
        simp only [World.size_alloc] at s2
        clear vBD0 vBD1 vBR0 vBR1 vBR2 vBR3 vBO0 vBO1 vBO2 vBO3
        replace HB := Lib.hid (HB.out.trans (hb.mono HB.out.size))
        replace BD := Lib.hid (BD.out.below hb)
        replace BR := Lib.hid (BR.out.below hb)
        replace BO := Lib.hid (BO.out.below hb)
        replace HO := Lib.hid (HO.out.below hb)
        clear hb
        rw [HOK.out]
        obtain ⟨vBD0, vBD1⟩ := BD.out.cells
        obtain ⟨vBR0, vBR1, vBR2, vBR3⟩ := BR.out.four
        obtain ⟨vBO0, vBO1, vBO2, vBO3⟩ := BO.out.four
        go_wp2_with fail
        refine (IsDisk.in_any i 0 ((L : Int) - 1) _).mono ?_
        rw [HI.out]
        rintro e wq ⟨rfl, rfl⟩
        go_wp2
        obtain ⟨hO, hF, hS⟩ := Dk.Own.into HO.out BR.out
        have hBB := Dk.below_into (b := w.heap.size + 1) HB.out (by omega) (.slice ua un uc) (.slice ub um ud)
        generalize (w2.setCell ⟨w.heap.size + 1, 0, none⟩ (.slice ua un uc)).setCell ⟨w.heap.size + 1, 1, none⟩ (.slice ub um ud) = wf at hO hF hS hBB ⊢
        obtain ⟨c0, c1, _, _⟩ := Dk.Box.four hF
        exact bodyPost_ret (v := .tuple #[.agg #[.slice ua un uc, .slice ub um ud], .bool false]) (by simp [results, Try.results102, go_sem, c0, c1]) rfl ⟨_, _, rfl, hO.wide (by (try simp only [World.size_alloc]); omega) (by rw [hS]; (try simp only [World.size_alloc]); omega), hBB⟩
    · have HI := Lib.hid (show decide (0 ≤ i ∧ i ≤ (L : Int) - 1) = false from decide_eq_false (fun h => hi ⟨h.1, by have := h.2; have := HL.out; omega⟩))
      have hR : writeF d i data = (d, false) := if_neg (fun h => hi h.2.1)
      rw [hR]
      dsimp only
      clear hR hok hi
      go_enter Try.func102, Try.ntmps102
      have HB := Lib.hid (Below.refl w.heap.size w)
      have hb := Joins.below_alloc1 w (.cells #[.slice a L ca, .slice b M cb] 26)
      replace HB := Lib.hid (HB.out.trans (hb.mono HB.out.size))
      have BD := Lib.hid (show Dk.Box (w.alloc (.cells #[.slice a L ca, .slice b M cb] 26)) (w.heap.size) _ _ 26 from Dk.blk_new w (.cells #[.slice a L ca, .slice b M cb] 26))
      clear hb
      obtain ⟨vBD0, vBD1⟩ := BD.out.cells
      clear vBD0 vBD1
      have hb := Joins.below_alloc1 (w.alloc (.cells #[.slice a L ca, .slice b M cb] 26)) (.cells #[.slice none 0 0, .slice none 0 0] 26)
      replace HB := Lib.hid (HB.out.trans (hb.mono HB.out.size))
      replace BD := Lib.hid (BD.out.below hb)
      have BR := Lib.hid (show Dk.Box ((w.alloc (.cells #[.slice a L ca, .slice b M cb] 26)).alloc (.cells #[.slice none 0 0, .slice none 0 0] 26)) (w.heap.size + 1) _ _ 26 from by have hk := Dk.blk_new (w.alloc (.cells #[.slice a L ca, .slice b M cb] 26)) (.cells #[.slice none 0 0, .slice none 0 0] 26); simp only [World.size_alloc] at hk; exact hk)
      clear hb
      obtain ⟨vBD0, vBD1⟩ := BD.out.cells
      obtain ⟨vBR0, vBR1, vBR2, vBR3⟩ := BR.out.four
      go_wp2_with fail
      refine (Copy.spec_any _ _ _ d h1 h2 (H.out.below HB.out)).mono ?_
      rintro e w1 ⟨_, _, rfl, hown, hb⟩
      have s1 := hb.size
      simp only [World.size_alloc] at s1
      clear vBD0 vBD1 vBR0 vBR1 vBR2 vBR3
      obtain ⟨⟨ua, un, uc, rfl⟩, ⟨ub, um, ud, rfl⟩⟩ := hown.forms
      have HO := Lib.hid hown
      clear hown
      replace HB := Lib.hid (HB.out.trans (hb.mono HB.out.size))
      replace BD := Lib.hid (BD.out.below hb)
      replace BR := Lib.hid (BR.out.below hb)
      clear hb
      obtain ⟨vBD0, vBD1⟩ := BD.out.cells
      obtain ⟨vBR0, vBR1, vBR2, vBR3⟩ := BR.out.four
      clear vBD0 vBD1 vBR0 vBR1 vBR2 vBR3
      have hb := Joins.below_alloc1 w1 (.cells #[.slice ua un uc, .slice ub um ud] 26)
      replace HB := Lib.hid (HB.out.trans (hb.mono HB.out.size))
      replace BD := Lib.hid (BD.out.below hb)
      replace BR := Lib.hid (BR.out.below hb)
      replace HO := Lib.hid (HO.out.below hb)
      have BO := Lib.hid (show Dk.Box (w1.alloc (.cells #[.slice ua un uc, .slice ub um ud] 26)) (w1.heap.size) _ _ 26 from Dk.blk_new w1 (.cells #[.slice ua un uc, .slice ub um ud] 26))
      clear hb
      obtain ⟨vBD0, vBD1⟩ := BD.out.cells
      obtain ⟨vBR0, vBR1, vBR2, vBR3⟩ := BR.out.four
      obtain ⟨vBO0, vBO1, vBO2, vBO3⟩ := BO.out.four
      go_wp2_with fail
      refine (IsDisk.spec_any _ _ _ d h1 h2 (H.out.below HB.out)).mono ?_
      rintro e w2 ⟨rfl, hb⟩
      have s2 := hb.size
      simp only [World.size_alloc] at s2
      clear vBD0 vBD1 vBR0 vBR1 vBR2 vBR3 vBO0 vBO1 vBO2 vBO3
      replace HB := Lib.hid (HB.out.trans (hb.mono HB.out.size))
      replace BD := Lib.hid (BD.out.below hb)
      replace BR := Lib.hid (BR.out.below hb)
      replace BO := Lib.hid (BO.out.below hb)
      replace HO := Lib.hid (HO.out.below hb)
      clear hb
      rw [HOK.out]
      obtain ⟨vBD0, vBD1⟩ := BD.out.cells
      obtain ⟨vBR0, vBR1, vBR2, vBR3⟩ := BR.out.four
      obtain ⟨vBO0, vBO1, vBO2, vBO3⟩ := BO.out.four
      go_wp2_with fail
      refine (IsDisk.in_any i 0 ((L : Int) - 1) _).mono ?_
      rw [HI.out]
      rintro e wq ⟨rfl, rfl⟩
      go_wp2
      obtain ⟨hO, hF, hS⟩ := Dk.Own.into HO.out BR.out
      have hBB := Dk.below_into (b := w.heap.size + 1) HB.out (by omega) (.slice ua un uc) (.slice ub um ud)
      generalize (w2.setCell ⟨w.heap.size + 1, 0, none⟩ (.slice ua un uc)).setCell ⟨w.heap.size + 1, 1, none⟩ (.slice ub um ud) = wf at hO hF hS hBB ⊢
      obtain ⟨c0, c1, _, _⟩ := Dk.Box.four hF
      exact bodyPost_ret (v := .tuple #[.agg #[.slice ua un uc, .slice ub um ud], .bool false]) (by simp [results, Try.results102, go_sem, c0, c1]) rfl ⟨_, _, rfl, hO.wide (by (try simp only [World.size_alloc]); omega) (by rw [hS]; (try simp only [World.size_alloc]); omega), hBB⟩
  · have HOK := Lib.hid (show decide (Ok d) = false from decide_eq_false hok)
    have hR : writeF d i data = (d, false) := if_neg (fun h => hok h.1)
    rw [hR]
    dsimp only
    clear hR hok
    go_enter Try.func102, Try.ntmps102
    have HB := Lib.hid (Below.refl w.heap.size w)
    have hb := Joins.below_alloc1 w (.cells #[.slice a L ca, .slice b M cb] 26)
    replace HB := Lib.hid (HB.out.trans (hb.mono HB.out.size))
    have BD := Lib.hid (show Dk.Box (w.alloc (.cells #[.slice a L ca, .slice b M cb] 26)) (w.heap.size) _ _ 26 from Dk.blk_new w (.cells #[.slice a L ca, .slice b M cb] 26))
    clear hb
    obtain ⟨vBD0, vBD1⟩ := BD.out.cells
    clear vBD0 vBD1
    have hb := Joins.below_alloc1 (w.alloc (.cells #[.slice a L ca, .slice b M cb] 26)) (.cells #[.slice none 0 0, .slice none 0 0] 26)
    replace HB := Lib.hid (HB.out.trans (hb.mono HB.out.size))
    replace BD := Lib.hid (BD.out.below hb)
    have BR := Lib.hid (show Dk.Box ((w.alloc (.cells #[.slice a L ca, .slice b M cb] 26)).alloc (.cells #[.slice none 0 0, .slice none 0 0] 26)) (w.heap.size + 1) _ _ 26 from by have hk := Dk.blk_new (w.alloc (.cells #[.slice a L ca, .slice b M cb] 26)) (.cells #[.slice none 0 0, .slice none 0 0] 26); simp only [World.size_alloc] at hk; exact hk)
    clear hb
    obtain ⟨vBD0, vBD1⟩ := BD.out.cells
    obtain ⟨vBR0, vBR1, vBR2, vBR3⟩ := BR.out.four
    go_wp2_with fail
    refine (Copy.spec_any _ _ _ d h1 h2 (H.out.below HB.out)).mono ?_
    rintro e w1 ⟨_, _, rfl, hown, hb⟩
    have s1 := hb.size
    simp only [World.size_alloc] at s1
    clear vBD0 vBD1 vBR0 vBR1 vBR2 vBR3
    obtain ⟨⟨ua, un, uc, rfl⟩, ⟨ub, um, ud, rfl⟩⟩ := hown.forms
    have HO := Lib.hid hown
    clear hown
    replace HB := Lib.hid (HB.out.trans (hb.mono HB.out.size))
    replace BD := Lib.hid (BD.out.below hb)
    replace BR := Lib.hid (BR.out.below hb)
    clear hb
    obtain ⟨vBD0, vBD1⟩ := BD.out.cells
    obtain ⟨vBR0, vBR1, vBR2, vBR3⟩ := BR.out.four
    clear vBD0 vBD1 vBR0 vBR1 vBR2 vBR3
    have hb := Joins.below_alloc1 w1 (.cells #[.slice ua un uc, .slice ub um ud] 26)
    replace HB := Lib.hid (HB.out.trans (hb.mono HB.out.size))
    replace BD := Lib.hid (BD.out.below hb)
    replace BR := Lib.hid (BR.out.below hb)
    replace HO := Lib.hid (HO.out.below hb)
    have BO := Lib.hid (show Dk.Box (w1.alloc (.cells #[.slice ua un uc, .slice ub um ud] 26)) (w1.heap.size) _ _ 26 from Dk.blk_new w1 (.cells #[.slice ua un uc, .slice ub um ud] 26))
    clear hb
    obtain ⟨vBD0, vBD1⟩ := BD.out.cells
    obtain ⟨vBR0, vBR1, vBR2, vBR3⟩ := BR.out.four
    obtain ⟨vBO0, vBO1, vBO2, vBO3⟩ := BO.out.four
    go_wp2_with fail
    refine (IsDisk.spec_any _ _ _ d h1 h2 (H.out.below HB.out)).mono ?_
    rintro e w2 ⟨rfl, hb⟩
    have s2 := hb.size
    simp only [World.size_alloc] at s2
    clear vBD0 vBD1 vBR0 vBR1 vBR2 vBR3 vBO0 vBO1 vBO2 vBO3
    replace HB := Lib.hid (HB.out.trans (hb.mono HB.out.size))
    replace BD := Lib.hid (BD.out.below hb)
    replace BR := Lib.hid (BR.out.below hb)
    replace BO := Lib.hid (BO.out.below hb)
    replace HO := Lib.hid (HO.out.below hb)
    clear hb
    rw [HOK.out]
    obtain ⟨vBD0, vBD1⟩ := BD.out.cells
    obtain ⟨vBR0, vBR1, vBR2, vBR3⟩ := BR.out.four
    obtain ⟨vBO0, vBO1, vBO2, vBO3⟩ := BO.out.four
    go_wp2
    obtain ⟨hO, hF, hS⟩ := Dk.Own.into HO.out BR.out
    have hBB := Dk.below_into (b := w.heap.size + 1) HB.out (by omega) (.slice ua un uc) (.slice ub um ud)
    generalize (w2.setCell ⟨w.heap.size + 1, 0, none⟩ (.slice ua un uc)).setCell ⟨w.heap.size + 1, 1, none⟩ (.slice ub um ud) = wf at hO hF hS hBB ⊢
    obtain ⟨c0, c1, _, _⟩ := Dk.Box.four hF
    exact bodyPost_ret (v := .tuple #[.agg #[.slice ua un uc, .slice ub um ud], .bool false]) (by simp [results, Try.results102, go_sem, c0, c1]) rfl ⟨_, _, rfl, hO.wide (by (try simp only [World.size_alloc]); omega) (by rw [hS]; (try simp only [World.size_alloc]); omega), hBB⟩

set_option maxRecDepth 100000 in
set_option maxHeartbeats 4000000 in
theorem impl_any (w : World) (vs vp : Value) (d : D) (i : Int) (data : ByteArray) (h1 : d.1.length ≤ 1073741824) (h2 : d.2.length ≤ 1073741824) (h3 : data.size ≤ 1073741824) (h : Holds w vs vp d) :
    Calls Try.prog 25 #[.agg #[vs, vp], .int .i64 i, .string data] w fun e w' => ∃ us up, e = .returned (.tuple #[.agg #[us, up], .bool (writeF d i data).2]) ∧ Own w' w.heap.size w'.heap.size us up (writeF d i data).1 ∧ Below w.heap.size w w' := by
  obtain ⟨j0, hj, hy0, hy1, hy2⟩ := info_parts Wr.wrInfo
  have H := Lib.hid h
  obtain ⟨a, ca, rfl, _⟩ := atS h.1
  obtain ⟨b, cb, rfl, _⟩ := atW h.2
  clear h
  obtain ⟨L, hL⟩ : ∃ L, L = d.1.length := ⟨_, rfl⟩
  obtain ⟨M, hM⟩ : ∃ M, M = d.2.length := ⟨_, rfl⟩
  have hLb : L ≤ 1073741824 := by omega
  have hMb : M ≤ 1073741824 := by omega
  rw [← hL, ← hM] at H
  rw [← hL, ← hM]
  have HL := Lib.hid hL
  have HM := Lib.hid hM
  clear hL hM
  by_cases hok : Ok d
  · have HOK := Lib.hid (show decide (Ok d) = true from decide_eq_true hok)
    by_cases hf : Dk.Fits L (i, data)
    · have HF := Lib.hid (show decide (Dk.Fits L (i, data)) = true from decide_eq_true hf)
      by_cases h400 : M = 400
      · have hR : writeF d i data = (d, false) := if_neg (fun h => h.2.2.2 (by have := HM.out; omega))
        subst h400
        rw [hR]
        dsimp only
        clear hR hok hf
        go_enter Try.func25, Try.ntmps25
        have HB := Lib.hid (Below.refl w.heap.size w)
        have hb := Joins.below_alloc1 w (.cells #[.slice a L ca, .slice b 400 cb] 26)
        replace HB := Lib.hid (HB.out.trans (hb.mono HB.out.size))
        have BD := Lib.hid (show Dk.Box (w.alloc (.cells #[.slice a L ca, .slice b 400 cb] 26)) (w.heap.size) _ _ 26 from Dk.blk_new w (.cells #[.slice a L ca, .slice b 400 cb] 26))
        clear hb
        obtain ⟨vBD0, vBD1, vBD2, vBD3⟩ := BD.out.four
        clear vBD0 vBD1 vBD2 vBD3
        have hb := Joins.below_alloc1 (w.alloc (.cells #[.slice a L ca, .slice b 400 cb] 26)) (.cells #[.slice none 0 0, .slice none 0 0] 26)
        replace HB := Lib.hid (HB.out.trans (hb.mono HB.out.size))
        replace BD := Lib.hid (BD.out.below hb)
        have BR := Lib.hid (show Dk.Box ((w.alloc (.cells #[.slice a L ca, .slice b 400 cb] 26)).alloc (.cells #[.slice none 0 0, .slice none 0 0] 26)) (w.heap.size + 1) _ _ 26 from by have hk := Dk.blk_new (w.alloc (.cells #[.slice a L ca, .slice b 400 cb] 26)) (.cells #[.slice none 0 0, .slice none 0 0] 26); simp only [World.size_alloc] at hk; exact hk)
        clear hb
        obtain ⟨vBD0, vBD1, vBD2, vBD3⟩ := BD.out.four
        obtain ⟨vBR0, vBR1, vBR2, vBR3⟩ := BR.out.four
        clear vBD0 vBD1 vBD2 vBD3 vBR0 vBR1 vBR2 vBR3
        have hb := Joins.below_alloc1 ((w.alloc (.cells #[.slice a L ca, .slice b 400 cb] 26)).alloc (.cells #[.slice none 0 0, .slice none 0 0] 26)) (.cells #[.int .i64 i, .string data] 39)
        replace HB := Lib.hid (HB.out.trans (hb.mono HB.out.size))
        replace BD := Lib.hid (BD.out.below hb)
        replace BR := Lib.hid (BR.out.below hb)
        have BW := Lib.hid (show Dk.Box (((w.alloc (.cells #[.slice a L ca, .slice b 400 cb] 26)).alloc (.cells #[.slice none 0 0, .slice none 0 0] 26)).alloc (.cells #[.int .i64 i, .string data] 39)) (w.heap.size + 1 + 1) _ _ 39 from by have hk := Dk.blk_new ((w.alloc (.cells #[.slice a L ca, .slice b 400 cb] 26)).alloc (.cells #[.slice none 0 0, .slice none 0 0] 26)) (.cells #[.int .i64 i, .string data] 39); simp only [World.size_alloc] at hk; exact hk)
        clear hb
        obtain ⟨vBD0, vBD1, vBD2, vBD3⟩ := BD.out.four
        obtain ⟨vBR0, vBR1, vBR2, vBR3⟩ := BR.out.four
        obtain ⟨vBW0, vBW1⟩ := BW.out.cells
        go_wp2_with fail
        refine (IsDisk.impl_any _ _ _ d h1 h2 (H.out.below HB.out)).mono ?_
        rintro e w1 ⟨rfl, hb⟩
        have s1 := hb.size
        simp only [World.size_alloc] at s1
        clear vBD0 vBD1 vBD2 vBD3 vBR0 vBR1 vBR2 vBR3 vBW0 vBW1
        replace HB := Lib.hid (HB.out.trans (hb.mono HB.out.size))
        replace BD := Lib.hid (BD.out.below hb)
        replace BR := Lib.hid (BR.out.below hb)
        replace BW := Lib.hid (BW.out.below hb)
        clear hb
        rw [HOK.out]
        obtain ⟨vBD0, vBD1, vBD2, vBD3⟩ := BD.out.four
        obtain ⟨vBR0, vBR1, vBR2, vBR3⟩ := BR.out.four
        obtain ⟨vBW0, vBW1⟩ := BW.out.cells
        go_wp2_with fail
        refine (IsDisk.fits_any a L ca (.slice b 400 cb) (i, data) _ hLb).mono ?_
        rintro e w2 ⟨rfl, hb⟩
        have s2 := hb.size
        clear vBD0 vBD1 vBD2 vBD3 vBR0 vBR1 vBR2 vBR3 vBW0 vBW1
        replace HB := Lib.hid (HB.out.trans (hb.mono HB.out.size))
        replace BD := Lib.hid (BD.out.below hb)
        replace BR := Lib.hid (BR.out.below hb)
        replace BW := Lib.hid (BW.out.below hb)
        clear hb
        rw [HF.out]
        obtain ⟨vBD0, vBD1, vBD2, vBD3⟩ := BD.out.four
        obtain ⟨vBR0, vBR1, vBR2, vBR3⟩ := BR.out.four
        obtain ⟨vBW0, vBW1⟩ := BW.out.cells
        go_wp2_with fail
        refine (Copy.impl_any _ _ _ d h1 h2 (H.out.below HB.out)).mono ?_
        rintro e w3 ⟨_, _, rfl, hown, hb⟩
        have s3 := hb.size
        clear vBD0 vBD1 vBD2 vBD3 vBR0 vBR1 vBR2 vBR3 vBW0 vBW1
        obtain ⟨⟨ua, un, uc, rfl⟩, ⟨ub, um, ud, rfl⟩⟩ := hown.forms
        have HO := Lib.hid hown
        clear hown
        replace HB := Lib.hid (HB.out.trans (hb.mono HB.out.size))
        replace BD := Lib.hid (BD.out.below hb)
        replace BR := Lib.hid (BR.out.below hb)
        replace BW := Lib.hid (BW.out.below hb)
        clear hb
        obtain ⟨vBD0, vBD1, vBD2, vBD3⟩ := BD.out.four
        obtain ⟨vBR0, vBR1, vBR2, vBR3⟩ := BR.out.four
        obtain ⟨vBW0, vBW1⟩ := BW.out.cells
        go_wp2
        clear vBD0 vBD1 vBD2 vBD3 vBR0 vBR1 vBR2 vBR3 vBW0 vBW1
        have hI := Dk.Own.into HO.out BD.out
        replace HB := Lib.hid (Dk.below_into (b := w.heap.size) HB.out (by omega) (.slice ua un uc) (.slice ub um ud))
        replace BR := Lib.hid (Dk.Box.other (i := 1) (u := (.slice ub um ud)) (c := w.heap.size) (Dk.Box.other (i := 0) (u := (.slice ua un uc)) (c := w.heap.size) BR.out (by omega)) (by omega))
        replace BW := Lib.hid (Dk.Box.other (i := 1) (u := (.slice ub um ud)) (c := w.heap.size) (Dk.Box.other (i := 0) (u := (.slice ua un uc)) (c := w.heap.size) BW.out (by omega)) (by omega))
        replace BD := Lib.hid hI.2.1
        replace HO := Lib.hid hI.1
        have s4 := hI.2.2
        clear hI
        generalize (w3.setCell ⟨w.heap.size, 0, none⟩ (.slice ua un uc)).setCell ⟨w.heap.size, 1, none⟩ (.slice ub um ud) = w4 at HB BD BR BW HO s4 ⊢
        obtain ⟨vBD0, vBD1, vBD2, vBD3⟩ := BD.out.four
        obtain ⟨vBR0, vBR1, vBR2, vBR3⟩ := BR.out.four
        obtain ⟨vBW0, vBW1⟩ := BW.out.cells
        go_wp2
        obtain ⟨hO, hF, hS⟩ := Dk.Own.into HO.out BR.out
        have hBB := Dk.below_into (b := w.heap.size + 1) HB.out (by omega) (.slice ua un uc) (.slice ub um ud)
        generalize (w4.setCell ⟨w.heap.size + 1, 0, none⟩ (.slice ua un uc)).setCell ⟨w.heap.size + 1, 1, none⟩ (.slice ub um ud) = wf at hO hF hS hBB ⊢
        obtain ⟨c0, c1, _, _⟩ := Dk.Box.four hF
        exact bodyPost_ret (v := .tuple #[.agg #[.slice ua un uc, .slice ub um ud], .bool false]) (by simp [results, Try.results25, go_sem, c0, c1]) rfl ⟨_, _, rfl, hO.wide (by (try simp only [World.size_alloc]); omega) (by rw [hS]; (try simp only [World.size_alloc]); omega), hBB⟩
      · have hR : writeF d i data = ((d.1, d.2 ++ [(i, data)]), true) := if_pos ⟨hok, ⟨hf.1.1, by have := hf.1.2; have := HL.out; omega⟩, hf.2, by have := HM.out; omega⟩
        have h4 : d.2.length ≤ 400 := hok.1.2
        have h401 : M < 400 := by have := HM.out; omega
        rw [hR]
        dsimp only
        clear hR hok hf
        go_enter Try.func25, Try.ntmps25
        have HB := Lib.hid (Below.refl w.heap.size w)
        have hb := Joins.below_alloc1 w (.cells #[.slice a L ca, .slice b M cb] 26)
        replace HB := Lib.hid (HB.out.trans (hb.mono HB.out.size))
        have BD := Lib.hid (show Dk.Box (w.alloc (.cells #[.slice a L ca, .slice b M cb] 26)) (w.heap.size) _ _ 26 from Dk.blk_new w (.cells #[.slice a L ca, .slice b M cb] 26))
        clear hb
        obtain ⟨vBD0, vBD1, vBD2, vBD3⟩ := BD.out.four
        clear vBD0 vBD1 vBD2 vBD3
        have hb := Joins.below_alloc1 (w.alloc (.cells #[.slice a L ca, .slice b M cb] 26)) (.cells #[.slice none 0 0, .slice none 0 0] 26)
        replace HB := Lib.hid (HB.out.trans (hb.mono HB.out.size))
        replace BD := Lib.hid (BD.out.below hb)
        have BR := Lib.hid (show Dk.Box ((w.alloc (.cells #[.slice a L ca, .slice b M cb] 26)).alloc (.cells #[.slice none 0 0, .slice none 0 0] 26)) (w.heap.size + 1) _ _ 26 from by have hk := Dk.blk_new (w.alloc (.cells #[.slice a L ca, .slice b M cb] 26)) (.cells #[.slice none 0 0, .slice none 0 0] 26); simp only [World.size_alloc] at hk; exact hk)
        clear hb
        obtain ⟨vBD0, vBD1, vBD2, vBD3⟩ := BD.out.four
        obtain ⟨vBR0, vBR1, vBR2, vBR3⟩ := BR.out.four
        clear vBD0 vBD1 vBD2 vBD3 vBR0 vBR1 vBR2 vBR3
        have hb := Joins.below_alloc1 ((w.alloc (.cells #[.slice a L ca, .slice b M cb] 26)).alloc (.cells #[.slice none 0 0, .slice none 0 0] 26)) (.cells #[.int .i64 i, .string data] 39)
        replace HB := Lib.hid (HB.out.trans (hb.mono HB.out.size))
        replace BD := Lib.hid (BD.out.below hb)
        replace BR := Lib.hid (BR.out.below hb)
        have BW := Lib.hid (show Dk.Box (((w.alloc (.cells #[.slice a L ca, .slice b M cb] 26)).alloc (.cells #[.slice none 0 0, .slice none 0 0] 26)).alloc (.cells #[.int .i64 i, .string data] 39)) (w.heap.size + 1 + 1) _ _ 39 from by have hk := Dk.blk_new ((w.alloc (.cells #[.slice a L ca, .slice b M cb] 26)).alloc (.cells #[.slice none 0 0, .slice none 0 0] 26)) (.cells #[.int .i64 i, .string data] 39); simp only [World.size_alloc] at hk; exact hk)
        clear hb
        obtain ⟨vBD0, vBD1, vBD2, vBD3⟩ := BD.out.four
        obtain ⟨vBR0, vBR1, vBR2, vBR3⟩ := BR.out.four
        obtain ⟨vBW0, vBW1⟩ := BW.out.cells
        go_wp2_with fail
        refine (IsDisk.impl_any _ _ _ d h1 h2 (H.out.below HB.out)).mono ?_
        rintro e w1 ⟨rfl, hb⟩
        have s1 := hb.size
        simp only [World.size_alloc] at s1
        clear vBD0 vBD1 vBD2 vBD3 vBR0 vBR1 vBR2 vBR3 vBW0 vBW1
        replace HB := Lib.hid (HB.out.trans (hb.mono HB.out.size))
        replace BD := Lib.hid (BD.out.below hb)
        replace BR := Lib.hid (BR.out.below hb)
        replace BW := Lib.hid (BW.out.below hb)
        clear hb
        rw [HOK.out]
        obtain ⟨vBD0, vBD1, vBD2, vBD3⟩ := BD.out.four
        obtain ⟨vBR0, vBR1, vBR2, vBR3⟩ := BR.out.four
        obtain ⟨vBW0, vBW1⟩ := BW.out.cells
        go_wp2_with fail
        refine (IsDisk.fits_any a L ca (.slice b M cb) (i, data) _ hLb).mono ?_
        rintro e w2 ⟨rfl, hb⟩
        have s2 := hb.size
        clear vBD0 vBD1 vBD2 vBD3 vBR0 vBR1 vBR2 vBR3 vBW0 vBW1
        replace HB := Lib.hid (HB.out.trans (hb.mono HB.out.size))
        replace BD := Lib.hid (BD.out.below hb)
        replace BR := Lib.hid (BR.out.below hb)
        replace BW := Lib.hid (BW.out.below hb)
        clear hb
        rw [HF.out]
        obtain ⟨vBD0, vBD1, vBD2, vBD3⟩ := BD.out.four
        obtain ⟨vBR0, vBR1, vBR2, vBR3⟩ := BR.out.four
        obtain ⟨vBW0, vBW1⟩ := BW.out.cells
        go_wp2_with fail
        refine (Copy.impl_any _ _ _ d h1 h2 (H.out.below HB.out)).mono ?_
        rintro e w3 ⟨_, _, rfl, hown, hb⟩
        have s3 := hb.size
        clear vBD0 vBD1 vBD2 vBD3 vBR0 vBR1 vBR2 vBR3 vBW0 vBW1
        obtain ⟨⟨ua, un, uc, rfl⟩, ⟨ub, um, ud, rfl⟩⟩ := hown.forms
        have HO := Lib.hid hown
        clear hown
        replace HB := Lib.hid (HB.out.trans (hb.mono HB.out.size))
        replace BD := Lib.hid (BD.out.below hb)
        replace BR := Lib.hid (BR.out.below hb)
        replace BW := Lib.hid (BW.out.below hb)
        clear hb
        obtain ⟨vBD0, vBD1, vBD2, vBD3⟩ := BD.out.four
        obtain ⟨vBR0, vBR1, vBR2, vBR3⟩ := BR.out.four
        obtain ⟨vBW0, vBW1⟩ := BW.out.cells
        have HI2 := Lib.hid (Dk.Own.into HO.out BD.out)
        have HR1 := Lib.hid (Dk.own_two HI2.out.1.1.1 HI2.out.1.2.1 (by decide))
        go_wp2_with (at_builtin; refine wpList_append_own _ rfl _ _ 24 rfl _ 39 j0 (.agg #[.int .i64 0, .string ⟨#[]⟩]) 2 24 Try.underlying24 hj hy0 hy1 hy2 rfl (by decide) _ _ _ rfl (World.ownsRow.alloc HI2.out.1.2.1 _) ⟨w3.heap.size, 0, none⟩ 1 1 [.int .i64 i, .string data] rfl rfl (Dk.cell_two_at _ _ _ _ _ (by simp)) (by simp [Value.oneCell']) ?c1 ?c2 ?c3 ?_)
        case c1 => unfold maxLen; omega
        case c2 => omega
        case c3 => simp; omega
        intro v9 w9 hown9 hg9 _
        obtain ⟨pa, pc, rfl⟩ := Dk.slice_of hown9
        clear HI2
        clear vBD0 vBD1 vBD2 vBD3 vBR0 vBR1 vBR2 vBR3 vBW0 vBW1
        have hI := Dk.Own.into HO.out BD.out
        replace HB := Lib.hid (Dk.below_into (b := w.heap.size) HB.out (by omega) (.slice ua un uc) (.slice ub um ud))
        replace BR := Lib.hid (Dk.Box.other (i := 1) (u := (.slice ub um ud)) (c := w.heap.size) (Dk.Box.other (i := 0) (u := (.slice ua un uc)) (c := w.heap.size) BR.out (by omega)) (by omega))
        replace BW := Lib.hid (Dk.Box.other (i := 1) (u := (.slice ub um ud)) (c := w.heap.size) (Dk.Box.other (i := 0) (u := (.slice ua un uc)) (c := w.heap.size) BW.out (by omega)) (by omega))
        replace BD := Lib.hid hI.2.1
        replace HO := Lib.hid hI.1
        have s4 := hI.2.2
        clear hI
        generalize (w3.setCell ⟨w.heap.size, 0, none⟩ (.slice ua un uc)).setCell ⟨w.heap.size, 1, none⟩ (.slice ub um ud) = w4 at HB BD BR BW HO s4 hg9 ⊢
        obtain ⟨vBD0, vBD1, vBD2, vBD3⟩ := BD.out.four
        obtain ⟨vBR0, vBR1, vBR2, vBR3⟩ := BR.out.four
        obtain ⟨vBW0, vBW1⟩ := BW.out.cells
        clear vBD0 vBD1 vBD2 vBD3 vBR0 vBR1 vBR2 vBR3 vBW0 vBW1
        have hb := Joins.below_alloc1 w4 (.cells #[.int .i64 i, .string data] 39)
        replace HB := Lib.hid (HB.out.trans (hb.mono HB.out.size))
        replace BD := Lib.hid (BD.out.below hb)
        replace BR := Lib.hid (BR.out.below hb)
        replace BW := Lib.hid (BW.out.below hb)
        replace HO := Lib.hid (HO.out.below hb)
        clear hb
        obtain ⟨vBD0, vBD1, vBD2, vBD3⟩ := BD.out.four
        obtain ⟨vBR0, vBR1, vBR2, vBR3⟩ := BR.out.four
        obtain ⟨vBW0, vBW1⟩ := BW.out.cells
        have s9 := hg9.size
        simp only [World.size_alloc] at s9
        clear vBD0 vBD1 vBD2 vBD3 vBR0 vBR1 vBR2 vBR3 vBW0 vBW1
        have ht := Dk.Turned.of_grown (lo := w2.heap.size) (hi := w3.heap.size) hg9 (fun k hk => ⟨(HO.out.2.1.lt k hk).1, HO.out.2.2 k hk⟩)
        replace HB := Lib.hid (HB.out.trans (ht.below (by omega) (by simp only [World.size_alloc]; omega)))
        replace BD := Lib.hid (Dk.Box.turned BD.out ht (by omega))
        replace BR := Lib.hid (Dk.Box.turned BR.out ht (by omega))
        have HU := Lib.hid (World.ownsRow.kept HO.out.1.1 hg9 HR1.out)
        have HN := Lib.hid (show Dk.Own w9 (w.heap.size + 1 + 1) w9.heap.size (.slice ua un uc) (.slice pa (d.2.length + 1) pc) (d.1, d.2 ++ [(i, data)]) from
          ⟨(Dk.RowIn.fresh HU.out).wide (by omega) (Nat.le_refl _), by
            have hr := (Dk.RowIn.fresh hown9).wide (lo' := w.heap.size + 1 + 1) (by omega) (Nat.le_refl _)
            simpa [wcells, Wr.wcell] using hr⟩)
        clear hown9 hg9 ht HO HU BW
        obtain ⟨vBD0, vBD1, vBD2, vBD3⟩ := BD.out.four
        obtain ⟨vBR0, vBR1, vBR2, vBR3⟩ := BR.out.four
        go_wp2
        have hN1 := Dk.Own.set (i := 1) (u := .slice pa (d.2.length + 1) pc) HN.out BD.out
        have hR1 := Dk.Box.other (i := 1) (u := .slice pa (d.2.length + 1) pc) (c := w.heap.size) BR.out (by omega)
        have hB1 := HB.out.setCell (p := ⟨w.heap.size, 1, none⟩) (Nat.le_refl _) (.slice pa (d.2.length + 1) pc)
        have hs10 : (w9.setCell ⟨w.heap.size, 1, none⟩ (.slice pa (d.2.length + 1) pc)).heap.size = w9.heap.size := World.size_setCell ..
        generalize w9.setCell ⟨w.heap.size, 1, none⟩ (.slice pa (d.2.length + 1) pc) = w10 at hN1 hR1 hB1 hs10 ⊢
        obtain ⟨hO, hF, hS⟩ := Dk.Own.into hN1 hR1
        have hBB := Dk.below_into (b := w.heap.size + 1) hB1 (by omega) (.slice ua un uc) (.slice pa (d.2.length + 1) pc)
        generalize (w10.setCell ⟨w.heap.size + 1, 0, none⟩ (.slice ua un uc)).setCell ⟨w.heap.size + 1, 1, none⟩ (.slice pa (d.2.length + 1) pc) = wf at hO hF hS hBB ⊢
        obtain ⟨c0, c1, _, _⟩ := Dk.Box.four hF
        refine bodyPost_ret (v := .tuple #[.agg #[.slice ua un uc, .slice pa (d.2.length + 1) pc], .bool true]) (by simp [results, Try.results25, go_sem, c0, c1]) rfl ⟨_, _, rfl, hO.wide (by omega) (by rw [hS]; omega), hBB⟩
    · have HF := Lib.hid (show decide (Dk.Fits L (i, data)) = false from decide_eq_false hf)
      have hR : writeF d i data = (d, false) := if_neg (fun h => hf ⟨⟨h.2.1.1, by have := h.2.1.2; have := HL.out; omega⟩, h.2.2.1⟩)
      rw [hR]
      dsimp only
      clear hR hok hf
      go_enter Try.func25, Try.ntmps25
      have HB := Lib.hid (Below.refl w.heap.size w)
      have hb := Joins.below_alloc1 w (.cells #[.slice a L ca, .slice b M cb] 26)
      replace HB := Lib.hid (HB.out.trans (hb.mono HB.out.size))
      have BD := Lib.hid (show Dk.Box (w.alloc (.cells #[.slice a L ca, .slice b M cb] 26)) (w.heap.size) _ _ 26 from Dk.blk_new w (.cells #[.slice a L ca, .slice b M cb] 26))
      clear hb
      obtain ⟨vBD0, vBD1, vBD2, vBD3⟩ := BD.out.four
      clear vBD0 vBD1 vBD2 vBD3
      have hb := Joins.below_alloc1 (w.alloc (.cells #[.slice a L ca, .slice b M cb] 26)) (.cells #[.slice none 0 0, .slice none 0 0] 26)
      replace HB := Lib.hid (HB.out.trans (hb.mono HB.out.size))
      replace BD := Lib.hid (BD.out.below hb)
      have BR := Lib.hid (show Dk.Box ((w.alloc (.cells #[.slice a L ca, .slice b M cb] 26)).alloc (.cells #[.slice none 0 0, .slice none 0 0] 26)) (w.heap.size + 1) _ _ 26 from by have hk := Dk.blk_new (w.alloc (.cells #[.slice a L ca, .slice b M cb] 26)) (.cells #[.slice none 0 0, .slice none 0 0] 26); simp only [World.size_alloc] at hk; exact hk)
      clear hb
      obtain ⟨vBD0, vBD1, vBD2, vBD3⟩ := BD.out.four
      obtain ⟨vBR0, vBR1, vBR2, vBR3⟩ := BR.out.four
      clear vBD0 vBD1 vBD2 vBD3 vBR0 vBR1 vBR2 vBR3
      have hb := Joins.below_alloc1 ((w.alloc (.cells #[.slice a L ca, .slice b M cb] 26)).alloc (.cells #[.slice none 0 0, .slice none 0 0] 26)) (.cells #[.int .i64 i, .string data] 39)
      replace HB := Lib.hid (HB.out.trans (hb.mono HB.out.size))
      replace BD := Lib.hid (BD.out.below hb)
      replace BR := Lib.hid (BR.out.below hb)
      have BW := Lib.hid (show Dk.Box (((w.alloc (.cells #[.slice a L ca, .slice b M cb] 26)).alloc (.cells #[.slice none 0 0, .slice none 0 0] 26)).alloc (.cells #[.int .i64 i, .string data] 39)) (w.heap.size + 1 + 1) _ _ 39 from by have hk := Dk.blk_new ((w.alloc (.cells #[.slice a L ca, .slice b M cb] 26)).alloc (.cells #[.slice none 0 0, .slice none 0 0] 26)) (.cells #[.int .i64 i, .string data] 39); simp only [World.size_alloc] at hk; exact hk)
      clear hb
      obtain ⟨vBD0, vBD1, vBD2, vBD3⟩ := BD.out.four
      obtain ⟨vBR0, vBR1, vBR2, vBR3⟩ := BR.out.four
      obtain ⟨vBW0, vBW1⟩ := BW.out.cells
      go_wp2_with fail
      refine (IsDisk.impl_any _ _ _ d h1 h2 (H.out.below HB.out)).mono ?_
      rintro e w1 ⟨rfl, hb⟩
      have s1 := hb.size
      simp only [World.size_alloc] at s1
      clear vBD0 vBD1 vBD2 vBD3 vBR0 vBR1 vBR2 vBR3 vBW0 vBW1
      replace HB := Lib.hid (HB.out.trans (hb.mono HB.out.size))
      replace BD := Lib.hid (BD.out.below hb)
      replace BR := Lib.hid (BR.out.below hb)
      replace BW := Lib.hid (BW.out.below hb)
      clear hb
      rw [HOK.out]
      obtain ⟨vBD0, vBD1, vBD2, vBD3⟩ := BD.out.four
      obtain ⟨vBR0, vBR1, vBR2, vBR3⟩ := BR.out.four
      obtain ⟨vBW0, vBW1⟩ := BW.out.cells
      go_wp2_with fail
      refine (IsDisk.fits_any a L ca (.slice b M cb) (i, data) _ hLb).mono ?_
      rintro e w2 ⟨rfl, hb⟩
      have s2 := hb.size
      clear vBD0 vBD1 vBD2 vBD3 vBR0 vBR1 vBR2 vBR3 vBW0 vBW1
      replace HB := Lib.hid (HB.out.trans (hb.mono HB.out.size))
      replace BD := Lib.hid (BD.out.below hb)
      replace BR := Lib.hid (BR.out.below hb)
      replace BW := Lib.hid (BW.out.below hb)
      clear hb
      rw [HF.out]
      obtain ⟨vBD0, vBD1, vBD2, vBD3⟩ := BD.out.four
      obtain ⟨vBR0, vBR1, vBR2, vBR3⟩ := BR.out.four
      obtain ⟨vBW0, vBW1⟩ := BW.out.cells
      go_wp2_with fail
      refine (Copy.impl_any _ _ _ d h1 h2 (H.out.below HB.out)).mono ?_
      rintro e w3 ⟨_, _, rfl, hown, hb⟩
      have s3 := hb.size
      clear vBD0 vBD1 vBD2 vBD3 vBR0 vBR1 vBR2 vBR3 vBW0 vBW1
      obtain ⟨⟨ua, un, uc, rfl⟩, ⟨ub, um, ud, rfl⟩⟩ := hown.forms
      have HO := Lib.hid hown
      clear hown
      replace HB := Lib.hid (HB.out.trans (hb.mono HB.out.size))
      replace BD := Lib.hid (BD.out.below hb)
      replace BR := Lib.hid (BR.out.below hb)
      replace BW := Lib.hid (BW.out.below hb)
      clear hb
      obtain ⟨vBD0, vBD1, vBD2, vBD3⟩ := BD.out.four
      obtain ⟨vBR0, vBR1, vBR2, vBR3⟩ := BR.out.four
      obtain ⟨vBW0, vBW1⟩ := BW.out.cells
      go_wp2
      clear vBD0 vBD1 vBD2 vBD3 vBR0 vBR1 vBR2 vBR3 vBW0 vBW1
      have hI := Dk.Own.into HO.out BD.out
      replace HB := Lib.hid (Dk.below_into (b := w.heap.size) HB.out (by omega) (.slice ua un uc) (.slice ub um ud))
      replace BR := Lib.hid (Dk.Box.other (i := 1) (u := (.slice ub um ud)) (c := w.heap.size) (Dk.Box.other (i := 0) (u := (.slice ua un uc)) (c := w.heap.size) BR.out (by omega)) (by omega))
      replace BW := Lib.hid (Dk.Box.other (i := 1) (u := (.slice ub um ud)) (c := w.heap.size) (Dk.Box.other (i := 0) (u := (.slice ua un uc)) (c := w.heap.size) BW.out (by omega)) (by omega))
      replace BD := Lib.hid hI.2.1
      replace HO := Lib.hid hI.1
      have s4 := hI.2.2
      clear hI
      generalize (w3.setCell ⟨w.heap.size, 0, none⟩ (.slice ua un uc)).setCell ⟨w.heap.size, 1, none⟩ (.slice ub um ud) = w4 at HB BD BR BW HO s4 ⊢
      obtain ⟨vBD0, vBD1, vBD2, vBD3⟩ := BD.out.four
      obtain ⟨vBR0, vBR1, vBR2, vBR3⟩ := BR.out.four
      obtain ⟨vBW0, vBW1⟩ := BW.out.cells
      go_wp2
      obtain ⟨hO, hF, hS⟩ := Dk.Own.into HO.out BR.out
      have hBB := Dk.below_into (b := w.heap.size + 1) HB.out (by omega) (.slice ua un uc) (.slice ub um ud)
      generalize (w4.setCell ⟨w.heap.size + 1, 0, none⟩ (.slice ua un uc)).setCell ⟨w.heap.size + 1, 1, none⟩ (.slice ub um ud) = wf at hO hF hS hBB ⊢
      obtain ⟨c0, c1, _, _⟩ := Dk.Box.four hF
      exact bodyPost_ret (v := .tuple #[.agg #[.slice ua un uc, .slice ub um ud], .bool false]) (by simp [results, Try.results25, go_sem, c0, c1]) rfl ⟨_, _, rfl, hO.wide (by (try simp only [World.size_alloc]); omega) (by rw [hS]; (try simp only [World.size_alloc]); omega), hBB⟩
  · have HOK := Lib.hid (show decide (Ok d) = false from decide_eq_false hok)
    have hR : writeF d i data = (d, false) := if_neg (fun h => hok h.1)
    rw [hR]
    dsimp only
    clear hR hok
    go_enter Try.func25, Try.ntmps25
    have HB := Lib.hid (Below.refl w.heap.size w)
    have hb := Joins.below_alloc1 w (.cells #[.slice a L ca, .slice b M cb] 26)
    replace HB := Lib.hid (HB.out.trans (hb.mono HB.out.size))
    have BD := Lib.hid (show Dk.Box (w.alloc (.cells #[.slice a L ca, .slice b M cb] 26)) (w.heap.size) _ _ 26 from Dk.blk_new w (.cells #[.slice a L ca, .slice b M cb] 26))
    clear hb
    obtain ⟨vBD0, vBD1, vBD2, vBD3⟩ := BD.out.four
    clear vBD0 vBD1 vBD2 vBD3
    have hb := Joins.below_alloc1 (w.alloc (.cells #[.slice a L ca, .slice b M cb] 26)) (.cells #[.slice none 0 0, .slice none 0 0] 26)
    replace HB := Lib.hid (HB.out.trans (hb.mono HB.out.size))
    replace BD := Lib.hid (BD.out.below hb)
    have BR := Lib.hid (show Dk.Box ((w.alloc (.cells #[.slice a L ca, .slice b M cb] 26)).alloc (.cells #[.slice none 0 0, .slice none 0 0] 26)) (w.heap.size + 1) _ _ 26 from by have hk := Dk.blk_new (w.alloc (.cells #[.slice a L ca, .slice b M cb] 26)) (.cells #[.slice none 0 0, .slice none 0 0] 26); simp only [World.size_alloc] at hk; exact hk)
    clear hb
    obtain ⟨vBD0, vBD1, vBD2, vBD3⟩ := BD.out.four
    obtain ⟨vBR0, vBR1, vBR2, vBR3⟩ := BR.out.four
    clear vBD0 vBD1 vBD2 vBD3 vBR0 vBR1 vBR2 vBR3
    have hb := Joins.below_alloc1 ((w.alloc (.cells #[.slice a L ca, .slice b M cb] 26)).alloc (.cells #[.slice none 0 0, .slice none 0 0] 26)) (.cells #[.int .i64 i, .string data] 39)
    replace HB := Lib.hid (HB.out.trans (hb.mono HB.out.size))
    replace BD := Lib.hid (BD.out.below hb)
    replace BR := Lib.hid (BR.out.below hb)
    have BW := Lib.hid (show Dk.Box (((w.alloc (.cells #[.slice a L ca, .slice b M cb] 26)).alloc (.cells #[.slice none 0 0, .slice none 0 0] 26)).alloc (.cells #[.int .i64 i, .string data] 39)) (w.heap.size + 1 + 1) _ _ 39 from by have hk := Dk.blk_new ((w.alloc (.cells #[.slice a L ca, .slice b M cb] 26)).alloc (.cells #[.slice none 0 0, .slice none 0 0] 26)) (.cells #[.int .i64 i, .string data] 39); simp only [World.size_alloc] at hk; exact hk)
    clear hb
    obtain ⟨vBD0, vBD1, vBD2, vBD3⟩ := BD.out.four
    obtain ⟨vBR0, vBR1, vBR2, vBR3⟩ := BR.out.four
    obtain ⟨vBW0, vBW1⟩ := BW.out.cells
    go_wp2_with fail
    refine (IsDisk.impl_any _ _ _ d h1 h2 (H.out.below HB.out)).mono ?_
    rintro e w1 ⟨rfl, hb⟩
    have s1 := hb.size
    simp only [World.size_alloc] at s1
    clear vBD0 vBD1 vBD2 vBD3 vBR0 vBR1 vBR2 vBR3 vBW0 vBW1
    replace HB := Lib.hid (HB.out.trans (hb.mono HB.out.size))
    replace BD := Lib.hid (BD.out.below hb)
    replace BR := Lib.hid (BR.out.below hb)
    replace BW := Lib.hid (BW.out.below hb)
    clear hb
    rw [HOK.out]
    obtain ⟨vBD0, vBD1, vBD2, vBD3⟩ := BD.out.four
    obtain ⟨vBR0, vBR1, vBR2, vBR3⟩ := BR.out.four
    obtain ⟨vBW0, vBW1⟩ := BW.out.cells
    go_wp2_with fail
    refine (Copy.impl_any _ _ _ d h1 h2 (H.out.below HB.out)).mono ?_
    rintro e w2 ⟨_, _, rfl, hown, hb⟩
    have s2 := hb.size
    clear vBD0 vBD1 vBD2 vBD3 vBR0 vBR1 vBR2 vBR3 vBW0 vBW1
    obtain ⟨⟨ua, un, uc, rfl⟩, ⟨ub, um, ud, rfl⟩⟩ := hown.forms
    have HO := Lib.hid hown
    clear hown
    replace HB := Lib.hid (HB.out.trans (hb.mono HB.out.size))
    replace BD := Lib.hid (BD.out.below hb)
    replace BR := Lib.hid (BR.out.below hb)
    replace BW := Lib.hid (BW.out.below hb)
    clear hb
    obtain ⟨vBD0, vBD1, vBD2, vBD3⟩ := BD.out.four
    obtain ⟨vBR0, vBR1, vBR2, vBR3⟩ := BR.out.four
    obtain ⟨vBW0, vBW1⟩ := BW.out.cells
    go_wp2
    clear vBD0 vBD1 vBD2 vBD3 vBR0 vBR1 vBR2 vBR3 vBW0 vBW1
    have hI := Dk.Own.into HO.out BD.out
    replace HB := Lib.hid (Dk.below_into (b := w.heap.size) HB.out (by omega) (.slice ua un uc) (.slice ub um ud))
    replace BR := Lib.hid (Dk.Box.other (i := 1) (u := (.slice ub um ud)) (c := w.heap.size) (Dk.Box.other (i := 0) (u := (.slice ua un uc)) (c := w.heap.size) BR.out (by omega)) (by omega))
    replace BW := Lib.hid (Dk.Box.other (i := 1) (u := (.slice ub um ud)) (c := w.heap.size) (Dk.Box.other (i := 0) (u := (.slice ua un uc)) (c := w.heap.size) BW.out (by omega)) (by omega))
    replace BD := Lib.hid hI.2.1
    replace HO := Lib.hid hI.1
    have s3 := hI.2.2
    clear hI
    generalize (w2.setCell ⟨w.heap.size, 0, none⟩ (.slice ua un uc)).setCell ⟨w.heap.size, 1, none⟩ (.slice ub um ud) = w3 at HB BD BR BW HO s3 ⊢
    obtain ⟨vBD0, vBD1, vBD2, vBD3⟩ := BD.out.four
    obtain ⟨vBR0, vBR1, vBR2, vBR3⟩ := BR.out.four
    obtain ⟨vBW0, vBW1⟩ := BW.out.cells
    go_wp2
    obtain ⟨hO, hF, hS⟩ := Dk.Own.into HO.out BR.out
    have hBB := Dk.below_into (b := w.heap.size + 1) HB.out (by omega) (.slice ua un uc) (.slice ub um ud)
    generalize (w3.setCell ⟨w.heap.size + 1, 0, none⟩ (.slice ua un uc)).setCell ⟨w.heap.size + 1, 1, none⟩ (.slice ub um ud) = wf at hO hF hS hBB ⊢
    obtain ⟨c0, c1, _, _⟩ := Dk.Box.four hF
    exact bodyPost_ret (v := .tuple #[.agg #[.slice ua un uc, .slice ub um ud], .bool false]) (by simp [results, Try.results25, go_sem, c0, c1]) rfl ⟨_, _, rfl, hO.wide (by (try simp only [World.size_alloc]); omega) (by rw [hS]; (try simp only [World.size_alloc]); omega), hBB⟩
end Go.Proofs.Ytgapjdkelkmdgaa.WriteS
