/- Proved: at every code, the law FnDisk returns true: a sector reads as what was written last, a flush changes no reading, a crash keeps only the chosen writes. No condition beyond the row's own. -/
import Derived.Test.YtbfbcfnnajaeeaaDrawMake
import Derived.Test.YtbfbcfnnajaeeaaRepeat
import Derived.Test.YtbfbcfnnajaeeaaDiskFacts
import Derived.Test.YtbfbcfnnajaeeaaReadImpl
import Derived.Test.YtbfbcfnnajaeeaaFlush
import Derived.Test.YtbfbcfnnajaeeaaSame
import Derived.Test.YtbfbcfnnajaeeaaBl
import Derived.Test.YtbfbcfnnajaeeaaCode
import Derived.Test.YtbfbcfnnajaeeaaCrashLaw
namespace Go.Proofs.Ytbfbcfnnajaeeaa.FnDisk
open Go.ChangeShapes Go.WideShapes Go.ChangeAt Go.RowKit
open Go.ChangeMaps (open_string shut_string)
open Dk (D Holds Ok In Own cost costOf cost_pos cost_neg cost_len sz_any to_any eq_any mark_all held_all)
open RowG
open Cur (CodeIn)
open Store (HoldsB)
set_option linter.unusedVariables false

theorem own_len {w : World} {base : Nat} {e : TypeId} {size : Nat} {a : Option Addr} {m c n : Nat} {xs : List Value} (h : w.ownsRow base e size (.slice a m c) n xs) : m = n := by
  obtain ⟨a', c', he⟩ := Dk.slice_of h
  cases he
  rfl
theorem own_lens {w : World} {lo hi : Nat} {a b : Option Addr} {n m c c' : Nat} {d : D} (h : Dk.Own w lo hi (.slice a n c) (.slice b m c') d) : n = d.1.length ∧ m = d.2.length := ⟨own_len h.1.1, own_len h.2.1⟩
theorem nil_keep (w : World) : HoldsB w (.slice none 0 0) [] := ⟨none, 0, rfl, fun i hi => by simp at hi⟩
theorem raw_zero : (madeCells #[Value.int .u8 0] 32).toList = cellsB (List.replicate 32 0) := by
  rw [toList_madeCells_one]
  simp [cellsB]
theorem at_all {w : World} {a : Option Addr} {n c : Nat} {vp : Value} {d : D} (h : Holds w (.slice a n c) vp d) (hn : 0 < n) : ∃ b o, a = some ⟨b, o, none⟩ ∧ b < w.heap.size ∧ ∀ j, j < n → w.cell? ⟨b, o + j, none⟩ = some (.string (d.1.getD j ⟨#[]⟩)) := by
  obtain ⟨a', cap, he, hc⟩ := h.1
  cases he
  obtain ⟨b, o, e, hb, hj⟩ := hc (by intro e; rw [e] at hn; simp at hn)
  exact ⟨b, o, e, hb, hj⟩

set_option maxRecDepth 100000 in
set_option maxHeartbeats 4000000 in
theorem law_any (cv : Value) (ns : List Nat) (w : World) (hc : CodeIn w w.heap.size cv ns) :
    Calls Try.prog 3 #[cv] w fun e w' => e = .returned (.bool true) ∧ Below w.heap.size w w' := by
  obtain ⟨i0, hi, hz0, hz1, hz2⟩ := info_parts byteInfo
  have HZ2 := Lib.hid hz2
  clear hz2
  obtain ⟨q0, hq, hqz, hq1, hq2⟩ := info_parts Bl.boolInfo
  have HCD := Lib.hid hc
  have hlen := hc.choose_spec.choose_spec.2.1
  obtain ⟨a, cap, rfl⟩ : ∃ a cap, cv = .slice a ns.length cap := ⟨_, _, hc.choose_spec.choose_spec.1⟩
  clear hc
  have hl2 : ¬ (1048576 : Int) < (ns.length : Int) := by omega
  go_enter Try.func3, Try.ntmps3
  have HB := Lib.hid (Below.refl w.heap.size w)
  go_wp2_with fail
  refine (Draw.make_any _ _ ns HCD.out).mono ?_
  rintro e w1 ⟨_, _, d, rfl, hok, hlen, hown, hb⟩
  have s1 := hb.size
  obtain ⟨⟨ta, tn, tc, rfl⟩, ⟨tb, tm, td, rfl⟩⟩ := hown.forms
  have HD := Lib.hid hown
  clear hown
  replace HB := Lib.hid (HB.out.trans (hb.mono HB.out.size))
  clear hb
  have HOKD := Lib.hid hok
  clear hok
  obtain ⟨hl1, hl2, hl3⟩ := hlen
  have ET := Lib.hid (own_lens HD.out)
  have ht1 : 1 ≤ tn := by have := ET.out.1; omega
  have ht2 : tn ≤ 4 := by have := ET.out.1; omega
  have hb := Joins.below_alloc1 w1 (.cells #[.slice ta tn tc, .slice tb tm td] 26)
  replace HB := Lib.hid (HB.out.trans (hb.mono HB.out.size))
  replace HD := Lib.hid (HD.out.below hb)
  have BT := Lib.hid (show Dk.Box (w1.alloc (.cells #[.slice ta tn tc, .slice tb tm td] 26)) (w1.heap.size) _ _ 26 from Dk.blk_new w1 (.cells #[.slice ta tn tc, .slice tb tm td] 26))
  clear hb
  obtain ⟨vBT0, vBT1⟩ := BT.out.cells
  go_wp2_with (at_make; refine wpList_make_full _ rfl _ _ 22 rfl (w1.heap.size + 1) 5 i0 (.int .u8 0) 1 Try.underlying22 hi hz0 hz1 .i64 .i64 _ _ 32 rfl rfl rfl rfl ?c1 ?c2 ?c3 ?_)
  case c1 => rw [HZ2.out]; decide
  case c2 => unfold maxLen; omega
  case c3 => simp
  intro w2 hown hg
  have s2 := hg.size
  try simp only [World.size_alloc] at s2
  try simp only [World.size_alloc] at hown
  rw [raw_zero] at hown
  have hb : Below ((w1.alloc (.cells #[.slice ta tn tc, .slice tb tm td] 26))).heap.size (w1.alloc (.cells #[.slice ta tn tc, .slice tb tm td] 26)) w2 := (Below.refl _ _).grown hg (Nat.le_refl _) (fun k hk => by cases hk)
  clear hg
  clear vBT0 vBT1
  replace HB := Lib.hid (HB.out.trans (hb.mono HB.out.size))
  replace BT := Lib.hid (BT.out.below hb)
  replace HD := Lib.hid (HD.out.below hb)
  have HRAW := Lib.hid hown
  clear hb hown
  obtain ⟨vBT0, vBT1⟩ := BT.out.cells
  go_wp2_with fail
  refine (MakeBytes.make_any _ _ ns 3 (by omega) (Draw.code_at HCD.out HB.out)).mono ?_
  rintro e w3 ⟨s0, _, rfl, hb⟩
  have s3 := hb.size
  clear vBT0 vBT1
  replace HB := Lib.hid (HB.out.trans (hb.mono HB.out.size))
  replace BT := Lib.hid (BT.out.below hb)
  replace HD := Lib.hid (HD.out.below hb)
  replace HRAW := Lib.hid (Strs.own_below HRAW.out hb)
  clear hb
  obtain ⟨l, cv9, w4, hrun, hll, hown, hg⟩ := DiskF.run_copy_head (P := Try.prog) w3 22 9 3 5 (w1.heap.size + 1) 32 s0 _ (w1.heap.size + 1) Try.underlying22 (by rw [hi]; simp [hz1]) HRAW.out
  obtain ⟨vBT0, vBT1⟩ := BT.out.cells
  go_wp2_with (with_reducible refine Lib.wpList_copy_run _ rfl _ _ 22 9 rfl _ _ rfl rfl hrun ?_)
  clear vBT0 vBT1
  have s4 := hg.size
  have ht := Dk.Turned.of_grown (lo := w1.heap.size + 1) (hi := w1.heap.size + 1 + 1) hg (fun k hk => by cases hk; exact ⟨by omega, by omega⟩)
  replace HB := Lib.hid (HB.out.trans (ht.below (by omega) (by omega)))
  replace BT := Lib.hid (BT.out.turned ht (by omega))
  replace HD := Lib.hid (HD.out.turned ht (by omega))
  have hbk := back_own hown
  obtain ⟨data, hdata⟩ : ∃ data : ByteArray, data = ⟨l.toArray⟩ := ⟨_, rfl⟩
  have h32 : data.size = 32 := by rw [hdata]; simpa [ByteArray.size] using hll
  rw [← hdata] at hbk
  clear hg ht hrun hown hdata hll HRAW
  obtain ⟨x, f, c, hfacts⟩ := DiskF.facts d data HOKD.out hl1 hl3 h32
  have HF := Lib.hid hfacts
  have lx1 : x.1.length ≤ 4 := by have := hfacts.lx1; omega
  have lx2 : x.2.length ≤ 4 := by have := hfacts.lx2; omega
  have lf1 : f.1.length ≤ 4 := by have := hfacts.lf1; omega
  have lf2 : f.2.length ≤ 4 := by have := hfacts.lf2; omega
  have lc1 : c.1.length ≤ 4 := by have := hfacts.lc1; omega
  have lc2 : c.2.length ≤ 4 := by have := hfacts.lc2; omega
  clear hfacts
  obtain ⟨vBT0, vBT1⟩ := BT.out.cells
  go_wp2_with fail
  try rw [hbk]
  go_wp2_with fail
  refine (WriteS.impl_any _ (.slice ta tn tc) (.slice tb tm td) d 0 data (by omega) (by omega) (by omega) HD.out.holds).mono ?_
  rintro e w5 ⟨_, _, rfl, hown, hb⟩
  have s5 := hb.size
  clear vBT0 vBT1
  rw [HF.out.write] at hown ⊢
  dsimp only at hown
  obtain ⟨⟨xa, xn, xc, rfl⟩, ⟨xb, xm, xd, rfl⟩⟩ := hown.forms
  have HX := Lib.hid hown
  clear hown
  replace HB := Lib.hid (HB.out.trans (hb.mono HB.out.size))
  replace BT := Lib.hid (BT.out.below hb)
  replace HD := Lib.hid (HD.out.below hb)
  clear hb
  have EX := Lib.hid (own_lens HX.out)
  have hxm : xm ≤ 4 := by have := EX.out.2; omega
  obtain ⟨vBT0, vBT1⟩ := BT.out.cells
  try clear hbk
  clear vBT0 vBT1
  have hb := Joins.below_alloc1 w5 (.cells #[.slice xa xn xc, .slice xb xm xd] 26)
  replace HB := Lib.hid (HB.out.trans (hb.mono HB.out.size))
  replace BT := Lib.hid (BT.out.below hb)
  replace HD := Lib.hid (HD.out.below hb)
  replace HX := Lib.hid (HX.out.below hb)
  have BX := Lib.hid (show Dk.Box (w5.alloc (.cells #[.slice xa xn xc, .slice xb xm xd] 26)) (w5.heap.size) _ _ 26 from Dk.blk_new w5 (.cells #[.slice xa xn xc, .slice xb xm xd] 26))
  clear hb
  obtain ⟨vBT0, vBT1⟩ := BT.out.cells
  obtain ⟨vBX0, vBX1⟩ := BX.out.cells
  go_wp2_with fail
  refine (Flush.impl_all _ (.slice xa xn xc) (.slice xb xm xd) x (by omega) (by omega) HX.out.holds).mono ?_
  rintro e w6 ⟨_, _, rfl, hown, hb⟩
  have s6 := hb.size
  simp only [World.size_alloc] at s6
  clear vBT0 vBT1 vBX0 vBX1
  rw [HF.out.flush] at hown
  obtain ⟨⟨fa, fn, fc, rfl⟩, ⟨fb, fm, fd, rfl⟩⟩ := hown.forms
  have HFL := Lib.hid hown
  clear hown
  replace HB := Lib.hid (HB.out.trans (hb.mono HB.out.size))
  replace BT := Lib.hid (BT.out.below hb)
  replace BX := Lib.hid (BX.out.below hb)
  replace HD := Lib.hid (HD.out.below hb)
  replace HX := Lib.hid (HX.out.below hb)
  clear hb
  have EF := Lib.hid (own_lens HFL.out)
  obtain ⟨vBT0, vBT1⟩ := BT.out.cells
  obtain ⟨vBX0, vBX1⟩ := BX.out.cells
  clear vBT0 vBT1 vBX0 vBX1
  have hb := Joins.below_alloc1 w6 (.cells #[.slice fa fn fc, .slice fb fm fd] 26)
  replace HB := Lib.hid (HB.out.trans (hb.mono HB.out.size))
  replace BT := Lib.hid (BT.out.below hb)
  replace BX := Lib.hid (BX.out.below hb)
  replace HD := Lib.hid (HD.out.below hb)
  replace HX := Lib.hid (HX.out.below hb)
  replace HFL := Lib.hid (HFL.out.below hb)
  have BF := Lib.hid (show Dk.Box (w6.alloc (.cells #[.slice fa fn fc, .slice fb fm fd] 26)) (w6.heap.size) _ _ 26 from Dk.blk_new w6 (.cells #[.slice fa fn fc, .slice fb fm fd] 26))
  clear hb
  obtain ⟨vBT0, vBT1⟩ := BT.out.cells
  obtain ⟨vBX0, vBX1⟩ := BX.out.cells
  obtain ⟨vBF0, vBF1⟩ := BF.out.cells
  go_wp2_with fail
  refine (Flush.impl_keep _ (.slice xa xn xc) (.slice xb xm xd) [] (.slice none 0 0) x (by omega) (by omega) (by simp) (nil_keep _) HX.out.holds).mono ?_
  rintro e w7 ⟨_, _, rfl, hown, hb⟩
  have s7 := hb.size
  simp only [World.size_alloc] at s7
  clear vBT0 vBT1 vBX0 vBX1 vBF0 vBF1
  rw [HF.out.crash] at hown
  obtain ⟨⟨ca, cn, cc, rfl⟩, ⟨cb, cm, cd, rfl⟩⟩ := hown.forms
  have HCR := Lib.hid hown
  clear hown
  replace HB := Lib.hid (HB.out.trans (hb.mono HB.out.size))
  replace BT := Lib.hid (BT.out.below hb)
  replace BX := Lib.hid (BX.out.below hb)
  replace BF := Lib.hid (BF.out.below hb)
  replace HD := Lib.hid (HD.out.below hb)
  replace HX := Lib.hid (HX.out.below hb)
  replace HFL := Lib.hid (HFL.out.below hb)
  clear hb
  have EC := Lib.hid (own_lens HCR.out)
  obtain ⟨vBT0, vBT1⟩ := BT.out.cells
  obtain ⟨vBX0, vBX1⟩ := BX.out.cells
  obtain ⟨vBF0, vBF1⟩ := BF.out.cells
  clear vBT0 vBT1 vBX0 vBX1 vBF0 vBF1
  have hb := Joins.below_alloc1 w7 (.cells #[.slice ca cn cc, .slice cb cm cd] 26)
  replace HB := Lib.hid (HB.out.trans (hb.mono HB.out.size))
  replace BT := Lib.hid (BT.out.below hb)
  replace BX := Lib.hid (BX.out.below hb)
  replace BF := Lib.hid (BF.out.below hb)
  replace HD := Lib.hid (HD.out.below hb)
  replace HX := Lib.hid (HX.out.below hb)
  replace HFL := Lib.hid (HFL.out.below hb)
  replace HCR := Lib.hid (HCR.out.below hb)
  have BC := Lib.hid (show Dk.Box (w7.alloc (.cells #[.slice ca cn cc, .slice cb cm cd] 26)) (w7.heap.size) _ _ 26 from Dk.blk_new w7 (.cells #[.slice ca cn cc, .slice cb cm cd] 26))
  clear hb
  obtain ⟨vBT0, vBT1⟩ := BT.out.cells
  obtain ⟨vBX0, vBX1⟩ := BX.out.cells
  obtain ⟨vBF0, vBF1⟩ := BF.out.cells
  obtain ⟨vBC0, vBC1⟩ := BC.out.cells
  clear vBT0 vBT1 vBX0 vBX1 vBF0 vBF1 vBC0 vBC1
  have hb := Joins.below_alloc1 (w7.alloc (.cells #[.slice ca cn cc, .slice cb cm cd] 26)) (.cells #[] 4)
  replace HB := Lib.hid (HB.out.trans (hb.mono HB.out.size))
  replace BT := Lib.hid (BT.out.below hb)
  replace BX := Lib.hid (BX.out.below hb)
  replace BF := Lib.hid (BF.out.below hb)
  replace BC := Lib.hid (BC.out.below hb)
  replace HD := Lib.hid (HD.out.below hb)
  replace HX := Lib.hid (HX.out.below hb)
  replace HFL := Lib.hid (HFL.out.below hb)
  replace HCR := Lib.hid (HCR.out.below hb)
  clear hb
  obtain ⟨vBT0, vBT1⟩ := BT.out.cells
  obtain ⟨vBX0, vBX1⟩ := BX.out.cells
  obtain ⟨vBF0, vBF1⟩ := BF.out.cells
  obtain ⟨vBC0, vBC1⟩ := BC.out.cells
  have HE := Lib.hid (show (((w7.alloc (.cells #[.slice ca cn cc, .slice cb cm cd] 26)).alloc (.cells #[] 4))).heap[w7.heap.size + 1]? = some (.cells #[] 4 (0, 0)) from Copy.blk_at (by simp))
  go_wp2_with fail
  clear vBT0 vBT1 vBX0 vBX1 vBF0 vBF1 vBC0 vBC1
  have hsA : (((w7.alloc (.cells #[.slice ca cn cc, .slice cb cm cd] 26)).alloc (.cells #[] 4))).heap.size = w7.heap.size + 1 + 1 := by simp
  generalize ((w7.alloc (.cells #[.slice ca cn cc, .slice cb cm cd] 26)).alloc (.cells #[] 4)) = wA at HB BT BX BF BC HD HX HFL HCR HE hsA ⊢
  go_loopw [10, 38] (fun v iv wr => ∃ k : Nat, k ≤ xm ∧ iv = .int .i64 k ∧ wr.ownsRow (w7.heap.size + 1) 4 1 v k (List.replicate k (Value.bool true)) ∧ Below (w7.heap.size + 1) wA wr) (fun _ iv _ => xm - (intOf iv).toNat)
  case atStart => exact ⟨0, Nat.zero_le _, rfl, Copy.empty_own HE.out (Nat.le_refl _), Below.refl _ _⟩
  case round =>
    obtain ⟨k, hk, rfl, hown, hb⟩ := hrel
    have HOW := Lib.hid hown
    have HBE := Lib.hid hb
    have hsz := hb.size
    clear hown hb
    by_cases hlt : k < xm
    · go_wp2_with (first | (at_builtin; refine wpList_append_own _ rfl _ _ 33 rfl (w7.heap.size + 1) 4 q0 (.bool false) 1 1 Try.underlying33 hq hqz hq1 hq2 rfl (by decide) _ _ _ rfl (HOW.out.alloc _) ⟨wr.heap.size, 0, none⟩ 1 1 [.bool true] rfl rfl ?c1 ?c2 ?c3 ?c4 ?c5 ?_))
      case c1 => exact cell_one_new _ _ _
      case c2 => simp [Value.oneCell']
      case c3 => unfold maxLen; omega
      case c4 => omega
      case c5 => simp; omega
      intro v' w8 hown8 hg8 _
      have HO8 := Lib.hid (show w8.ownsRow (w7.heap.size + 1) 4 1 v' (k + 1) (List.replicate (k + 1) (Value.bool true)) from by rw [List.replicate_succ']; exact hown8)
      have HB8 := Lib.hid ((HBE.out.alloc (by omega) _).grown hg8 (by simp; omega) (fun k hk => (HOW.out.lt k hk).1))
      clear hown8 hg8
      go_wp2_with fail
      go_roundw
      case rel => exact ⟨k + 1, by omega, by go_num, HO8.out, HB8.out⟩
      case measure => simp [intOf]; omega
    · have hkx : k = xm := by omega
      rw [hkx] at HOW
      clear hkx
      have HKB := Lib.hid (Bl.holds_of_own (bs := List.replicate xm true) (by rw [List.map_replicate]; exact HOW.out))
      have hb := HBE.out
      have ht : Dk.Turned wA wr (w7.heap.size + 1) wA.heap.size := ⟨hb.os, hb.tape, hb.output, hb.size, fun q hq hc => hb.block q (by omega)⟩
      replace HB := Lib.hid (HB.out.trans (ht.below (by omega) (by omega)))
      replace BT := Lib.hid (BT.out.turned ht (by omega))
      replace BX := Lib.hid (BX.out.turned ht (by omega))
      replace BF := Lib.hid (BF.out.turned ht (by omega))
      replace BC := Lib.hid (BC.out.turned ht (by omega))
      replace HD := Lib.hid (HD.out.turned ht (by omega))
      replace HX := Lib.hid (HX.out.turned ht (by omega))
      replace HFL := Lib.hid (HFL.out.turned ht (by omega))
      replace HCR := Lib.hid (HCR.out.turned ht (by omega))
      clear HOW HBE hb ht
      obtain ⟨wp, rfl⟩ : ∃ wp, wp = wr := ⟨wr, rfl⟩
      obtain ⟨ba, oa, rfl, hba, hca⟩ : ∃ b o, ta = some ⟨b, o, none⟩ ∧ b < wp.heap.size ∧ ∀ j, j < tn → wp.cell? ⟨b, o + j, none⟩ = some (.string (d.1.getD j ⟨#[]⟩)) := at_all HD.out.holds (by omega)
      have HCA := Lib.hid hca
      clear hca
      obtain ⟨vBT0, vBT1⟩ := BT.out.cells
      obtain ⟨vBX0, vBX1⟩ := BX.out.cells
      obtain ⟨vBF0, vBF1⟩ := BF.out.cells
      obtain ⟨vBC0, vBC1⟩ := BC.out.cells
      go_wp2_with fail
      clear vBT0 vBT1 vBX0 vBX1 vBF0 vBF1 vBC0 vBC1
      go_loopw [47] (fun iv wr => ∃ j : Nat, j ≤ tn ∧ iv = .int .i64 j ∧ Below wp.heap.size wp wr) (fun iv _ => tn - (intOf iv).toNat)
      case atStart => exact ⟨0, Nat.zero_le _, rfl, Below.refl _ _⟩
      case round =>
        obtain ⟨j, hj, rfl, hb⟩ := hrel
        have hsq := hb.size
        replace HB := Lib.hid (HB.out.trans (hb.mono HB.out.size))
        replace BT := Lib.hid (BT.out.below hb)
        replace BX := Lib.hid (BX.out.below hb)
        replace BF := Lib.hid (BF.out.below hb)
        replace BC := Lib.hid (BC.out.below hb)
        replace HD := Lib.hid (HD.out.below hb)
        replace HX := Lib.hid (HX.out.below hb)
        replace HFL := Lib.hid (HFL.out.below hb)
        replace HCR := Lib.hid (HCR.out.below hb)
        replace HKB := Lib.hid (HKB.out.below hb)
        have HBQ := Lib.hid hb
        clear hb
        by_cases hlt : j < tn
        · have hjn : (j : Int) < (tn : Int) := by omega
          have h0n : (0 : Int) ≤ (j : Int) := by omega
          have HCJ := Lib.hid ((HBQ.out.cell (p := ⟨ba, oa + j, none⟩) hba).trans (HCA.out j hlt))
          have HS1 := Lib.hid (HF.out.same j (by have := ET.out.1; omega))
          have HS3 := Lib.hid (HF.out.gone j (by have := ET.out.1; omega))

          obtain ⟨q, hq0⟩ : ∃ q, ReadS.readF x j = q := ⟨_, rfl⟩
          have HS2 := Lib.hid hq0
          rw [hq0] at HS1
          clear hq0
          generalize d.1.getD j ⟨#[]⟩ = sj at HCJ HS3
          have vj := HCJ.out
          have OA := Lib.hid True.intro
          have OB := Lib.hid True.intro
          obtain ⟨vBT0, vBT1⟩ := BT.out.cells
          obtain ⟨vBX0, vBX1⟩ := BX.out.cells
          obtain ⟨vBF0, vBF1⟩ := BF.out.cells
          obtain ⟨vBC0, vBC1⟩ := BC.out.cells
          go_wp2
          go_region_held3 (fun w' => w'.cell? ⟨w6.heap.size, 0, none⟩ = some (.slice fa fn fc) ∧ w'.cell? ⟨w6.heap.size, 1, none⟩ = some (.slice fb fm fd) ∧ w'.cell? ⟨w5.heap.size, 0, none⟩ = some (.slice xa xn xc) ∧ w'.cell? ⟨w5.heap.size, 1, none⟩ = some (.slice xb xm xd) ∧ w'.cell? ⟨w7.heap.size, 0, none⟩ = some (.slice ca cn cc) ∧ w'.cell? ⟨w7.heap.size, 1, none⟩ = some (.slice cb cm cd) ∧ w'.cell? ⟨w1.heap.size, 0, none⟩ = some (.slice (some ⟨ba, oa, none⟩) tn tc) ∧ w'.cell? ⟨ba, oa + j, none⟩ = some (.string sj)) (go_keep)
            (first | (go_at_call 16; have _q := OA.out; clear _q OA; replace HB := Lib.hid HB.out.drew; replace BT := Lib.hid (show Dk.Box (World.drew wr) _ _ _ _ from BT.out); replace BX := Lib.hid (show Dk.Box (World.drew wr) _ _ _ _ from BX.out); replace BF := Lib.hid (show Dk.Box (World.drew wr) _ _ _ _ from BF.out); replace BC := Lib.hid (show Dk.Box (World.drew wr) _ _ _ _ from BC.out); replace HD := Lib.hid (show Dk.Own (World.drew wr) _ _ _ _ _ from HD.out); replace HX := Lib.hid (show Dk.Own (World.drew wr) _ _ _ _ _ from HX.out); replace HFL := Lib.hid (show Dk.Own (World.drew wr) _ _ _ _ _ from HFL.out); replace HCR := Lib.hid (show Dk.Own (World.drew wr) _ _ _ _ _ from HCR.out); replace HKB := Lib.hid (show HoldsB (World.drew wr) _ _ from HKB.out); replace HBQ := Lib.hid HBQ.out.drew; replace HCJ := Lib.hid (show (World.drew wr).cell? _ = _ from HCJ.out); refine (ReadI.impl_any _ (.slice fa fn fc) (.slice fb fm fd) f (j : Int) (by omega) (by omega) HFL.out.holds).mono ?_; rintro e wf ⟨rfl, hb⟩; rw [HS1.out]; have s_wf := hb.size; try simp only [World.size_drew] at s_wf; replace HB := Lib.hid (HB.out.trans (hb.mono HB.out.size)); replace BT := Lib.hid (Dk.Box.below BT.out hb); replace BX := Lib.hid (Dk.Box.below BX.out hb); replace BF := Lib.hid (Dk.Box.below BF.out hb); replace BC := Lib.hid (Dk.Box.below BC.out hb); replace HD := Lib.hid (Dk.Own.below HD.out hb); replace HX := Lib.hid (Dk.Own.below HX.out hb); replace HFL := Lib.hid (Dk.Own.below HFL.out hb); replace HCR := Lib.hid (Dk.Own.below HCR.out hb); replace HKB := Lib.hid (HKB.out.below hb); replace HBQ := Lib.hid (HBQ.out.trans (hb.mono HBQ.out.size)); replace HCJ := Lib.hid ((hb.cell (World.block_lt_of_cell? _ _ HCJ.out)).trans HCJ.out); clear hb; obtain ⟨vBTwf0, vBTwf1⟩ := BT.out.cells; obtain ⟨vBXwf0, vBXwf1⟩ := BX.out.cells; obtain ⟨vBFwf0, vBFwf1⟩ := BF.out.cells; obtain ⟨vBCwf0, vBCwf1⟩ := BC.out.cells; have vjwf := HCJ.out) | (go_at_call 16; have _q := OB.out; clear _q OB; refine (ReadI.impl_any _ (.slice xa xn xc) (.slice xb xm xd) x (j : Int) (by omega) (by omega) HX.out.holds).mono ?_; rintro e wx ⟨rfl, hb⟩; rw [HS2.out]; have s_wx := hb.size; replace HB := Lib.hid (HB.out.trans (hb.mono HB.out.size)); replace BT := Lib.hid (Dk.Box.below BT.out hb); replace BX := Lib.hid (Dk.Box.below BX.out hb); replace BF := Lib.hid (Dk.Box.below BF.out hb); replace BC := Lib.hid (Dk.Box.below BC.out hb); replace HD := Lib.hid (Dk.Own.below HD.out hb); replace HX := Lib.hid (Dk.Own.below HX.out hb); replace HFL := Lib.hid (Dk.Own.below HFL.out hb); replace HCR := Lib.hid (Dk.Own.below HCR.out hb); replace HKB := Lib.hid (HKB.out.below hb); replace HBQ := Lib.hid (HBQ.out.trans (hb.mono HBQ.out.size)); replace HCJ := Lib.hid ((hb.cell (World.block_lt_of_cell? _ _ HCJ.out)).trans HCJ.out); clear hb; obtain ⟨vBTwx0, vBTwx1⟩ := BT.out.cells; obtain ⟨vBXwx0, vBXwx1⟩ := BX.out.cells; obtain ⟨vBFwx0, vBFwx1⟩ := BF.out.cells; obtain ⟨vBCwx0, vBCwx1⟩ := BC.out.cells; have vjwx := HCJ.out) | (go_at_call 16; refine (ReadI.impl_any _ (.slice ca cn cc) (.slice cb cm cd) c (j : Int) (by omega) (by omega) HCR.out.holds).mono ?_; rintro e wc ⟨rfl, hb⟩; rw [HS3.out]; have s_wc := hb.size; replace HB := Lib.hid (HB.out.trans (hb.mono HB.out.size)); replace BT := Lib.hid (Dk.Box.below BT.out hb); replace BX := Lib.hid (Dk.Box.below BX.out hb); replace BF := Lib.hid (Dk.Box.below BF.out hb); replace BC := Lib.hid (Dk.Box.below BC.out hb); replace HD := Lib.hid (Dk.Own.below HD.out hb); replace HX := Lib.hid (Dk.Own.below HX.out hb); replace HFL := Lib.hid (Dk.Own.below HFL.out hb); replace HCR := Lib.hid (Dk.Own.below HCR.out hb); replace HKB := Lib.hid (HKB.out.below hb); replace HBQ := Lib.hid (HBQ.out.trans (hb.mono HBQ.out.size)); replace HCJ := Lib.hid ((hb.cell (World.block_lt_of_cell? _ _ HCJ.out)).trans HCJ.out); clear hb; obtain ⟨vBTwc0, vBTwc1⟩ := BT.out.cells; obtain ⟨vBXwc0, vBXwc1⟩ := BX.out.cells; obtain ⟨vBFwc0, vBFwc1⟩ := BF.out.cells; obtain ⟨vBCwc0, vBCwc1⟩ := BC.out.cells; have vjwc := HCJ.out))
          go_wp2
          go_roundw
          case rel => exact ⟨j + 1, by omega, by go_num, HBQ.out⟩
          case measure => simp [intOf]; omega
        · have HEV := Lib.hid (show Store.storeV (Store.keepP (List.replicate xm true)) x = f from by rw [EX.out.2]; exact HF.out.every)
          have hfm : fm = 0 := by have h1 := EF.out.2; have h2 := HF.out.lf2; omega
          subst hfm
          have htn : (0 : Int) < (tn : Int) := by omega
          clear HBQ
          obtain ⟨vBT0, vBT1⟩ := BT.out.cells
          obtain ⟨vBX0, vBX1⟩ := BX.out.cells
          obtain ⟨vBF0, vBF1⟩ := BF.out.cells
          obtain ⟨vBC0, vBC1⟩ := BC.out.cells
          go_wp2
          go_region_held3 (fun w' => w'.cell? ⟨w1.heap.size, 0, none⟩ = some (.slice (some ⟨ba, oa, none⟩) tn tc) ∧ w'.cell? ⟨w1.heap.size, 1, none⟩ = some (.slice tb tm td) ∧ w'.cell? ⟨w5.heap.size, 0, none⟩ = some (.slice xa xn xc) ∧ w'.cell? ⟨w5.heap.size, 1, none⟩ = some (.slice xb xm xd) ∧ w'.cell? ⟨w6.heap.size, 0, none⟩ = some (.slice fa fn fc) ∧ w'.cell? ⟨w6.heap.size, 1, none⟩ = some (.slice fb 0 fd)) (go_keep)
            (first | (go_at_call 17; replace HB := Lib.hid HB.out.drew; replace BT := Lib.hid (show Dk.Box (World.drew wr) _ _ _ _ from BT.out); replace BX := Lib.hid (show Dk.Box (World.drew wr) _ _ _ _ from BX.out); replace BF := Lib.hid (show Dk.Box (World.drew wr) _ _ _ _ from BF.out); replace BC := Lib.hid (show Dk.Box (World.drew wr) _ _ _ _ from BC.out); replace HD := Lib.hid (show Dk.Own (World.drew wr) _ _ _ _ _ from HD.out); replace HX := Lib.hid (show Dk.Own (World.drew wr) _ _ _ _ _ from HX.out); replace HFL := Lib.hid (show Dk.Own (World.drew wr) _ _ _ _ _ from HFL.out); replace HCR := Lib.hid (show Dk.Own (World.drew wr) _ _ _ _ _ from HCR.out); replace HKB := Lib.hid (show HoldsB (World.drew wr) _ _ from HKB.out); refine (IsDisk.impl_any _ (.slice (some ⟨ba, oa, none⟩) tn tc) (.slice tb tm td) d (by omega) (by omega) HD.out.holds).mono ?_; rintro e wi ⟨rfl, hb⟩; rw [HF.out.okd]; have s_wi := hb.size; try simp only [World.size_drew] at s_wi; replace HB := Lib.hid (HB.out.trans (hb.mono HB.out.size)); replace BT := Lib.hid (Dk.Box.below BT.out hb); replace BX := Lib.hid (Dk.Box.below BX.out hb); replace BF := Lib.hid (Dk.Box.below BF.out hb); replace BC := Lib.hid (Dk.Box.below BC.out hb); replace HD := Lib.hid (Dk.Own.below HD.out hb); replace HX := Lib.hid (Dk.Own.below HX.out hb); replace HFL := Lib.hid (Dk.Own.below HFL.out hb); replace HCR := Lib.hid (Dk.Own.below HCR.out hb); replace HKB := Lib.hid (HKB.out.below hb); clear hb; obtain ⟨vBTwi0, vBTwi1⟩ := BT.out.cells; obtain ⟨vBXwi0, vBXwi1⟩ := BX.out.cells; obtain ⟨vBFwi0, vBFwi1⟩ := BF.out.cells; obtain ⟨vBCwi0, vBCwi1⟩ := BC.out.cells) | (go_at_call 16; refine (ReadI.impl_any _ (.slice xa xn xc) (.slice xb xm xd) x 0 (by omega) (by omega) HX.out.holds).mono ?_; rintro e wx ⟨rfl, hb⟩; rw [HF.out.last]; have s_wx := hb.size; replace HB := Lib.hid (HB.out.trans (hb.mono HB.out.size)); replace BT := Lib.hid (Dk.Box.below BT.out hb); replace BX := Lib.hid (Dk.Box.below BX.out hb); replace BF := Lib.hid (Dk.Box.below BF.out hb); replace BC := Lib.hid (Dk.Box.below BC.out hb); replace HD := Lib.hid (Dk.Own.below HD.out hb); replace HX := Lib.hid (Dk.Own.below HX.out hb); replace HFL := Lib.hid (Dk.Own.below HFL.out hb); replace HCR := Lib.hid (Dk.Own.below HCR.out hb); replace HKB := Lib.hid (HKB.out.below hb); clear hb; obtain ⟨vBTwx0, vBTwx1⟩ := BT.out.cells; obtain ⟨vBXwx0, vBXwx1⟩ := BX.out.cells; obtain ⟨vBFwx0, vBFwx1⟩ := BF.out.cells; obtain ⟨vBCwx0, vBCwx1⟩ := BC.out.cells) | (go_at_call 15; refine (Flush.impl_keep _ (.slice xa xn xc) (.slice xb xm xd) (List.replicate xm true) u10 x (by omega) (by omega) (by rw [List.length_replicate]; omega) HKB.out HX.out.holds).mono ?_; rintro e wk ⟨_, _, rfl, hown, hb⟩; rw [HEV.out] at hown; obtain ⟨⟨ya, yn, yc, rfl⟩, ⟨yb, ym, yd, rfl⟩⟩ := hown.forms; have HY := Lib.hid hown; clear hown; have s_wk := hb.size; replace HB := Lib.hid (HB.out.trans (hb.mono HB.out.size)); replace BT := Lib.hid (Dk.Box.below BT.out hb); replace BX := Lib.hid (Dk.Box.below BX.out hb); replace BF := Lib.hid (Dk.Box.below BF.out hb); replace BC := Lib.hid (Dk.Box.below BC.out hb); replace HD := Lib.hid (Dk.Own.below HD.out hb); replace HX := Lib.hid (Dk.Own.below HX.out hb); replace HFL := Lib.hid (Dk.Own.below HFL.out hb); replace HCR := Lib.hid (Dk.Own.below HCR.out hb); replace HKB := Lib.hid (HKB.out.below hb); clear hb; obtain ⟨vBTwk0, vBTwk1⟩ := BT.out.cells; obtain ⟨vBXwk0, vBXwk1⟩ := BX.out.cells; obtain ⟨vBFwk0, vBFwk1⟩ := BF.out.cells; obtain ⟨vBCwk0, vBCwk1⟩ := BC.out.cells) | (go_at_call 18; refine (Same.impl_any _ (.slice ya yn yc) (.slice yb ym yd) (.slice fa fn fc) (.slice fb 0 fd) f f (by omega) (by omega) (by omega) (by omega) HY.out.holds HFL.out.holds).mono ?_; rintro e ws ⟨rfl, hb⟩; rw [decide_eq_true (rfl : f = f)]; have s_ws := hb.size; replace HB := Lib.hid (HB.out.trans (hb.mono HB.out.size)); replace BT := Lib.hid (Dk.Box.below BT.out hb); replace BX := Lib.hid (Dk.Box.below BX.out hb); replace BF := Lib.hid (Dk.Box.below BF.out hb); replace BC := Lib.hid (Dk.Box.below BC.out hb); replace HD := Lib.hid (Dk.Own.below HD.out hb); replace HX := Lib.hid (Dk.Own.below HX.out hb); replace HFL := Lib.hid (Dk.Own.below HFL.out hb); replace HCR := Lib.hid (Dk.Own.below HCR.out hb); replace HKB := Lib.hid (HKB.out.below hb); clear hb; obtain ⟨vBTws0, vBTws1⟩ := BT.out.cells; obtain ⟨vBXws0, vBXws1⟩ := BX.out.cells; obtain ⟨vBFws0, vBFws1⟩ := BF.out.cells; obtain ⟨vBCws0, vBCws1⟩ := BC.out.cells))
          go_wp2
          go_ret
          exact ⟨Dk.ret_bool (decide_eq_true (by omega)), HB.out⟩

theorem law_big (a0 : Option Addr) (len0 cap0 : Nat) (w : World) (h : 1048576 < len0) :
    Calls Try.prog 3 #[.slice a0 len0 cap0] w fun e w' => e = .returned (.bool true) ∧ Below w.heap.size w w' := by
  have h2 : (1048576 : Int) < (len0 : Int) := by omega
  go_enter Try.func3, Try.ntmps3
  go_wp2_with fail
  go_ret
  exact ⟨rfl, Below.refl _ _⟩

set_option maxRecDepth 100000 in
theorem lifted (os : Os) (started : os.Started) (H : Type) (enc : TypeId × Value → H) :
    ReturnsInHanded {} Try.checked os 3 .any (Rows.fnDiskSpec.pre6 enc Try.prog Try.f3 Rows.fnDiskRow.domain false) (Rows.fnDiskSpec.post enc Try.prog Try.f3 false true false false) := by
  refine returnsInHanded_of_change (C := Try.checked) Kit.own started (by kernel_rfl) Try.func3
    (ChangeSpec.witness6 (enc := enc) (C := Try.checked) false ⟨#[], #[.slice none 0 0], []⟩ 8 (by kernel_rfl) (by kernel_rfl) (by kernel_rfl) (by kernel_rfl)) ?_
  intro W base args ds gs before hval0 hW hcnd _
  have hval : ∀ (j : Nat) t v, Try.f3.params[j]? = some t → args[j]? = some v → Value.okWide Try.prog W .any base t v := hval0
  have hW' := hW
  obtain ⟨p, q, hA0, hV, rfl, hfz, hnd⟩ := hW
  have hA : DataW.TrodAll enc Try.prog W 0 (fun _ => true) true Try.f3.params.toList args.toList ds p := hA0
  rw [Try.params3] at hA hval
  obtain ⟨v0, d0, rfl, rfl, h0⟩ := trodAll_one hA
  obtain ⟨a0, len0, cap0, rfl⟩ := okWide_slice Try.underlying22 (hval 0 22 v0 rfl rfl)
  have hlaw : Calls Try.prog 3 #[.slice a0 len0 cap0] W fun e w' => e = .returned (.bool true) ∧ Below W.heap.size W w' := by
    by_cases hbig : 1048576 < len0
    · exact law_big _ _ _ W hbig
    · obtain ⟨ns, hns, hcode⟩ := Cur.open_code h0 (by omega)
      exact law_any _ ns W hcode
  refine hlaw.mono fun e W' ⟨he, hb⟩ => ?_
  subst he
  exact ⟨_, rfl, Kit.law_post Kit.laidOut (by kernel_rfl) Try.underlying4 rfl rfl (fun H ds hl => by match ds, hl with | [d0], _ => rfl) hW' hb⟩

theorem holds : Rows.FnDiskSaid :=
  OpenClaim.holds_of_wide 3 Try.f3 rfl rfl rfl rfl rfl rfl rfl ⟨rfl, rfl, rfl, rfl, rfl⟩ rfl rfl rfl rfl rfl (by kernel_rfl) Try.func3 (by kernel_rfl)
    (of_decide_eq_true (by kernel_rfl)) (by unfold Func.isWrapper; first | (rw [if_pos (by decide +kernel)]; kernel_rfl) | (rw [if_neg (by decide +kernel)]; exact ⟨rfl, rfl⟩))
    (fun os started H enc _ => lifted os started H enc)
#print axioms holds
end Go.Proofs.Ytbfbcfnnajaeeaa.FnDisk
