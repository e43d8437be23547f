/- Proved: for every string the law FnExactUnpackInode returns true: the program's UnpackInode answers as the model's, in memory of its own. Condition: none beyond the row's own (a tied card: the table of the fields reads as the program's text lays it). -/
import Derived.Test.YthobdeidjagnhaaDoorFlK
import Derived.Test.YthobdeidjagnhaaDoorUnBase
import Derived.Test.YthobdeidjagnhaaDoorLaidN
import Derived.Test.YthobdeidjagnhaaDoorKitV
import Derived.Test.YthobdeidjagnhaaDoorCards
import Derived.Test.YthobdeidjagnhaaDoorTie
import Derived.SevenTiedAt
namespace Go.Proofs.YthobdeidjagnhaaDoor.UnpackInodeLaw
open Go.ChangeShapes Go.WideShapes Go.ChangeAt Go.RowKit
open Go.ChangeMaps (open_string shut_string)
open Foot
set_option linter.unusedVariables false

theorem un_cost (s : ByteArray) : In.cost (InoV.unpackI s).1 ≤ 20 := by
  unfold InoV.unpackI
  split
  · exact InUi.read_cost s
  · decide
set_option maxRecDepth 100000 in
set_option maxHeartbeats 6400000 in
theorem law_any (s : ByteArray) (w : World) (hz : s.size ≤ maxLen) (hv : InOk.Vars w) :
    Calls Tryd.prog 6 #[.string s] w fun e w' => e = .returned (.bool true) ∧ Below w.heap.size w w' := by
  unfold maxLen at hz
  by_cases hs : s.size ≤ 1048576
  · have HV := Lib.hid hv
    have hS : ∀ W : World, Calls Tryd.prog 19 #[.string s] W fun e w' => ∃ v S, e = .returned (.tuple #[v, .bool (InoV.unpackI s).2]) ∧ In.Own w' W.heap.size v (InoV.unpackI s).1 S ∧ Below W.heap.size W w' := fun W => InUs.unpack_any s W hs
    have hI : ∀ W : World, InOk.Vars W → Calls Tryd.prog 8 #[.string s] W fun e w' => ∃ v S, e = .returned (.tuple #[v, .bool (InoV.unpackI s).2]) ∧ In.Own w' W.heap.size v (InoV.unpackI s).1 S ∧ Below W.heap.size W w' := fun W hv => InUi.unpack_any s W hs hv
    have hu := un_cost s
    generalize (InoV.unpackI s).1 = res0 at hS hI hu
    generalize (InoV.unpackI s).2 = rb at hS hI
    have hu0 : In.cost res0 ≤ 1073741824 := by omega
    have hw0 : 1 + In.wid res0 ≤ 1073741824 := by
      have := In.wid_cost res0
      omega
    have HS := Lib.hid hS
    have HI := Lib.hid hI
    obtain ⟨K, hK⟩ : ∃ K, K = 1 + In.wid res0 := ⟨_, rfl⟩
    have HK := Lib.hid hK
    clear hK hS hI hv hu
    go_enter Tryd.func6, Tryd.ntmps6
    have HB := Lib.hid (Below.refl w.heap.size w)
    go_wp2_with fail
    refine (HS.out _).mono ?_
    rintro e w1 ⟨p, SW, rfl, hown, hb⟩
    have s1 := hb.size
    have hlies := In.own_lies hown
    obtain ⟨p0, p1, p2, p3, p4, p5, p6, p7a, p7n, p7c, p8a, p8n, p8c, p9a, p9n, p9c, rfl⟩ := In.own_form hown
    have RW := Lib.hid hown
    have LRW := Lib.hid hlies
    clear hown hlies
    replace HB := Lib.hid (HB.out.trans (hb.mono HB.out.size))
    clear hb
    have hb := Joins.below_alloc1 w1 (.cells #[.int .i64 p0, .int .i64 p1, .int .i64 p2, .int .i64 p3, .int .i64 p4, .int .i64 p5, .int .i64 p6, .slice p7a p7n p7c, .slice p8a p8n p8c, .slice p9a p9n p9c] 26)
    replace HB := Lib.hid (HB.out.trans (hb.mono HB.out.size))
    replace RW := Lib.hid (In.own_below RW.out hb)
    have BW := Lib.hid (Bx.new_at w1 #[.int .i64 p0, .int .i64 p1, .int .i64 p2, .int .i64 p3, .int .i64 p4, .int .i64 p5, .int .i64 p6, .slice p7a p7n p7c, .slice p8a p8n p8c, .slice p9a p9n p9c] 26 (w1.heap.size) (by simp))
    clear hb
    obtain ⟨vBW0, vBW1, vBW2, vBW3, vBW4, vBW5, vBW6, vBW7, vBW8, vBW9⟩ := Bx.Bk.c10 BW.out
    go_wp2_with fail
    refine (HI.out _ (HV.out.all HB.out)).mono ?_
    rintro e w2 ⟨g, SG, rfl, hown, hb⟩
    have s2 := hb.size
    simp only [World.size_alloc] at s2
    clear vBW0 vBW1 vBW2 vBW3 vBW4 vBW5 vBW6 vBW7 vBW8 vBW9
    have hlies := In.own_lies hown
    simp only [World.size_alloc] at hlies
    obtain ⟨g0, g1, g2, g3, g4, g5, g6, g7a, g7n, g7c, g8a, g8n, g8c, g9a, g9n, g9c, rfl⟩ := In.own_form hown
    have RG := Lib.hid hown
    have LRG := Lib.hid hlies
    clear hown hlies
    replace HB := Lib.hid (HB.out.trans (hb.mono HB.out.size))
    replace BW := Lib.hid (Bx.Bk.all BW.out hb)
    replace RW := Lib.hid (In.own_below RW.out hb)
    clear hb
    obtain ⟨vBW0, vBW1, vBW2, vBW3, vBW4, vBW5, vBW6, vBW7, vBW8, vBW9⟩ := Bx.Bk.c10 BW.out
    clear vBW0 vBW1 vBW2 vBW3 vBW4 vBW5 vBW6 vBW7 vBW8 vBW9
    have hb := Joins.below_alloc1 w2 (.cells #[.int .i64 g0, .int .i64 g1, .int .i64 g2, .int .i64 g3, .int .i64 g4, .int .i64 g5, .int .i64 g6, .slice g7a g7n g7c, .slice g8a g8n g8c, .slice g9a g9n g9c] 26)
    replace HB := Lib.hid (HB.out.trans (hb.mono HB.out.size))
    replace BW := Lib.hid (Bx.Bk.all BW.out hb)
    replace RW := Lib.hid (In.own_below RW.out hb)
    replace RG := Lib.hid (In.own_below RG.out hb)
    have BG := Lib.hid (Bx.new_at w2 #[.int .i64 g0, .int .i64 g1, .int .i64 g2, .int .i64 g3, .int .i64 g4, .int .i64 g5, .int .i64 g6, .slice g7a g7n g7c, .slice g8a g8n g8c, .slice g9a g9n g9c] 26 (w2.heap.size) (by simp))
    clear hb
    obtain ⟨vBW0, vBW1, vBW2, vBW3, vBW4, vBW5, vBW6, vBW7, vBW8, vBW9⟩ := Bx.Bk.c10 BW.out
    obtain ⟨vBG0, vBG1, vBG2, vBG3, vBG4, vBG5, vBG6, vBG7, vBG8, vBG9⟩ := Bx.Bk.c10 BG.out
    go_wp2_with fail
    refine (In.eq_any _ (.agg #[.int .i64 g0, .int .i64 g1, .int .i64 g2, .int .i64 g3, .int .i64 g4, .int .i64 g5, .int .i64 g6, .slice g7a g7n g7c, .slice g8a g8n g8c, .slice g9a g9n g9c]) (.agg #[.int .i64 p0, .int .i64 p1, .int .i64 p2, .int .i64 p3, .int .i64 p4, .int .i64 p5, .int .i64 p6, .slice p7a p7n p7c, .slice p8a p8n p8c, .slice p9a p9n p9c]) res0 (by omega) (In.own_holds RG.out) (In.own_holds RW.out)).mono ?_
    rintro e w3 ⟨rfl, hb⟩
    have s3 := hb.size
    simp only [World.size_alloc] at s3
    clear vBW0 vBW1 vBW2 vBW3 vBW4 vBW5 vBW6 vBW7 vBW8 vBW9 vBG0 vBG1 vBG2 vBG3 vBG4 vBG5 vBG6 vBG7 vBG8 vBG9
    replace HB := Lib.hid (HB.out.trans (hb.mono HB.out.size))
    replace BW := Lib.hid (Bx.Bk.all BW.out hb)
    replace BG := Lib.hid (Bx.Bk.all BG.out hb)
    replace RW := Lib.hid (In.own_below RW.out hb)
    replace RG := Lib.hid (In.own_below RG.out hb)
    clear hb
    obtain ⟨vBW0, vBW1, vBW2, vBW3, vBW4, vBW5, vBW6, vBW7, vBW8, vBW9⟩ := Bx.Bk.c10 BW.out
    obtain ⟨vBG0, vBG1, vBG2, vBG3, vBG4, vBG5, vBG6, vBG7, vBG8, vBG9⟩ := Bx.Bk.c10 BG.out
    go_wp2_with fail
    refine (In.mark_any _ _ (.agg #[.int .i64 g0, .int .i64 g1, .int .i64 g2, .int .i64 g3, .int .i64 g4, .int .i64 g5, .int .i64 g6, .slice g7a g7n g7c, .slice g8a g8n g8c, .slice g9a g9n g9c]) res0 _ 1 (by omega) (by omega) RG.out).mono ?_
    rintro e w4 ⟨rfl, hown, hc⟩
    have s4 := hc.size
    clear vBW0 vBW1 vBW2 vBW3 vBW4 vBW5 vBW6 vBW7 vBW8 vBW9 vBG0 vBG1 vBG2 vBG3 vBG4 vBG5 vBG6 vBG7 vBG8 vBG9
    replace HB := Lib.hid (FlK.below_chg HB.out hc (by (try simp only [World.size_alloc]); omega) LRG.out (by omega))
    replace BW := Lib.hid (FlK.bk_chg BW.out hc (by first | exact FlK.not_in_low LRG.out (by omega) | exact FlK.not_in_high LRG.out (by omega)))
    replace BG := Lib.hid (FlK.bk_chg BG.out hc (by first | exact FlK.not_in_low LRG.out (by omega) | exact FlK.not_in_high LRG.out (by omega)))
    replace RW := Lib.hid (In.own_chg RW.out hc (Foot.Lies.apart LRW.out LRG.out (by omega)))
    replace RG := Lib.hid hown
    clear hown hc
    rw [← HK.out]
    obtain ⟨vBW0, vBW1, vBW2, vBW3, vBW4, vBW5, vBW6, vBW7, vBW8, vBW9⟩ := Bx.Bk.c10 BW.out
    obtain ⟨vBG0, vBG1, vBG2, vBG3, vBG4, vBG5, vBG6, vBG7, vBG8, vBG9⟩ := Bx.Bk.c10 BG.out
    go_wp2_with fail
    refine (In.held_any _ (.agg #[.int .i64 g0, .int .i64 g1, .int .i64 g2, .int .i64 g3, .int .i64 g4, .int .i64 g5, .int .i64 g6, .slice g7a g7n g7c, .slice g8a g8n g8c, .slice g9a g9n g9c]) res0 1 (by omega) (by omega) (In.own_holds RG.out)).mono ?_
    rintro e w5 ⟨rfl, hb⟩
    have s5 := hb.size
    clear vBW0 vBW1 vBW2 vBW3 vBW4 vBW5 vBW6 vBW7 vBW8 vBW9 vBG0 vBG1 vBG2 vBG3 vBG4 vBG5 vBG6 vBG7 vBG8 vBG9
    rw [← HK.out]
    replace HB := Lib.hid (HB.out.trans (hb.mono HB.out.size))
    replace BW := Lib.hid (Bx.Bk.all BW.out hb)
    replace BG := Lib.hid (Bx.Bk.all BG.out hb)
    replace RW := Lib.hid (In.own_below RW.out hb)
    replace RG := Lib.hid (In.own_below RG.out hb)
    clear hb
    obtain ⟨vBW0, vBW1, vBW2, vBW3, vBW4, vBW5, vBW6, vBW7, vBW8, vBW9⟩ := Bx.Bk.c10 BW.out
    obtain ⟨vBG0, vBG1, vBG2, vBG3, vBG4, vBG5, vBG6, vBG7, vBG8, vBG9⟩ := Bx.Bk.c10 BG.out
    go_wp2_with fail
    refine (HI.out _ (HV.out.all HB.out)).mono ?_
    rintro e w6 ⟨h, SH, rfl, hown, hb⟩
    have s6 := hb.size
    clear vBW0 vBW1 vBW2 vBW3 vBW4 vBW5 vBW6 vBW7 vBW8 vBW9 vBG0 vBG1 vBG2 vBG3 vBG4 vBG5 vBG6 vBG7 vBG8 vBG9
    have hlies := In.own_lies hown
    obtain ⟨h0, h1, h2, h3, h4, h5, h6, h7a, h7n, h7c, h8a, h8n, h8c, h9a, h9n, h9c, rfl⟩ := In.own_form hown
    have RH := Lib.hid hown
    have LRH := Lib.hid hlies
    clear hown hlies
    replace HB := Lib.hid (HB.out.trans (hb.mono HB.out.size))
    replace BW := Lib.hid (Bx.Bk.all BW.out hb)
    replace BG := Lib.hid (Bx.Bk.all BG.out hb)
    replace RW := Lib.hid (In.own_below RW.out hb)
    replace RG := Lib.hid (In.own_below RG.out hb)
    clear hb
    obtain ⟨vBW0, vBW1, vBW2, vBW3, vBW4, vBW5, vBW6, vBW7, vBW8, vBW9⟩ := Bx.Bk.c10 BW.out
    obtain ⟨vBG0, vBG1, vBG2, vBG3, vBG4, vBG5, vBG6, vBG7, vBG8, vBG9⟩ := Bx.Bk.c10 BG.out
    clear vBW0 vBW1 vBW2 vBW3 vBW4 vBW5 vBW6 vBW7 vBW8 vBW9 vBG0 vBG1 vBG2 vBG3 vBG4 vBG5 vBG6 vBG7 vBG8 vBG9
    have hb := Joins.below_alloc1 w6 (.cells #[.int .i64 h0, .int .i64 h1, .int .i64 h2, .int .i64 h3, .int .i64 h4, .int .i64 h5, .int .i64 h6, .slice h7a h7n h7c, .slice h8a h8n h8c, .slice h9a h9n h9c] 26)
    replace HB := Lib.hid (HB.out.trans (hb.mono HB.out.size))
    replace BW := Lib.hid (Bx.Bk.all BW.out hb)
    replace BG := Lib.hid (Bx.Bk.all BG.out hb)
    replace RW := Lib.hid (In.own_below RW.out hb)
    replace RG := Lib.hid (In.own_below RG.out hb)
    replace RH := Lib.hid (In.own_below RH.out hb)
    have BH := Lib.hid (Bx.new_at w6 #[.int .i64 h0, .int .i64 h1, .int .i64 h2, .int .i64 h3, .int .i64 h4, .int .i64 h5, .int .i64 h6, .slice h7a h7n h7c, .slice h8a h8n h8c, .slice h9a h9n h9c] 26 (w6.heap.size) (by simp))
    clear hb
    obtain ⟨vBW0, vBW1, vBW2, vBW3, vBW4, vBW5, vBW6, vBW7, vBW8, vBW9⟩ := Bx.Bk.c10 BW.out
    obtain ⟨vBG0, vBG1, vBG2, vBG3, vBG4, vBG5, vBG6, vBG7, vBG8, vBG9⟩ := Bx.Bk.c10 BG.out
    obtain ⟨vBH0, vBH1, vBH2, vBH3, vBH4, vBH5, vBH6, vBH7, vBH8, vBH9⟩ := Bx.Bk.c10 BH.out
    go_wp2_with fail
    refine (In.eq_any _ (.agg #[.int .i64 h0, .int .i64 h1, .int .i64 h2, .int .i64 h3, .int .i64 h4, .int .i64 h5, .int .i64 h6, .slice h7a h7n h7c, .slice h8a h8n h8c, .slice h9a h9n h9c]) (.agg #[.int .i64 p0, .int .i64 p1, .int .i64 p2, .int .i64 p3, .int .i64 p4, .int .i64 p5, .int .i64 p6, .slice p7a p7n p7c, .slice p8a p8n p8c, .slice p9a p9n p9c]) res0 (by omega) (In.own_holds RH.out) (In.own_holds RW.out)).mono ?_
    rintro e w7 ⟨rfl, hb⟩
    have s7 := hb.size
    simp only [World.size_alloc] at s7
    clear vBW0 vBW1 vBW2 vBW3 vBW4 vBW5 vBW6 vBW7 vBW8 vBW9 vBG0 vBG1 vBG2 vBG3 vBG4 vBG5 vBG6 vBG7 vBG8 vBG9 vBH0 vBH1 vBH2 vBH3 vBH4 vBH5 vBH6 vBH7 vBH8 vBH9
    replace HB := Lib.hid (HB.out.trans (hb.mono HB.out.size))
    replace BW := Lib.hid (Bx.Bk.all BW.out hb)
    replace BG := Lib.hid (Bx.Bk.all BG.out hb)
    replace BH := Lib.hid (Bx.Bk.all BH.out hb)
    replace RW := Lib.hid (In.own_below RW.out hb)
    replace RG := Lib.hid (In.own_below RG.out hb)
    replace RH := Lib.hid (In.own_below RH.out hb)
    clear hb
    obtain ⟨vBW0, vBW1, vBW2, vBW3, vBW4, vBW5, vBW6, vBW7, vBW8, vBW9⟩ := Bx.Bk.c10 BW.out
    obtain ⟨vBG0, vBG1, vBG2, vBG3, vBG4, vBG5, vBG6, vBG7, vBG8, vBG9⟩ := Bx.Bk.c10 BG.out
    obtain ⟨vBH0, vBH1, vBH2, vBH3, vBH4, vBH5, vBH6, vBH7, vBH8, vBH9⟩ := Bx.Bk.c10 BH.out
    go_wp2_with fail
    refine (In.held_any _ (.agg #[.int .i64 g0, .int .i64 g1, .int .i64 g2, .int .i64 g3, .int .i64 g4, .int .i64 g5, .int .i64 g6, .slice g7a g7n g7c, .slice g8a g8n g8c, .slice g9a g9n g9c]) res0 1 (by omega) (by omega) (In.own_holds RG.out)).mono ?_
    rintro e w8 ⟨rfl, hb⟩
    have s8 := hb.size
    clear vBW0 vBW1 vBW2 vBW3 vBW4 vBW5 vBW6 vBW7 vBW8 vBW9 vBG0 vBG1 vBG2 vBG3 vBG4 vBG5 vBG6 vBG7 vBG8 vBG9 vBH0 vBH1 vBH2 vBH3 vBH4 vBH5 vBH6 vBH7 vBH8 vBH9
    rw [← HK.out]
    replace HB := Lib.hid (HB.out.trans (hb.mono HB.out.size))
    replace BW := Lib.hid (Bx.Bk.all BW.out hb)
    replace BG := Lib.hid (Bx.Bk.all BG.out hb)
    replace BH := Lib.hid (Bx.Bk.all BH.out hb)
    replace RW := Lib.hid (In.own_below RW.out hb)
    replace RG := Lib.hid (In.own_below RG.out hb)
    replace RH := Lib.hid (In.own_below RH.out hb)
    clear hb
    obtain ⟨vBW0, vBW1, vBW2, vBW3, vBW4, vBW5, vBW6, vBW7, vBW8, vBW9⟩ := Bx.Bk.c10 BW.out
    obtain ⟨vBG0, vBG1, vBG2, vBG3, vBG4, vBG5, vBG6, vBG7, vBG8, vBG9⟩ := Bx.Bk.c10 BG.out
    obtain ⟨vBH0, vBH1, vBH2, vBH3, vBH4, vBH5, vBH6, vBH7, vBH8, vBH9⟩ := Bx.Bk.c10 BH.out
    go_wp2
    go_ret
    exact ⟨rfl, HB.out⟩
  · have hd : decide ((1048576 : Int) < (s.size : Int)) = true := decide_eq_true (by omega)
    have hd2 : (1048576 : Int) < (s.size : Int) := by omega
    go_enter Tryd.func6, Tryd.ntmps6
    go_wp2
    go_ret
    exact ⟨rfl, Below.refl _ _⟩

set_option maxRecDepth 100000 in
theorem lifted (os : Os) (started : os.Started) (H : Type) (enc : TypeId × Value → H) :
    ReturnsInHanded {} Tryd.checked os 6 .any (fun w args => (Rows.fnExactUnpackInodeSpec.pre enc Tryd.prog Tryd.f6 [] false w args ∧ laidMetH Tryd.prog Rows.fnExactUnpackInodeRow.laid w) ∧ sizedMet enc Tryd.prog Tryd.f6 (OpenSpec.ofChange Rows.fnExactUnpackInodeSpec) false w args)
      (Rows.fnExactUnpackInodeSpec.post enc Tryd.prog Tryd.f6 false true false false) := by
  refine returnsInHanded_of_change_and (C := Tryd.checked) (X := fun w _ => laidMetH Tryd.prog Rows.fnExactUnpackInodeRow.laid w) (fun _ _ _ hh h => h.of_heap hh) Kit.own started (by kernel_rfl) Tryd.func6
    (ChangeSpec.witness_shaped (enc := enc) (C := Tryd.checked) (os := os) (X := fun w _ => laidMetH Tryd.prog Rows.fnExactUnpackInodeRow.laid w) false (World.doorLaid Tryd.prog 400 os) #[.string ⟨#[]⟩] 8 rfl (World.shaped_of_RefB (by kernel_rfl) (by kernel_rfl)) (by kernel_rfl) (by kernel_rfl) (by kernel_rfl) (LaidN.door1 os _)) ?_
  intro W base args ds gs before hval0 hW _ _ hL _
  have hval : ∀ (j : Nat) t v, Tryd.f6.params[j]? = some t → args[j]? = some v → Value.okWide Tryd.prog W .any base t v := hval0
  have hW' := hW
  obtain ⟨p, q, hA0, hV, rfl, hfz, hnd⟩ := hW
  have hA : DataW.TrodAll enc Tryd.prog W 0 (fun _ => true) true Tryd.f6.params.toList args.toList ds p := hA0
  rw [Tryd.params6] at hA hval
  obtain ⟨v0, d0, rfl, rfl, h0⟩ := trodAll_one hA
  obtain ⟨a0, rfl, rfl, rfl, w0⟩ := open_string Tryd.underlying9 (hval 0 9 v0 rfl rfl) h0
  refine (law_any a0 W w0 (LaidN.vars_of hL)).mono fun e W' ⟨he, hb⟩ => ?_
  subst he
  exact ⟨_, rfl, KitV.law_post Kit.laidOut (by kernel_rfl) (by kernel_rfl) Tryd.underlying4 rfl (fun H ds gs hl hg => by match ds, gs, hl, hg with | [d0], [g0], _, _ => rfl) hW' hb⟩

theorem said : Rows.FnExactUnpackInodeSaid :=
  OpenClaim.holds_of_wide 6 Tryd.f6 rfl rfl rfl rfl rfl rfl rfl ⟨rfl, rfl, rfl, rfl, rfl⟩ rfl rfl rfl rfl rfl (by kernel_rfl) Tryd.func6 (by kernel_rfl)
    (of_decide_eq_true (by kernel_rfl)) (by unfold Func.isWrapper; first | (rw [if_pos (by decide +kernel)]; kernel_rfl) | (rw [if_neg (by decide +kernel)]; exact ⟨rfl, rfl⟩))
    (fun os started H enc _ => lifted os started H enc)

theorem plain (f : FuncId) (fn : Func) (hf : Tryd.pinned.checked.prog.funcNamed "loop.example/g00817/laws.FnExactUnpackInode" = some f) (hfn : Tryd.pinned.checked.prog.funcs[f]? = some fn) :
    Rows.fnExactUnpackInodeCard.stood.looks = Tryd.pinned.checked.prog.looks [] ∧ ∀ (j : Nat) t, fn.params[j]? = some t → Tryd.pinned.checked.prog.wantsStandIn t = false := by
  obtain rfl : f = 6 := Option.some.inj ((show Tryd.prog.funcNamed "loop.example/g00817/laws.FnExactUnpackInode" = some 6 by kernel_rfl).symm.trans hf) |>.symm
  obtain rfl : fn = Tryd.f6 := (Option.some.inj (Tryd.func6.symm.trans hfn)).symm
  refine ⟨by kernel_rfl, fun j t ht => ?_⟩
  rw [Tryd.params6] at ht
  have hm : t ∈ [9] := by simpa using Array.mem_of_getElem? ht
  have hall : ([9].all fun u => !Tryd.prog.wantsStandIn u) = true := by kernel_rfl
  exact (show Tryd.prog.wantsStandIn t = false by simpa using List.all_eq_true.1 hall t hm)

theorem holds : Rows.FnExactUnpackInodeCardSaid :=
  Claim7.holds_tied_plain_at .later [] _ _ _ _ said (fun _ h => by cases h) (by kernel_rfl) (fun _ h => by cases h) fnExactUnpackInode_row_tie rfl ⟨rfl, rfl⟩ (by kernel_rfl) rfl plain (by kernel_rfl)
#print axioms holds
end Go.Proofs.YthobdeidjagnhaaDoor.UnpackInodeLaw
