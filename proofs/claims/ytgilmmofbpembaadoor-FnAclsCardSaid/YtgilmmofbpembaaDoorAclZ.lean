/- Contract: the model's ParseAcl returns, for every string of at most 2^20 bytes, the access list whose text it is. Condition: the string's length. -/
import Derived.Test.YtgilmmofbpembaaDoorAclX
namespace Go.Proofs.YtgilmmofbpembaaDoor.AclZ
open Go.ChangeShapes Go.WideShapes Go.ChangeAt Go.RowKit
open AclV AclB AclW AclY AclX
open SplitAny (parts)
open ParseInt (parseP)
open AclU (resR str_ne own_nil3 own_fresh3 index_at)
set_option linter.unusedVariables false

theorem own_e {w : World} {lo base : Nat} {v : Value} {n : Nat} {xs : List Value} (h : w.ownsRow base 30 3 v n xs) : OwnE w lo base v n xs := .inl h
theorem own_start {w1 : World} {w : World} {base : Nat} (h : Below (w.alloc (.cells #[] 30)).heap.size (w.alloc (.cells #[] 30)) w1) : OwnE w1 w.heap.size base (.slice (some ⟨w.heap.size, 0, none⟩) 0 0) 0 (Ae.cells []) :=
  .inr ⟨Strs.own_below (own_fresh3 w 30) h, _, rfl⟩
theorem str_some {a : ByteArray} (h : a = ⟨#[]⟩) : a.toList.isEmpty = true := by subst h; rw [ByteArray.toList_eq]; rfl
theorem str_full {a : ByteArray} (h : a ≠ ⟨#[]⟩) : a.toList.isEmpty = false := str_none fun e => h (empty_of e)
theorem wordS_no {x : ByteArray} (h : ¬ ((parts x ⟨#[58]⟩).length = 2 ∧ 2 ≤ ((parts x ⟨#[58]⟩).getD 0 ⟨#[]⟩).size)) : wordS x = none := by rw [wordS, if_neg h]
theorem wordS_yes {x : ByteArray} (h1 : (parts x ⟨#[58]⟩).length = 2) (h2 : 2 ≤ ((parts x ⟨#[58]⟩).getD 0 ⟨#[]⟩).size) : wordS x = some (tagS (((parts x ⟨#[58]⟩).getD 0 ⟨#[]⟩).data.toList.getD 0 0), (parseP (((parts x ⟨#[58]⟩).getD 0 ⟨#[]⟩).extract 1 ((parts x ⟨#[58]⟩).getD 0 ⟨#[]⟩).size)).1, (parseP ((parts x ⟨#[58]⟩).getD 1 ⟨#[]⟩)).1) := by
  rw [wordS, if_pos ⟨h1, h2⟩]
theorem far_cell {w : World} {b i g j : Nat} {u v : Value} (h : w.cell? ⟨g, j, none⟩ = some v) (hne : g ≠ b) : (w.setCell ⟨b, i, none⟩ u).cell? ⟨g, j, none⟩ = some v := by
  rw [World.cell?_setCell_far _ _ _ _ (fun e => hne e.symm)]; exact h


set_option maxRecDepth 100000 in
set_option maxHeartbeats 6400000 in
theorem spec_any (t : ByteArray) (ht : t ≠ ⟨#[45]⟩) (w : World) (hs : t.size ≤ 1048576) :
    Calls Tryd.prog 18 #[.string t] w fun e w' => ∃ v, e = .returned (.tuple #[v, .bool (resR (parseV t)).2]) ∧ w'.ownsRow w.heap.size 30 3 v (resR (parseV t)).1.length (Ae.cells (resR (parseV t)).1) ∧ Below w.heap.size w w' := by
  obtain ⟨i0, hi, hz0, hz1, hz2⟩ := info_parts Ae.info
  have HF0 := Lib.hid hi
  have HF1 := Lib.hid hz0
  have HF2 := Lib.hid hz1
  have HF3 := Lib.hid hz2
  clear hi hz0 hz1 hz2
  have hne := str_ne ht
  rw [show (⟨#[45]⟩ : ByteArray).toList = [45] from by rw [ByteArray.toList_eq]] at hne
  have HSP := Lib.hid (fun W => SplitAny.spec_any t ⟨#[44]⟩ W hs (by decide))
  have HWS := Lib.hid (fun i => Nat.le_trans (part_size t ⟨#[44]⟩ i) hs)
  have hcnt := parts_count t ⟨#[44]⟩
  have HYES := Lib.hid (fun (out : List At) h1 h2 h3 => fin_yes (out := out) (fun x h => wordS_ent h) wordS_nil ht h1 h2 h3)
  have HNO := Lib.hid (fun (out : List At) h1 h2 h3 => fin_no (out := out) (fun x h => wordS_ent h) ht h1 h2 h3)
  have HFAIL := Lib.hid (fun i hi h => parse_fail (i := i) (fun x h => wordS_ent h) ht hi h)
  have HOKF := Lib.hid (fun (out : List At) h1 h2 h3 => ok_of_fmt (out := out) (t := t) wordS_nil h1 h2 h3)
  obtain ⟨n, hn⟩ : ∃ n, n = (parts t ⟨#[44]⟩).length := ⟨_, rfl⟩
  rw [← hn] at hcnt
  have HN := Lib.hid hn
  clear ht hn
  go_enter Tryd.func18, Tryd.ntmps18
  go_wp2_with fail
  refine (HSP.out _).mono ?_
  rintro e w1 ⟨rv, rfl, hown, hb⟩
  have HE1 := Lib.hid (own_start (base := w1.heap.size) hb)
  have HB1 := Lib.hid (((Below.refl w.heap.size w).alloc (Nat.le_refl _) (.cells #[] 30)).trans (hb.mono (by simp)))
  have HR := Lib.hid hown
  obtain ⟨ra, rc, rfl, _⟩ := row_word hown (Below.refl _ _)
  clear hb hown
  rw [← HN.out]
  go_wp2_with fail
  go_loopw [4, 13] (fun sv iv wr => ∃ (k : Nat) (out : List At), k ≤ n ∧ iv = .int .i64 k ∧ out.length = k ∧ WordsRead wordS t out ∧ OwnE wr w.heap.size w1.heap.size sv k (Ae.cells out) ∧ Below w1.heap.size w1 wr) (fun _ iv _ => n - (intOf iv).toNat)
  case atStart => exact ⟨0, [], Nat.zero_le _, rfl, rfl, read_nil _ _, HE1.out, Below.refl _ _⟩
  case round =>
    obtain ⟨k, out, hk, rfl, hol, hrd, hown, hbel⟩ := hrel
    have HBEL := Lib.hid hbel
    have HOWN := Lib.hid hown
    have HRD := Lib.hid hrd
    have HOL := Lib.hid hol
    have hsz := hbel.size
    have hs1 := HB1.out.size
    clear hbel hown hrd hol HE1
    by_cases hlt : k < n
    · obtain ⟨a', c', heq, hw⟩ := row_word HR.out HBEL.out
      obtain ⟨g, hg, hg1, hcell⟩ := hw k (by rw [← HN.out]; exact hlt)
      obtain ⟨e1, e2⟩ : ra = a' ∧ rc = c' := by simpa using heq
      subst e1
      subst e2
      subst hg
      have hxs := HWS.out k
      have HF := Lib.hid (HFAIL.out k (by rw [← HN.out]; exact hlt))
      have HL := Lib.hid (fun y => len_succ (y := y) HOL.out HRD.out)
      clear hw heq
      generalize (parts t ⟨#[44]⟩).getD k ⟨#[]⟩ = x at hcell hxs HF HL
      have HSX := Lib.hid (fun W => SplitAny.spec_any x ⟨#[58]⟩ W hxs (by decide))
      have HB := Lib.hid (HB1.out.trans (HBEL.out.mono hs1))
      have hpc := parts_count x ⟨#[58]⟩
      go_wp2_with fail
      refine (HSX.out _).mono ?_
      rintro e w2 ⟨pv, rfl, hown2, hb⟩
      have HB2 := Lib.hid (HB.out.trans (hb.mono HB.out.size))
      have HBL2 := Lib.hid (HBEL.out.trans (hb.mono hsz))
      have HO := Lib.hid (HOWN.out.below hb)
      have hs2 := HB2.out.size
      have hs3 := HBL2.out.size
      have hs4 := hb.size
      obtain ⟨pa, pc, rfl, hpw⟩ := row_word hown2 (Below.refl _ _)
      clear hb hown2
      by_cases hl2 : (parts x ⟨#[58]⟩).length = 2
      · obtain ⟨g2, hg2e, hg2, hcl0⟩ := hpw 0 (by omega)
        obtain ⟨g3, hg3e, _, hcl1⟩ := hpw 1 (by omega)
        subst hg2e
        obtain rfl : g2 = g3 := by simpa using hg3e
        clear hg3e hpw
        by_cases hp2 : 2 ≤ ((parts x ⟨#[58]⟩).getD 0 ⟨#[]⟩).size
        · have hws := wordS_yes hl2 hp2
          have hp3 := Nat.le_trans (part_size x ⟨#[58]⟩ 0) hxs
          have hq3 := Nat.le_trans (part_size x ⟨#[58]⟩ 1) hxs
          have hpa1 := fun W => ParseInt.spec_any (((parts x ⟨#[58]⟩).getD 0 ⟨#[]⟩).extract 1 ((parts x ⟨#[58]⟩).getD 0 ⟨#[]⟩).size) W (by rw [ByteArray.size_extract]; omega)
          have hpa2 := fun W => ParseInt.spec_any ((parts x ⟨#[58]⟩).getD 1 ⟨#[]⟩) W hq3
          have hix := index_at ((parts x ⟨#[58]⟩).getD 0 ⟨#[]⟩) 0 (by omega) 0 rfl
          rw [hl2]
          clear hl2 hpc hxs
          generalize hI : parseP (((parts x ⟨#[58]⟩).getD 0 ⟨#[]⟩).extract 1 ((parts x ⟨#[58]⟩).getD 0 ⟨#[]⟩).size) = II at hws hpa1
          generalize hJ : parseP ((parts x ⟨#[58]⟩).getD 1 ⟨#[]⟩) = JJ at hws hpa2
          clear hI hJ
          generalize (parts x ⟨#[58]⟩).getD 0 ⟨#[]⟩ = P at hws hp2 hp3 hpa1 hix hcl0
          generalize (parts x ⟨#[58]⟩).getD 1 ⟨#[]⟩ = Q at hpa2 hcl1 hq3
          obtain ⟨I, ib⟩ := II
          obtain ⟨J, jb⟩ := JJ
          have hz1 : 1 ≤ P.size := by omega
          have hd2 : decide (P.size < 2) = false := decide_eq_false (by omega)
          have HP1 := Lib.hid (show ∀ W : World, Calls Tryd.prog 39 #[.string (P.extract 1 P.size)] W fun e w' => e = .returned (.tuple #[.int .i64 I, .bool ib]) ∧ Below W.heap.size W w' from hpa1)
          have HP2 := Lib.hid (show ∀ W : World, Calls Tryd.prog 39 #[.string Q] W fun e w' => e = .returned (.tuple #[.int .i64 J, .bool jb]) ∧ Below W.heap.size W w' from hpa2)
          clear hpa1 hpa2
          dsimp only at hws
          generalize P.data.toList.getD 0 0 = c at hws hix
          have hnb : ∀ b, b = w2.heap.size → Value.ownBlock u4 ≠ some b := fun b hb e => by
            have := HOWN.out.lt b e
            omega
          replace hnb := hnb _ rfl
          have hsome : ∀ T : Int, tagS c = T → wordS x = some (T, I, J) := fun T hT => by rw [hws, hT]
          clear hws
          by_cases ch1 : c = 117
          · subst ch1
            have hix1 : ∀ W : World, (Instr.index 9 (.string P) (.int .i64 0)).run Tryd.prog W = .ok (.int .u8 117) W := hix
            clear hix
            have HS := Lib.hid (hsome 1 (by decide))
            have hx0 : BX (w2.alloc (.cells #[.int .i64 1, .int .i64 0, .int .i64 0] 30)) w2.heap.size (1, 0, 0) := BX.new w2 (1, 0, 0)
            have hb0 := HBL2.out.alloc hs3 (.cells #[.int .i64 1, .int .i64 0, .int .i64 0] 30)
            have hc0 : (w2.alloc (.cells #[.int .i64 1, .int .i64 0, .int .i64 0] 30)).cell? ⟨g2, 0, none⟩ = some (.string P) := by rw [World.cell?_alloc_lt _ _ _ hg2]; exact hcl0
            have hc1 : (w2.alloc (.cells #[.int .i64 1, .int .i64 0, .int .i64 0] 30)).cell? ⟨g2, 1, none⟩ = some (.string Q) := by rw [World.cell?_alloc_lt _ _ _ hg2]; exact hcl1
            have ho0 := HO.out.below ((Below.refl w2.heap.size w2).alloc (Nat.le_refl _) (.cells #[.int .i64 1, .int .i64 0, .int .i64 0] 30))
            have hsz9 : w2.heap.size < (w2.alloc (.cells #[.int .i64 1, .int .i64 0, .int .i64 0] 30)).heap.size := by simp
            go_wp2_with fail
            generalize w2.alloc (.cells #[.int .i64 1, .int .i64 0, .int .i64 0] 30) = wb at hx0 hb0 hc0 hc1 ho0 hsz9 ⊢
            refine (HP1.out _).mono ?_
            rintro e w3 ⟨rfl, hb⟩
            have HX := Lib.hid ((hx0.below hb).set1 I)
            have HB3 := Lib.hid ((hb0.trans (hb.mono hb0.size)).setCell (p := ⟨w2.heap.size, 1, none⟩) hs3 (.int .i64 I))
            have HO3 := Lib.hid ((ho0.below hb).far (b := w2.heap.size) (i := 1) (u := .int .i64 I) hnb)
            have hcq : w3.cell? ⟨g2, 1, none⟩ = some (.string Q) := by rw [hb.cell (p := ⟨g2, 1, none⟩) (Nat.lt_trans hg2 hsz9)]; exact hc1
            have hcq2 := far_cell (i := 1) (u := .int .i64 I) hcq (Nat.ne_of_lt hg2)
            have hs5 : w2.heap.size < (w3.setCell ⟨w2.heap.size, 1, none⟩ (.int .i64 I)).heap.size := by rw [World.size_setCell]; exact Nat.lt_of_lt_of_le hsz9 hb.size
            obtain ⟨x0, x1, x2, x3, x4, x5⟩ := (hx0.below hb).cells
            clear hx0 hb0 hc0 hc1 ho0 hb hcq
            go_wp2_with fail
            generalize w3.setCell ⟨w2.heap.size, 1, none⟩ (.int .i64 I) = w4 at HX HB3 HO3 hcq2 hs5 ⊢
            refine (HP2.out _).mono ?_
            rintro e w5 ⟨rfl, hb⟩
            have HX2 := Lib.hid (HX.out.below hb)
            have HB4 := Lib.hid ((HB3.out.trans (hb.mono HB3.out.size)).setCell (p := ⟨w2.heap.size, 2, none⟩) hs3 (.int .i64 J))
            have HO4 := Lib.hid ((HO3.out.below hb).far (b := w2.heap.size) (i := 2) (u := .int .i64 J) hnb)
            obtain ⟨q0, q1, q2, q3, q4, q5⟩ := HX2.out.cells
            obtain ⟨r0, r1, r2, _, _, _⟩ := (HX2.out.set2 J).cells
            have hs6 := HB4.out.size
            clear hb x0 x1 x2 x3 x4 x5
            have hcc := AclU.cells3_at (w5.setCell ⟨w2.heap.size, 2, none⟩ (.int .i64 J)) (.int .i64 1) (.int .i64 I) (.int .i64 J) 30
            rw [World.size_setCell] at hcc
            have HCC := Lib.hid hcc
            have hk30 : k ≤ 1073741824 := by omega
            have hb9 : w1.heap.size ≤ ((w5.setCell ⟨w2.heap.size, 2, none⟩ (.int .i64 J)).alloc (.cells #[.int .i64 1, .int .i64 I, .int .i64 J] 30)).heap.size := by simp only [World.size_alloc]; omega
            have HB9a := Lib.hid hb9
            clear hcc hb9
            go_wp2_with (first | (at_builtin; refine append_e rfl _ _ rfl w.heap.size w1.heap.size i0 HF0.out HF1.out HF2.out HF3.out _ k out rfl (HO4.out.below ((Below.refl _ _).alloc (Nat.le_refl _) _)) ⟨w5.heap.size, 0, none⟩ (1, I, J) rfl HCC.out hk30 HB9a.out ?_))
            intro v' w9 hown1 hbel9
            obtain ⟨hr1, hl1⟩ := HL.out _ HS.out
            have HO9 := Lib.hid hown1
            have HR9 := Lib.hid hr1
            have HL9 := Lib.hid hl1
            have HB9 := Lib.hid ((HB4.out.alloc hs6 (.cells #[.int .i64 1, .int .i64 I, .int .i64 J] 30)).trans hbel9)
            clear hown1 hbel9 hr1 hl1
            go_wp2
            go_roundw
            case rel => exact ⟨k + 1, out ++ [(1, I, J)], by omega, by go_num, HL9.out, HR9.out, own_e HO9.out, HB9.out⟩
            case measure => simp [intOf]; omega
          · by_cases ch2 : c = 103
            · subst ch2
              have hix1 : ∀ W : World, (Instr.index 9 (.string P) (.int .i64 0)).run Tryd.prog W = .ok (.int .u8 103) W := hix
              clear hix
              have HS := Lib.hid (hsome 2 (by decide))
              have hx0 : BX (w2.alloc (.cells #[.int .i64 2, .int .i64 0, .int .i64 0] 30)) w2.heap.size (2, 0, 0) := BX.new w2 (2, 0, 0)
              have hb0 := HBL2.out.alloc hs3 (.cells #[.int .i64 2, .int .i64 0, .int .i64 0] 30)
              have hc0 : (w2.alloc (.cells #[.int .i64 2, .int .i64 0, .int .i64 0] 30)).cell? ⟨g2, 0, none⟩ = some (.string P) := by rw [World.cell?_alloc_lt _ _ _ hg2]; exact hcl0
              have hc1 : (w2.alloc (.cells #[.int .i64 2, .int .i64 0, .int .i64 0] 30)).cell? ⟨g2, 1, none⟩ = some (.string Q) := by rw [World.cell?_alloc_lt _ _ _ hg2]; exact hcl1
              have ho0 := HO.out.below ((Below.refl w2.heap.size w2).alloc (Nat.le_refl _) (.cells #[.int .i64 2, .int .i64 0, .int .i64 0] 30))
              have hsz9 : w2.heap.size < (w2.alloc (.cells #[.int .i64 2, .int .i64 0, .int .i64 0] 30)).heap.size := by simp
              go_wp2_with fail
              generalize w2.alloc (.cells #[.int .i64 2, .int .i64 0, .int .i64 0] 30) = wb at hx0 hb0 hc0 hc1 ho0 hsz9 ⊢
              refine (HP1.out _).mono ?_
              rintro e w3 ⟨rfl, hb⟩
              have HX := Lib.hid ((hx0.below hb).set1 I)
              have HB3 := Lib.hid ((hb0.trans (hb.mono hb0.size)).setCell (p := ⟨w2.heap.size, 1, none⟩) hs3 (.int .i64 I))
              have HO3 := Lib.hid ((ho0.below hb).far (b := w2.heap.size) (i := 1) (u := .int .i64 I) hnb)
              have hcq : w3.cell? ⟨g2, 1, none⟩ = some (.string Q) := by rw [hb.cell (p := ⟨g2, 1, none⟩) (Nat.lt_trans hg2 hsz9)]; exact hc1
              have hcq2 := far_cell (i := 1) (u := .int .i64 I) hcq (Nat.ne_of_lt hg2)
              have hs5 : w2.heap.size < (w3.setCell ⟨w2.heap.size, 1, none⟩ (.int .i64 I)).heap.size := by rw [World.size_setCell]; exact Nat.lt_of_lt_of_le hsz9 hb.size
              obtain ⟨x0, x1, x2, x3, x4, x5⟩ := (hx0.below hb).cells
              clear hx0 hb0 hc0 hc1 ho0 hb hcq
              go_wp2_with fail
              generalize w3.setCell ⟨w2.heap.size, 1, none⟩ (.int .i64 I) = w4 at HX HB3 HO3 hcq2 hs5 ⊢
              refine (HP2.out _).mono ?_
              rintro e w5 ⟨rfl, hb⟩
              have HX2 := Lib.hid (HX.out.below hb)
              have HB4 := Lib.hid ((HB3.out.trans (hb.mono HB3.out.size)).setCell (p := ⟨w2.heap.size, 2, none⟩) hs3 (.int .i64 J))
              have HO4 := Lib.hid ((HO3.out.below hb).far (b := w2.heap.size) (i := 2) (u := .int .i64 J) hnb)
              obtain ⟨q0, q1, q2, q3, q4, q5⟩ := HX2.out.cells
              obtain ⟨r0, r1, r2, _, _, _⟩ := (HX2.out.set2 J).cells
              have hs6 := HB4.out.size
              clear hb x0 x1 x2 x3 x4 x5
              have hcc := AclU.cells3_at (w5.setCell ⟨w2.heap.size, 2, none⟩ (.int .i64 J)) (.int .i64 2) (.int .i64 I) (.int .i64 J) 30
              rw [World.size_setCell] at hcc
              have HCC := Lib.hid hcc
              have hk30 : k ≤ 1073741824 := by omega
              have hb9 : w1.heap.size ≤ ((w5.setCell ⟨w2.heap.size, 2, none⟩ (.int .i64 J)).alloc (.cells #[.int .i64 2, .int .i64 I, .int .i64 J] 30)).heap.size := by simp only [World.size_alloc]; omega
              have HB9a := Lib.hid hb9
              clear hcc hb9
              go_wp2_with (first | (at_builtin; refine append_e rfl _ _ rfl w.heap.size w1.heap.size i0 HF0.out HF1.out HF2.out HF3.out _ k out rfl (HO4.out.below ((Below.refl _ _).alloc (Nat.le_refl _) _)) ⟨w5.heap.size, 0, none⟩ (2, I, J) rfl HCC.out hk30 HB9a.out ?_))
              intro v' w9 hown1 hbel9
              obtain ⟨hr1, hl1⟩ := HL.out _ HS.out
              have HO9 := Lib.hid hown1
              have HR9 := Lib.hid hr1
              have HL9 := Lib.hid hl1
              have HB9 := Lib.hid ((HB4.out.alloc hs6 (.cells #[.int .i64 2, .int .i64 I, .int .i64 J] 30)).trans hbel9)
              clear hown1 hbel9 hr1 hl1
              go_wp2
              go_roundw
              case rel => exact ⟨k + 1, out ++ [(2, I, J)], by omega, by go_num, HL9.out, HR9.out, own_e HO9.out, HB9.out⟩
              case measure => simp [intOf]; omega
            · by_cases ch3 : c = 109
              · subst ch3
                have hix1 : ∀ W : World, (Instr.index 9 (.string P) (.int .i64 0)).run Tryd.prog W = .ok (.int .u8 109) W := hix
                clear hix
                have HS := Lib.hid (hsome 3 (by decide))
                have hx0 : BX (w2.alloc (.cells #[.int .i64 3, .int .i64 0, .int .i64 0] 30)) w2.heap.size (3, 0, 0) := BX.new w2 (3, 0, 0)
                have hb0 := HBL2.out.alloc hs3 (.cells #[.int .i64 3, .int .i64 0, .int .i64 0] 30)
                have hc0 : (w2.alloc (.cells #[.int .i64 3, .int .i64 0, .int .i64 0] 30)).cell? ⟨g2, 0, none⟩ = some (.string P) := by rw [World.cell?_alloc_lt _ _ _ hg2]; exact hcl0
                have hc1 : (w2.alloc (.cells #[.int .i64 3, .int .i64 0, .int .i64 0] 30)).cell? ⟨g2, 1, none⟩ = some (.string Q) := by rw [World.cell?_alloc_lt _ _ _ hg2]; exact hcl1
                have ho0 := HO.out.below ((Below.refl w2.heap.size w2).alloc (Nat.le_refl _) (.cells #[.int .i64 3, .int .i64 0, .int .i64 0] 30))
                have hsz9 : w2.heap.size < (w2.alloc (.cells #[.int .i64 3, .int .i64 0, .int .i64 0] 30)).heap.size := by simp
                go_wp2_with fail
                generalize w2.alloc (.cells #[.int .i64 3, .int .i64 0, .int .i64 0] 30) = wb at hx0 hb0 hc0 hc1 ho0 hsz9 ⊢
                refine (HP1.out _).mono ?_
                rintro e w3 ⟨rfl, hb⟩
                have HX := Lib.hid ((hx0.below hb).set1 I)
                have HB3 := Lib.hid ((hb0.trans (hb.mono hb0.size)).setCell (p := ⟨w2.heap.size, 1, none⟩) hs3 (.int .i64 I))
                have HO3 := Lib.hid ((ho0.below hb).far (b := w2.heap.size) (i := 1) (u := .int .i64 I) hnb)
                have hcq : w3.cell? ⟨g2, 1, none⟩ = some (.string Q) := by rw [hb.cell (p := ⟨g2, 1, none⟩) (Nat.lt_trans hg2 hsz9)]; exact hc1
                have hcq2 := far_cell (i := 1) (u := .int .i64 I) hcq (Nat.ne_of_lt hg2)
                have hs5 : w2.heap.size < (w3.setCell ⟨w2.heap.size, 1, none⟩ (.int .i64 I)).heap.size := by rw [World.size_setCell]; exact Nat.lt_of_lt_of_le hsz9 hb.size
                obtain ⟨x0, x1, x2, x3, x4, x5⟩ := (hx0.below hb).cells
                clear hx0 hb0 hc0 hc1 ho0 hb hcq
                go_wp2_with fail
                generalize w3.setCell ⟨w2.heap.size, 1, none⟩ (.int .i64 I) = w4 at HX HB3 HO3 hcq2 hs5 ⊢
                refine (HP2.out _).mono ?_
                rintro e w5 ⟨rfl, hb⟩
                have HX2 := Lib.hid (HX.out.below hb)
                have HB4 := Lib.hid ((HB3.out.trans (hb.mono HB3.out.size)).setCell (p := ⟨w2.heap.size, 2, none⟩) hs3 (.int .i64 J))
                have HO4 := Lib.hid ((HO3.out.below hb).far (b := w2.heap.size) (i := 2) (u := .int .i64 J) hnb)
                obtain ⟨q0, q1, q2, q3, q4, q5⟩ := HX2.out.cells
                obtain ⟨r0, r1, r2, _, _, _⟩ := (HX2.out.set2 J).cells
                have hs6 := HB4.out.size
                clear hb x0 x1 x2 x3 x4 x5
                have hcc := AclU.cells3_at (w5.setCell ⟨w2.heap.size, 2, none⟩ (.int .i64 J)) (.int .i64 3) (.int .i64 I) (.int .i64 J) 30
                rw [World.size_setCell] at hcc
                have HCC := Lib.hid hcc
                have hk30 : k ≤ 1073741824 := by omega
                have hb9 : w1.heap.size ≤ ((w5.setCell ⟨w2.heap.size, 2, none⟩ (.int .i64 J)).alloc (.cells #[.int .i64 3, .int .i64 I, .int .i64 J] 30)).heap.size := by simp only [World.size_alloc]; omega
                have HB9a := Lib.hid hb9
                clear hcc hb9
                go_wp2_with (first | (at_builtin; refine append_e rfl _ _ rfl w.heap.size w1.heap.size i0 HF0.out HF1.out HF2.out HF3.out _ k out rfl (HO4.out.below ((Below.refl _ _).alloc (Nat.le_refl _) _)) ⟨w5.heap.size, 0, none⟩ (3, I, J) rfl HCC.out hk30 HB9a.out ?_))
                intro v' w9 hown1 hbel9
                obtain ⟨hr1, hl1⟩ := HL.out _ HS.out
                have HO9 := Lib.hid hown1
                have HR9 := Lib.hid hr1
                have HL9 := Lib.hid hl1
                have HB9 := Lib.hid ((HB4.out.alloc hs6 (.cells #[.int .i64 3, .int .i64 I, .int .i64 J] 30)).trans hbel9)
                clear hown1 hbel9 hr1 hl1
                go_wp2
                go_roundw
                case rel => exact ⟨k + 1, out ++ [(3, I, J)], by omega, by go_num, HL9.out, HR9.out, own_e HO9.out, HB9.out⟩
                case measure => simp [intOf]; omega
              · have ht0 : tagS c = 0 := by simp [tagS, ch1, ch2, ch3]
                have n1 : ((c.toNat : Int) == 117) = false := beq_eq_false_iff_ne.2 (fun e => ch1 (UInt8.toNat_inj.1 (by show c.toNat = 117; omega)))
                have n2 : ((c.toNat : Int) == 103) = false := beq_eq_false_iff_ne.2 (fun e => ch2 (UInt8.toNat_inj.1 (by show c.toNat = 103; omega)))
                have n3 : ((c.toNat : Int) == 109) = false := beq_eq_false_iff_ne.2 (fun e => ch3 (UInt8.toNat_inj.1 (by show c.toNat = 109; omega)))
                clear ch1 ch2 ch3
                have HS := Lib.hid (hsome 0 ht0)
                have hx0 : BX (w2.alloc (.cells #[.int .i64 0, .int .i64 0, .int .i64 0] 30)) w2.heap.size (0, 0, 0) := BX.new w2 (0, 0, 0)
                have hb0 := HBL2.out.alloc hs3 (.cells #[.int .i64 0, .int .i64 0, .int .i64 0] 30)
                have hc0 : (w2.alloc (.cells #[.int .i64 0, .int .i64 0, .int .i64 0] 30)).cell? ⟨g2, 0, none⟩ = some (.string P) := by rw [World.cell?_alloc_lt _ _ _ hg2]; exact hcl0
                have hc1 : (w2.alloc (.cells #[.int .i64 0, .int .i64 0, .int .i64 0] 30)).cell? ⟨g2, 1, none⟩ = some (.string Q) := by rw [World.cell?_alloc_lt _ _ _ hg2]; exact hcl1
                have ho0 := HO.out.below ((Below.refl w2.heap.size w2).alloc (Nat.le_refl _) (.cells #[.int .i64 0, .int .i64 0, .int .i64 0] 30))
                have hsz9 : w2.heap.size < (w2.alloc (.cells #[.int .i64 0, .int .i64 0, .int .i64 0] 30)).heap.size := by simp
                go_wp2_with fail
                generalize w2.alloc (.cells #[.int .i64 0, .int .i64 0, .int .i64 0] 30) = wb at hx0 hb0 hc0 hc1 ho0 hsz9 ⊢
                refine (HP1.out _).mono ?_
                rintro e w3 ⟨rfl, hb⟩
                have HX := Lib.hid ((hx0.below hb).set1 I)
                have HB3 := Lib.hid ((hb0.trans (hb.mono hb0.size)).setCell (p := ⟨w2.heap.size, 1, none⟩) hs3 (.int .i64 I))
                have HO3 := Lib.hid ((ho0.below hb).far (b := w2.heap.size) (i := 1) (u := .int .i64 I) hnb)
                have hcq : w3.cell? ⟨g2, 1, none⟩ = some (.string Q) := by rw [hb.cell (p := ⟨g2, 1, none⟩) (Nat.lt_trans hg2 hsz9)]; exact hc1
                have hcq2 := far_cell (i := 1) (u := .int .i64 I) hcq (Nat.ne_of_lt hg2)
                have hs5 : w2.heap.size < (w3.setCell ⟨w2.heap.size, 1, none⟩ (.int .i64 I)).heap.size := by rw [World.size_setCell]; exact Nat.lt_of_lt_of_le hsz9 hb.size
                obtain ⟨x0, x1, x2, x3, x4, x5⟩ := (hx0.below hb).cells
                clear hx0 hb0 hc0 hc1 ho0 hb hcq
                go_wp2_with fail
                generalize w3.setCell ⟨w2.heap.size, 1, none⟩ (.int .i64 I) = w4 at HX HB3 HO3 hcq2 hs5 ⊢
                refine (HP2.out _).mono ?_
                rintro e w5 ⟨rfl, hb⟩
                have HX2 := Lib.hid (HX.out.below hb)
                have HB4 := Lib.hid ((HB3.out.trans (hb.mono HB3.out.size)).setCell (p := ⟨w2.heap.size, 2, none⟩) hs3 (.int .i64 J))
                have HO4 := Lib.hid ((HO3.out.below hb).far (b := w2.heap.size) (i := 2) (u := .int .i64 J) hnb)
                obtain ⟨q0, q1, q2, q3, q4, q5⟩ := HX2.out.cells
                obtain ⟨r0, r1, r2, _, _, _⟩ := (HX2.out.set2 J).cells
                have hs6 := HB4.out.size
                clear hb x0 x1 x2 x3 x4 x5
                have hcc := AclU.cells3_at (w5.setCell ⟨w2.heap.size, 2, none⟩ (.int .i64 J)) (.int .i64 0) (.int .i64 I) (.int .i64 J) 30
                rw [World.size_setCell] at hcc
                have HCC := Lib.hid hcc
                have hk30 : k ≤ 1073741824 := by omega
                have hb9 : w1.heap.size ≤ ((w5.setCell ⟨w2.heap.size, 2, none⟩ (.int .i64 J)).alloc (.cells #[.int .i64 0, .int .i64 I, .int .i64 J] 30)).heap.size := by simp only [World.size_alloc]; omega
                have HB9a := Lib.hid hb9
                clear hcc hb9
                go_wp2_with (first | (at_builtin; refine append_e rfl _ _ rfl w.heap.size w1.heap.size i0 HF0.out HF1.out HF2.out HF3.out _ k out rfl (HO4.out.below ((Below.refl _ _).alloc (Nat.le_refl _) _)) ⟨w5.heap.size, 0, none⟩ (0, I, J) rfl HCC.out hk30 HB9a.out ?_))
                intro v' w9 hown1 hbel9
                obtain ⟨hr1, hl1⟩ := HL.out _ HS.out
                have HO9 := Lib.hid hown1
                have HR9 := Lib.hid hr1
                have HL9 := Lib.hid hl1
                have HB9 := Lib.hid ((HB4.out.alloc hs6 (.cells #[.int .i64 0, .int .i64 I, .int .i64 J] 30)).trans hbel9)
                clear hown1 hbel9 hr1 hl1
                go_wp2
                go_roundw
                case rel => exact ⟨k + 1, out ++ [(0, I, J)], by omega, by go_num, HL9.out, HR9.out, own_e HO9.out, HB9.out⟩
                case measure => simp [intOf]; omega
        · have HX := Lib.hid (HF.out (wordS_no (fun h => hp2 h.2)))
          have hd2 : decide (((parts x ⟨#[58]⟩).getD 0 ⟨#[]⟩).size < 2) = true := decide_eq_true (by omega)
          rw [hl2]
          generalize (parts x ⟨#[58]⟩).getD 0 ⟨#[]⟩ = P at hp2 hcl0 hd2
          go_wp2
          go_ret2
          refine ⟨_, by rw [HX.out]; rfl, ?_, HB2.out⟩
          rw [HX.out]
          exact own_nil3 _ _ _
      · have HX := Lib.hid (HF.out (wordS_no (fun h => hl2 h.1)))
        have hd2 : (((parts x ⟨#[58]⟩).length : Int) != 2) = true := by simp; omega
        clear hpw
        generalize (parts x ⟨#[58]⟩).length = m at hd2 hpc
        go_wp2
        go_ret2
        refine ⟨_, by rw [HX.out]; rfl, ?_, HB2.out⟩
        rw [HX.out]
        exact own_nil3 _ _ _
    · obtain rfl : k = n := by omega
      have HFM := Lib.hid (fun (W : World) (h : Ae.Holds W u4 out) => AclF.spec_any W u4 out (by rw [HOL.out]; omega) h)
      have HHO := Lib.hid HOWN.out.holds
      have HB := Lib.hid (HB1.out.trans (HBEL.out.mono hs1))
      have HLN := Lib.hid (HOL.out.trans HN.out)
      go_wp2_with fail
      refine (HFM.out _ HHO.out).mono ?_
      rintro e w2 ⟨rfl, hb⟩
      have HB2 := Lib.hid (HB.out.trans (hb.mono HB.out.size))
      have HHO2 := Lib.hid (Ae.holds_below HHO.out hb)
      have HO2 := Lib.hid (HOWN.out.below hb)
      clear hb
      by_cases he : formatV out = t
      · have hok := HOKF.out out HLN.out HRD.out he
        have hf0 := str_full (format_ne hok)
        have HX := Lib.hid (HYES.out out HLN.out HRD.out he)
        clear hok
        rw [he] at hf0 ⊢
        go_wp2_with fail
        refine (HFM.out _ HHO2.out).mono ?_
        rw [he]
        rintro e w3 ⟨rfl, hb⟩
        have HB3 := Lib.hid (HB2.out.trans (hb.mono HB2.out.size))
        have HO3 := Lib.hid ((HO2.out.below hb).own hs1)
        clear hb
        go_wp2
        go_ret2
        refine ⟨_, by rw [HX.out]; rfl, ?_, HB3.out⟩
        rw [HX.out]
        show World.ownsRow _ _ _ _ _ out.length (Ae.cells out)
        rw [HOL.out]
        exact HO3.out
      · have HX := Lib.hid (HNO.out out HLN.out HRD.out he)
        have hnf := str_ne he
        by_cases hP : formatV out = ⟨#[]⟩
        · rw [hP]
          clear he hnf hP
          go_wp2
          go_ret2
          refine ⟨_, by rw [HX.out]; rfl, ?_, HB2.out⟩
          rw [HX.out]
          exact own_nil3 _ _ _
        · have hf0 := str_full hP
          clear he hP
          generalize formatV out = P at hf0 hnf HFM
          go_wp2_with fail
          refine (HFM.out _ HHO2.out).mono ?_
          rintro e w3 ⟨rfl, hb⟩
          have HB3 := Lib.hid (HB2.out.trans (hb.mono HB2.out.size))
          clear hb
          go_wp2
          go_ret2
          refine ⟨_, by rw [HX.out]; rfl, ?_, HB3.out⟩
          rw [HX.out]
          exact own_nil3 _ _ _


theorem parts_dash : parts ⟨#[45]⟩ ⟨#[44]⟩ = [⟨#[45]⟩] := by
  rw [SplitC.parts_eq]
  rfl
set_option maxRecDepth 100000 in
set_option maxHeartbeats 1600000 in
theorem spec_dash (w : World) :
    Calls Tryd.prog 18 #[.string ⟨#[45]⟩] w fun e w' => ∃ v, e = .returned (.tuple #[v, .bool (resR (parseV ⟨#[45]⟩)).2]) ∧ w'.ownsRow w.heap.size 30 3 v (resR (parseV ⟨#[45]⟩)).1.length (Ae.cells (resR (parseV ⟨#[45]⟩)).1) ∧ Below w.heap.size w w' := by
  have HD := Lib.hid dash_r
  have hsp := fun W => SplitAny.spec_any ⟨#[45]⟩ ⟨#[44]⟩ W (by decide) (by decide)
  rw [parts_dash] at hsp
  have HSP := Lib.hid hsp
  have HSX := Lib.hid (fun W => SplitAny.spec_any ⟨#[45]⟩ ⟨#[58]⟩ W (by decide) (by decide))
  have hfm := fun W v h => AclF.spec_any W v [] (by simp) h
  rw [AclF.format_nil] at hfm
  have HFM := Lib.hid hfm
  clear hsp hfm
  go_enter Tryd.func18, Tryd.ntmps18
  go_wp2_with fail
  refine (HSP.out _).mono ?_
  rintro e w1 ⟨rv, rfl, hown, hb⟩
  have HE1 := Lib.hid (own_start (base := w1.heap.size) hb)
  have HB1 := Lib.hid (((Below.refl w.heap.size w).alloc (Nat.le_refl _) (.cells #[] 30)).trans (hb.mono (by simp)))
  obtain ⟨ra, rc, rfl, hw⟩ := row_word hown (Below.refl _ _)
  obtain ⟨g, rfl, hg1, hcell⟩ := hw 0 (by simp)
  have hc2 : w1.cell? ⟨g, 0, none⟩ = some (.string ⟨#[45]⟩) := hcell
  clear hb hown hw hcell
  simp only [List.length_singleton]
  go_wp2_with fail
  refine wp_loop_rounds 1 ?_
  rw [rounds_succ]
  go_wp2_with fail
  refine (HSX.out _).mono ?_
  rintro e w2 ⟨pv, rfl, hown2, hb⟩
  have HB2 := Lib.hid (HB1.out.trans (hb.mono HB1.out.size))
  have HE2 := Lib.hid (HE1.out.below hb)
  clear hb hown2
  go_wp2_with fail
  refine (HFM.out _ _ HE2.out.holds).mono ?_
  rintro e w3 ⟨rfl, hb⟩
  have HB3 := Lib.hid (HB2.out.trans (hb.mono HB2.out.size))
  have HE3 := Lib.hid (HE2.out.below hb)
  clear hb
  go_wp2_with fail
  refine (HFM.out _ _ HE3.out.holds).mono ?_
  rintro e w4 ⟨rfl, hb⟩
  have HB4 := Lib.hid (HB3.out.trans (hb.mono HB3.out.size))
  have HE4 := Lib.hid ((HE3.out.below hb).own (Nat.le_trans HB1.out.size (Nat.le_refl _)))
  clear hb
  go_wp2
  go_ret2
  refine ⟨_, by rw [HD.out]; rfl, ?_, HB4.out⟩
  rw [HD.out]
  exact HE4.out
theorem full_any (t : ByteArray) (w : World) (hs : t.size ≤ 1048576) :
    Calls Tryd.prog 18 #[.string t] w fun e w' => ∃ v, e = .returned (.tuple #[v, .bool (resR (parseV t)).2]) ∧ w'.ownsRow w.heap.size 30 3 v (resR (parseV t)).1.length (Ae.cells (resR (parseV t)).1) ∧ Below w.heap.size w w' := by
  by_cases ht : t = ⟨#[45]⟩
  · subst ht
    exact spec_dash w
  · exact spec_any t ht w hs
theorem vars_of {W : World} (h : laidMetH Tryd.prog Laid.list5 W) : Vars W := by
  obtain ⟨h1, h2, h3⟩ := Laid.five h
  exact ⟨h1, h2, h3⟩
end Go.Proofs.YtgilmmofbpembaaDoor.AclZ
