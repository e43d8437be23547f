/- Contracts of the laws' makers: valid credentials out of the drawn code. Conditions: as each theorem types them. -/
import Derived.Test.YtjdehgadfjopiaaADraw
import Derived.Test.YtjdehgadfjopiaaCrI
namespace Go.Proofs.Ytjdehgadfjopiaa.CDraw
open Go.ChangeShapes Go.WideShapes Go.ChangeAt Go.RowKit
open Cur CredV Bx
open Go.Proofs.Ytjdehgadfjopiaa.Make (cur_alloc)
open Go.Proofs.Ytjdehgadfjopiaa.MakeBytes (cur_kept)
open ADraw (grown_of grown_trans cur_below grown_row cur_row own_grown once_any)
set_option linter.unusedVariables false

theorem one_new (w : World) (x : Value) (T : TypeId) : ∀ j u, [x][j]? = some u → (w.alloc (.cells #[x] T)).cell? ((⟨w.heap.size, 0, none⟩ : Addr).add j) = some u := by
  intro j u hj
  rw [Addr.add_lit, Nat.zero_add, World.cell?_alloc_at _ _ _ _ rfl]
  simpa using hj
theorem grown_set (w : World) (g j : Nat) (u : Value) : w.grownBy (w.setCell ⟨g, j, none⟩ u) (some g) :=
  ⟨rfl, rfl, rfl, by simp [World.setCell], fun k _ hk => Below.heap_setCell _ _ _ _ (fun e => hk (by simp [e]))⟩
/-- The code stands behind whatever lets the blocks before it lie. -/
theorem code_at {w w' : World} {cv : Value} {ns : List Nat} (h : CodeIn w w.heap.size cv ns) (hb : Below w.heap.size w w') : CodeIn w' w'.heap.size cv ns := by
  obtain ⟨a, cap, rfl, hn, hx, hc⟩ := code_kept h hb.block
  refine ⟨a, cap, rfl, hn, hx, fun hp => ?_⟩
  obtain ⟨b, o, h1, h2, h3⟩ := hc hp
  exact ⟨b, o, h1, Nat.lt_of_lt_of_le h2 hb.size, h3⟩
/-- Groups that are users' numbers, ascend and stand before n. -/
def Asc (l : List Int) (n : Int) : Prop := ascB l l.length = true ∧ ∀ i, i < l.length → l.getD i 0 < n
theorem asc_nil (n : Int) : Asc [] n := ⟨rfl, fun i h => absurd h (Nat.not_lt_zero _)⟩
theorem asc_mono {l : List Int} {n m : Int} (h : Asc l n) (hm : n ≤ m) : Asc l m := ⟨h.1, fun i hi => by have := h.2 i hi; omega⟩
theorem getD_app (l : List Int) (x : Int) (i : Nat) (h : i < l.length) : (l ++ [x]).getD i 0 = l.getD i 0 := by
  rw [List.getD_eq_getElem?_getD, List.getD_eq_getElem?_getD, List.getElem?_append_left h]
theorem getD_end (l : List Int) (x : Int) : (l ++ [x]).getD l.length 0 = x := by simp [List.getD]
theorem asc_app (l : List Int) (x : Int) : ∀ k, k ≤ l.length → ascB (l ++ [x]) k = ascB l k
  | 0, _ => rfl
  | k + 1, h => by
    rw [ascB_succ, ascB_succ, asc_app l x k (by omega), getD_app l x k (by omega)]
    by_cases hk : k = 0
    · subst hk; rfl
    · rw [getD_app l x (k - 1) (by omega)]
theorem asc_next {l : List Int} {x : Int} (h : Asc l x) (h0 : 0 ≤ x) (h3 : x ≤ 3) : Asc (l ++ [x]) (x + 1) := by
  constructor
  · rw [List.length_append, List.length_singleton, ascB_succ, asc_app l x _ (Nat.le_refl _), h.1, getD_end, (user_iff x).2 ⟨h0, h3⟩]
    by_cases hl : l.length = 0
    · simp [hl]
    · rw [getD_app l x _ (by omega), decide_eq_true (h.2 _ (by omega))]; simp
  · intro i hi
    rw [List.length_append, List.length_singleton] at hi
    rcases Nat.lt_or_ge i l.length with hj | hj
    · rw [getD_app l x i hj]; have := h.2 i hj; omega
    · rw [show i = l.length by omega, getD_end]; omega
theorem asc_cred {l : List Int} {n : Int} {u g : Nat} (h : Asc l n) (hu : u < 4) (hg : g < 4) : credB ((u : Int), (g : Int), l) = true := by
  simp only [credB, Bool.and_eq_true]
  exact ⟨⟨h.1, (user_iff _).2 ⟨by omega, by omega⟩⟩, (user_iff _).2 ⟨by omega, by omega⟩⟩

set_option maxRecDepth 100000 in
set_option maxHeartbeats 4000000 in
theorem draw_any (w : World) (B g : Nat) (cv : Value) (ns : List Nat) (i : Nat) (h : Int) (hc : IsCur w B g cv ns i h) :
    Calls Try.prog 38 #[.pointer (some ⟨g, 0, none⟩)] w fun e w' => ∃ (u gi : Nat) (v : Value) (l : List Int) (i' : Nat) (h' : Int), e = .returned (.agg #[.int .i64 u, .int .i64 gi, v]) ∧ u < 4 ∧ gi < 4 ∧ credB ((u : Int), (gi : Int), l) = true ∧ w'.ownsRow w.heap.size 3 1 v l.length (l.map (Value.int .i64)) ∧ IsCur w' B g cv ns i' h' ∧ w.grownBy w' (some g) := by
  obtain ⟨j0, hj, hy0, hy1, hy2⟩ := info_parts Ni.intInfo
  have HJ := Lib.hid hj
  have HY0 := Lib.hid hy0
  have HY1 := Lib.hid hy1
  have HY2 := Lib.hid hy2
  clear hj hy0 hy1 hy2
  have hgl := cur_i64 hc
  have HC := Lib.hid (cur_alloc hc (.cells #[.int .i64 0, .int .i64 0, .slice none 0 0] 25))
  have HG := Lib.hid (World.grownBy_alloc w (.cells #[.int .i64 0, .int .i64 0, .slice none 0 0] 25) (some g))
  have hR := new w #[.int .i64 0, .int .i64 0, .slice none 0 0] 25
  have hs0 : w.heap.size < (w.alloc (.cells #[.int .i64 0, .int .i64 0, .slice none 0 0] 25)).heap.size := by simp
  clear hc
  go_enter Try.func38, Try.ntmps38
  go_wp2_with fail
  generalize w.alloc (.cells #[.int .i64 0, .int .i64 0, .slice none 0 0] 25) = w0 at HC HG hR hs0 ⊢
  have HR := Lib.hid hR
  clear hR
  refine (below_any _ _ _ _ _ _ _ 4 (by omega) (by omega) HC.out).mono ?_
  rintro e w1 ⟨rfl, hc1, hg1⟩
  have hu4 : stepX ns i h % 4 < 4 := Nat.mod_lt _ (by omega)
  replace HC := Lib.hid hc1
  replace HR := Lib.hid (Bk.grown HR.out hg1 (by simp; omega))
  replace HG := Lib.hid (grown_trans HG.out hg1)
  have hs1 := hg1.size
  clear hc1 hg1
  generalize stepX ns i h % 4 = u at hu4 ⊢
  generalize stepI ns i = i1 at HC
  generalize nextH h = h1 at HC
  go_wp2_with fail
  refine (below_any _ _ _ _ _ _ _ 4 (by omega) (by omega) HC.out).mono ?_
  rintro e w2 ⟨rfl, hc1, hg1⟩
  have hg4 : stepX ns i1 h1 % 4 < 4 := Nat.mod_lt _ (by omega)
  replace HC := Lib.hid (cur_alloc hc1 (.cells #[.int .i64 u, .int .i64 (stepX ns i1 h1 % 4 : Nat), .slice none 0 0] 25))
  replace HR := Lib.hid (Bk.alloc (Bk.grown HR.out hg1 (by simp; omega)) (.cells #[.int .i64 u, .int .i64 (stepX ns i1 h1 % 4 : Nat), .slice none 0 0] 25))
  replace HG := Lib.hid (grown_trans (grown_trans HG.out hg1) (World.grownBy_alloc w2 (.cells #[.int .i64 u, .int .i64 (stepX ns i1 h1 % 4 : Nat), .slice none 0 0] 25) (some g)))
  have hs2 := hg1.size
  clear hc1 hg1
  generalize stepX ns i1 h1 % 4 = gi at hg4 HC HR HG ⊢
  generalize stepI ns i1 = i2 at HC
  generalize nextH h1 = h2 at HC
  obtain ⟨b, hb⟩ : ∃ b, b = w2.heap.size := ⟨_, rfl⟩
  have hX := new w2 #[.int .i64 u, .int .i64 gi, .slice none 0 0] 25
  rw [← hb] at hX
  have HX := Lib.hid hX
  have hwb : w.heap.size < b := by omega
  have HBE := Lib.hid hb
  clear hX
  go_wp2_with fail
  rw [← hb]
  clear hb
  go_loopw [4] (fun gv wr => ∃ (k : Nat) (l : List Int) (a : Option Addr) (c : Nat) (i : Nat) (h : Int), 1 ≤ k ∧ k ≤ 4 ∧ gv = .int .i64 k ∧ Asc l k ∧ l.length ≤ 3 ∧ l.length < k ∧ Bk wr w.heap.size #[.int .i64 0, .int .i64 0, .slice none 0 0] 25 ∧ Bk wr b #[.int .i64 u, .int .i64 gi, .slice a l.length c] 25 ∧ wr.ownsRow (b + 1) 3 1 (.slice a l.length c) l.length (l.map (Value.int .i64)) ∧ IsCur wr B g cv ns i h ∧ w.grownBy wr (some g)) (fun gv _ => 4 - (intOf gv).toNat)
  case atStart => exact ⟨1, [], none, 0, _, _, by omega, by omega, rfl, asc_nil _, by simp, by simp, HR.out, HX.out, ⟨rfl, .inl ⟨rfl, rfl⟩⟩, HC.out, HG.out⟩
  case round =>
    clear HC HG HR HX
    obtain ⟨k, l, a, c, i, h, hk1, hk4, rfl, hasc, hl3, hlk, hR, hX, hown, hc, hg⟩ := hrel
    have HA := Lib.hid hasc
    have HR := Lib.hid hR
    have HX := Lib.hid hX
    have HO := Lib.hid hown
    have HC := Lib.hid hc
    have HG := Lib.hid hg
    have hbl := hX.lt
    clear hasc hR hX hown hc hg
    by_cases hk : k < 4
    · go_wp2_with fail
      refine (once_any _ _ _ _ _ _ _ 4 (by omega) (by omega) HC.out).mono ?_
      rintro e w3 ⟨o, rfl, hc1, hg1⟩
      replace HC := Lib.hid hc1
      replace HR := Lib.hid (Bk.grown HR.out hg1 (by simp; omega))
      replace HX := Lib.hid (Bk.grown HX.out hg1 (by simp; omega))
      replace HO := Lib.hid (own_grown HO.out (by omega) hg1)
      replace HG := Lib.hid (grown_trans HG.out hg1)
      have hs3 := hg1.size
      clear hc1 hg1
      generalize stepI ns i = i3 at HC
      generalize nextH h = h3 at HC
      cases o with
      | false =>
        go_wp2
        go_roundw
        case rel => exact ⟨k + 1, l, a, c, _, _, by omega, by omega, by go_num, asc_mono HA.out (by omega), hl3, by omega, HR.out, HX.out, HO.out, HC.out, HG.out⟩
        case measure => simp [intOf]; omega
      | true =>
        have HN := Lib.hid (asc_next HA.out (by omega) (by omega))
        have hl2 : l.length ≤ 2 := by omega
        have HO2 := Lib.hid (World.ownsRow.alloc HO.out (.cells #[.int .i64 (k : Int)] 3))
        obtain ⟨x0, x1, x2⟩ := Bk.three HX.out
        obtain ⟨y0, y1, y2⟩ := Bk.frees HX.out
        have hb3 : b < w3.heap.size := by omega
        go_wp2_with (first | (at_builtin; refine wpList_append_own _ rfl _ _ 23 rfl (b + 1) 3 j0 (.int .i64 0) 1 8 Try.underlying23 HJ.out HY0.out HY1.out HY2.out rfl (by decide) _ _ _ rfl HO2.out ⟨w3.heap.size, 0, none⟩ 1 1 [.int .i64 (k : Int)] rfl rfl (one_new _ _ _) (by simp [Value.oneCell']) (by unfold maxLen; omega) (by omega) (by simp only [World.size_alloc]; omega) ?_))
        intro v9 w9 hown9 hg9 _
        obtain ⟨a9, c9, rfl⟩ := Dk.slice_of hown9
        have hob : ∀ q, Value.ownBlock (.slice a l.length c) = some q → b + 1 ≤ q := fun q hq => (HO.out.lt q hq).1
        have hne : ∀ q, q ≤ b → some q ≠ Value.ownBlock (.slice a l.length c) := fun q hq he => by have := hob q he.symm; omega
        replace HC := Lib.hid (cur_row (cur_alloc HC.out (.cells #[.int .i64 (k : Int)] 3)) hg9 (fun q hq => by have := hob q hq; omega))
        replace HR := Lib.hid (Bk.grown (Bk.alloc HR.out (.cells #[.int .i64 (k : Int)] 3)) hg9 (hne _ (by omega)))
        replace HX := Lib.hid (Bk.grown (Bk.alloc HX.out (.cells #[.int .i64 (k : Int)] 3)) hg9 (hne _ (Nat.le_refl _)))
        replace HG := Lib.hid (grown_row (grown_trans HG.out (World.grownBy_alloc w3 (.cells #[.int .i64 (k : Int)] 3) (some g))) hg9 (fun q hq => by have := hob q hq; omega))
        have HO9 := Lib.hid hown9
        have hs9 := hg9.size
        clear hown9 hg9 hob hne x0 x1 x2 y0 y1 y2
        obtain ⟨x0, x1, x2⟩ := Bk.three HX.out
        obtain ⟨y0, y1, y2⟩ := Bk.frees HX.out
        go_wp2
        have hXF := Bk.set HX.out 2 (.slice a9 (l.length + 1) c9)
        have hRF := Bk.far HR.out (p := ⟨b, 2, none⟩) (by simp; omega) (.slice a9 (l.length + 1) c9)
        have hOF := ownsRow_setCell_below HO9.out (a := ⟨b, 2, none⟩) (by simp) (.slice a9 (l.length + 1) c9)
        have hCF := cur_kept HC.out (w' := w9.setCell ⟨b, 2, none⟩ (.slice a9 (l.length + 1) c9)) (fun q hq => Below.heap_setCell _ _ _ _ (by simp; omega))
        have hGF := grown_row HG.out (grown_set w9 b 2 (.slice a9 (l.length + 1) c9)) (fun q hq => by cases hq; omega)
        generalize w9.setCell ⟨b, 2, none⟩ (.slice a9 (l.length + 1) c9) = wf at hXF hRF hOF hCF hGF ⊢
        have HXF := Lib.hid hXF
        have HRF := Lib.hid hRF
        have HOF := Lib.hid hOF
        have HCF := Lib.hid hCF
        have HGF := Lib.hid hGF
        clear hXF hRF hOF hCF hGF x0 x1 x2 y0 y1 y2
        go_roundw
        case rel => exact ⟨k + 1, l ++ [(k : Int)], a9, c9, _, _, by omega, by omega, by go_num, by rw [show ((k + 1 : Nat) : Int) = (k : Int) + 1 from by omega]; exact HN.out, by rw [List.length_append, List.length_singleton]; omega, by rw [List.length_append, List.length_singleton]; omega, HRF.out, by rw [List.length_append, List.length_singleton]; exact HXF.out, by rw [List.length_append, List.length_singleton, List.map_append]; exact HOF.out, HCF.out, HGF.out⟩
        case measure => simp [intOf]; omega
    · obtain rfl : k = 4 := by omega
      obtain ⟨x0, x1, x2⟩ := Bk.three HX.out
      obtain ⟨y0, y1, y2⟩ := Bk.three HR.out
      obtain ⟨z0, z1, z2⟩ := Bk.frees HR.out
      go_wp2
      have hF := ((Bk.set HR.out 0 (.int .i64 u)).set 1 (.int .i64 gi)).set 2 (.slice a l.length c)
      have hO := ownsRow_setCell_below (ownsRow_setCell_below (ownsRow_setCell_below HO.out (a := ⟨w.heap.size, 0, none⟩) (by simp; omega) (.int .i64 u)) (a := ⟨w.heap.size, 1, none⟩) (by simp; omega) (.int .i64 gi)) (a := ⟨w.heap.size, 2, none⟩) (by simp; omega) (.slice a l.length c)
      have hC := cur_kept HC.out (w' := ((wr.setCell ⟨w.heap.size, 0, none⟩ (.int .i64 u)).setCell ⟨w.heap.size, 1, none⟩ (.int .i64 gi)).setCell ⟨w.heap.size, 2, none⟩ (.slice a l.length c)) (fun q hq => ((Below.heap_setCell _ _ _ _ (by simp; omega)).trans (Below.heap_setCell _ _ _ _ (by simp; omega))).trans (Below.heap_setCell _ _ _ _ (by simp; omega)))
      have hG := grown_row (grown_row (grown_row HG.out (grown_set wr w.heap.size 0 (.int .i64 u)) (fun q hq => by cases hq; omega)) (grown_set _ w.heap.size 1 (.int .i64 gi)) (fun q hq => by cases hq; omega)) (grown_set _ w.heap.size 2 (.slice a l.length c)) (fun q hq => by cases hq; omega)
      generalize ((wr.setCell ⟨w.heap.size, 0, none⟩ (.int .i64 u)).setCell ⟨w.heap.size, 1, none⟩ (.int .i64 gi)).setCell ⟨w.heap.size, 2, none⟩ (.slice a l.length c) = wf at hF hO hC hG ⊢
      obtain ⟨c0, c1, c2⟩ := Bk.three hF
      exact bodyPost_ret (v := .agg #[.int .i64 u, .int .i64 gi, .slice a l.length c]) (by simp [results, Try.results38, go_sem, c0, c1, c2]) rfl ⟨u, gi, _, l, _, _, rfl, hu4, hg4, asc_cred HA.out hu4 hg4, SplitAny.own_mono hO (by omega), hC, hG⟩

set_option maxRecDepth 100000 in
set_option maxHeartbeats 1000000 in
theorem make_any (w : World) (cv : Value) (ns : List Nat) (m : Nat) (hm : m ≤ 1000000) (hc : CodeIn w w.heap.size cv ns) :
    Calls Try.prog 13 #[cv, .int .i64 m] w fun e w' => ∃ (u gi : Nat) (v : Value) (l : List Int), e = .returned (.agg #[.int .i64 u, .int .i64 gi, v]) ∧ u < 4 ∧ gi < 4 ∧ credB ((u : Int), (gi : Int), l) = true ∧ w'.ownsRow w.heap.size 3 1 v l.length (l.map (Value.int .i64)) ∧ Below w.heap.size w w' := by
  have hb1 := Joins.below_alloc1 w (.cells #[.int .i64 0, .int .i64 0, .slice none 0 0] 25)
  have HC := Lib.hid (code_at hc hb1)
  have HB := Lib.hid hb1
  have HR := Lib.hid (new w #[.int .i64 0, .int .i64 0, .slice none 0 0] 25)
  have hs0 : w.heap.size < (w.alloc (.cells #[.int .i64 0, .int .i64 0, .slice none 0 0] 25)).heap.size := by simp
  clear hc hb1
  go_enter Try.func13, Try.ntmps13
  go_wp2_with fail
  generalize w.alloc (.cells #[.int .i64 0, .int .i64 0, .slice none 0 0] 25) = w0 at HC HB HR hs0 ⊢
  refine (moved_any _ cv ns m hm HC.out).mono ?_
  rintro e w1 ⟨rfl, hc1, hb1⟩
  have HC1 := Lib.hid hc1
  replace HR := Lib.hid (HR.out.all hb1)
  replace HB := Lib.hid (HB.out.trans (hb1.mono HB.out.size))
  have hs1 := hb1.size
  clear hc1 hb1 HC
  generalize (after ns 0 (newH ns) m).1 = i at HC1
  generalize (after ns 0 (newH ns) m).2 = h at HC1
  go_wp2_with fail
  refine (draw_any _ _ _ _ _ _ _ HC1.out).mono ?_
  rintro e w2 ⟨u, gi, v, l, i', h', rfl, hu, hgi, hok, hown, _, hg⟩
  obtain ⟨a, c, rfl⟩ := Dk.slice_of hown
  replace HR := Lib.hid (Bk.grown HR.out hg (by simp; omega))
  replace HB := Lib.hid (HB.out.grown hg HB.out.size (fun k hk => by cases hk; omega))
  have HO := Lib.hid hown
  have HOK := Lib.hid hok
  clear hown hg hok
  obtain ⟨y0, y1, y2⟩ := Bk.three HR.out
  obtain ⟨z0, z1, z2⟩ := Bk.frees HR.out
  go_wp2
  have hF := ((Bk.set HR.out 0 (.int .i64 u)).set 1 (.int .i64 gi)).set 2 (.slice a l.length c)
  have hO := ownsRow_setCell_below (ownsRow_setCell_below (ownsRow_setCell_below HO.out (a := ⟨w.heap.size, 0, none⟩) (by simp; omega) (.int .i64 u)) (a := ⟨w.heap.size, 1, none⟩) (by simp; omega) (.int .i64 gi)) (a := ⟨w.heap.size, 2, none⟩) (by simp; omega) (.slice a l.length c)
  have hB := ((HB.out.setCell (p := ⟨w.heap.size, 0, none⟩) (by simp) (.int .i64 u)).setCell (p := ⟨w.heap.size, 1, none⟩) (by simp) (.int .i64 gi)).setCell (p := ⟨w.heap.size, 2, none⟩) (by simp) (.slice a l.length c)
  generalize ((w2.setCell ⟨w.heap.size, 0, none⟩ (.int .i64 u)).setCell ⟨w.heap.size, 1, none⟩ (.int .i64 gi)).setCell ⟨w.heap.size, 2, none⟩ (.slice a l.length c) = wf at hF hO hB ⊢
  obtain ⟨c0, c1, c2⟩ := Bk.three hF
  exact bodyPost_ret (v := .agg #[.int .i64 u, .int .i64 gi, .slice a l.length c]) (by simp [results, Try.results13, go_sem, c0, c1, c2]) rfl ⟨u, gi, _, l, rfl, hu, hgi, HOK.out, SplitAny.own_mono hO (by omega), hB⟩
end Go.Proofs.Ytjdehgadfjopiaa.CDraw
