/- Contracts of the laws' makers: a valid access list out of the drawn code. And what a valid list says: its entries ascend, its last one is the mask. Conditions: as each theorem types them. -/
import Derived.Test.YtjdehgadfjopiaaMakeBytes
import Derived.Test.YtjdehgadfjopiaaAclQ
import Derived.Test.YtjdehgadfjopiaaAclQ
namespace Go.Proofs.Ytjdehgadfjopiaa.ADraw
open Go.ChangeShapes Go.WideShapes Go.ChangeAt Go.RowKit
open Cur AclV
open Go.Proofs.Ytjdehgadfjopiaa.Make (cur_alloc)
open Go.Proofs.Ytjdehgadfjopiaa.MakeBytes (cur_kept pick_any)
open AclS (forB)
set_option linter.unusedVariables false

theorem cells3_at (w : World) (x y z : Value) (T : TypeId) : ∀ j u, [x, y, z][j]? = some u → (w.alloc (.cells #[x, y, z] T)).cell? ((⟨w.heap.size, 0, none⟩ : Addr).add j) = some u := by
  intro j u hj
  rw [Addr.add_lit, Nat.zero_add, World.cell?_alloc_at _ _ _ _ rfl]
  simpa using hj
theorem own_fresh3 (w : World) (e : TypeId) : (w.alloc (.cells #[] e)).ownsRow w.heap.size e 3 (.slice (some ⟨w.heap.size, 0, none⟩) 0 0) 0 (Ae.cells []) := by
  refine ⟨rfl, .inr ⟨w.heap.size, 0, #[], rfl, Nat.le_refl _, ?_, Nat.le_refl _, Nat.zero_le _, rfl, rfl⟩⟩
  exact (MapKept.heap_alloc w _).1
theorem grown_of {w w' : World} (h : Below w.heap.size w w') (row : Option Nat) : w.grownBy w' row := ⟨h.os, h.tape, h.output, h.size, fun k hk _ => h.block k hk⟩
theorem grown_trans {w a b : World} {row : Option Nat} (h1 : w.grownBy a row) (h2 : a.grownBy b row) : w.grownBy b row :=
  ⟨h2.os.trans h1.os, h2.tape.trans h1.tape, h2.output.trans h1.output, Nat.le_trans h1.size h2.size, fun k hk hn => (h2.block k (Nat.lt_of_lt_of_le hk h1.size) hn).trans (h1.block k hk hn)⟩
theorem cur_below {w w' : World} {B g : Nat} {cv : Value} {ns : List Nat} {i : Nat} {h : Int} (hc : IsCur w B g cv ns i h) (hb : Below w.heap.size w w') : IsCur w' B g cv ns i h := by
  have := cur_i64 hc
  exact cur_kept hc (fun k hk => hb.block k (by omega))
theorem grown_row {w a b : World} {g : Nat} {row : Option Nat} (h : w.grownBy a (some g)) (hr : a.grownBy b row) (hrow : ∀ k, row = some k → w.heap.size ≤ k) : w.grownBy b (some g) :=
  ⟨hr.os.trans h.os, hr.tape.trans h.tape, hr.output.trans h.output, Nat.le_trans h.size hr.size, fun k hk hn => (hr.block k (Nat.lt_of_lt_of_le hk h.size) (fun e => by have := hrow k e.symm; omega)).trans (h.block k hk hn)⟩
theorem cur_row {w b : World} {B g : Nat} {cv : Value} {ns : List Nat} {i : Nat} {h : Int} {row : Option Nat} (hc : IsCur w B g cv ns i h) (hr : w.grownBy b row) (hrow : ∀ k, row = some k → g < k) : IsCur b B g cv ns i h := by
  have := cur_i64 hc
  exact cur_kept hc (fun k hk => hr.block k (by omega) (fun e => by have := hrow k e.symm; omega))
theorem own_grown {w a : World} {base g n size : Nat} {v : Value} {xs : List Value} {e : TypeId} (h : w.ownsRow base e size v n xs) (hlt : g < base) (hg : w.grownBy a (some g)) : a.ownsRow base e size v n xs :=
  h.kept hg (.inr fun e => by have := (h.lt g e).1; omega)

/-- The last entry. -/
def lastA (l : List At) : At := l.getD (l.length - 1) a0
theorem last_snoc (l : List At) (x : At) : lastA (l ++ [x]) = x := by
  unfold lastA
  rw [List.length_append, List.length_singleton, Nat.add_sub_cancel]
  simp [List.getD]
theorem getD_app (l : List At) (x : At) (i : Nat) (h : i < l.length) : (l ++ [x]).getD i a0 = l.getD i a0 := by
  rw [List.getD_eq_getElem?_getD, List.getD_eq_getElem?_getD, List.getElem?_append_left h]
theorem getD_end (l : List At) (x : At) : (l ++ [x]).getD l.length a0 = x := by simp [List.getD]
theorem up_app (l : List At) (x : At) : ∀ k, k ≤ l.length → upB (l ++ [x]) k = upB l k
  | 0, _ => rfl
  | k + 1, h => by
    rw [upB_succ, upB_succ, up_app l x k (by omega), getD_app l x k (by omega)]
    by_cases hk : k = 0
    · subst hk; rfl
    · rw [getD_app l x (k - 1) (by omega)]
/-- Valid entries that ascend and stand before the entry of tag t and id i. -/
def Asc (l : List At) (t i : Int) : Prop := upB l l.length = true ∧ (l ≠ [] → (lastA l).1 < t ∨ ((lastA l).1 = t ∧ (lastA l).2.1 < i))
theorem asc_nil (t i : Int) : Asc [] t i := ⟨rfl, fun h => absurd rfl h⟩
theorem asc_mono {l : List At} {t i t' i' : Int} (h : Asc l t i) (hm : t < t' ∨ (t = t' ∧ i ≤ i')) : Asc l t' i' := ⟨h.1, fun hne => by
  have := h.2 hne
  omega⟩
theorem asc_snoc {l : List At} {t i p : Int} (h : Asc l t i) (he : entB (t, i, p) = true) : upB (l ++ [(t, i, p)]) (l.length + 1) = true := by
  rw [upB_succ, up_app l _ _ (Nat.le_refl _), h.1, getD_end, he]
  by_cases h0 : l.length = 0
  · simp [h0]
  · have hne : l ≠ [] := fun e => h0 (by rw [e]; rfl)
    rw [getD_app l _ _ (by omega)]
    have hl := h.2 hne
    unfold lastA at hl
    have : ltB (l.getD (l.length - 1) a0) (t, i, p) = true := by
      simp only [ltB, Bool.or_eq_true, Bool.and_eq_true, decide_eq_true_eq]
      exact hl
    rw [this]
    simp
theorem asc_next {l : List At} {t i p : Int} (h : Asc l t i) (he : entB (t, i, p) = true) : Asc (l ++ [(t, i, p)]) t (i + 1) := by
  refine ⟨by rw [List.length_append, List.length_singleton]; exact asc_snoc h he, fun _ => ?_⟩
  rw [last_snoc]
  exact .inr ⟨rfl, by show i < i + 1; omega⟩
/-- With the mask behind them they are a valid list. -/
theorem asc_mask {l : List At} {p : Int} (h : Asc l 3 0) (hl : l.length ≤ 5) (h0 : 0 ≤ p) (h7 : p ≤ 7) : okB (l ++ [(3, 0, p)]) = true := by
  have he : entB (3, 0, p) = true := by simp [entB, h0, h7]
  have hu := asc_snoc h he
  rw [AclI.ok_last (p := l.length) (by simp) hu, getD_end]
  simp; omega
/-- Before: a strict order on entries. -/
theorem lt_trans {x y z : At} (h1 : ltB x y = true) (h2 : ltB y z = true) : ltB x z = true := by
  simp only [ltB, Bool.or_eq_true, Bool.and_eq_true, decide_eq_true_eq] at *
  omega
theorem up_lt {l : List At} : ∀ (d i k : Nat), k = i + d + 1 → k < l.length → upB l l.length = true → ltB (l.getD i a0) (l.getD k a0) = true
  | 0, i, k, hk, hl, hu => by
    subst hk
    have := upB_mono hu (show i + 0 + 1 + 1 ≤ l.length by omega)
    rw [upB_succ] at this
    simp at this
    exact this.2.2
  | d + 1, i, k, hk, hl, hu => by
    have h1 := up_lt d i (i + d + 1) rfl (by omega) hu
    subst hk
    have := upB_mono hu (show i + (d + 1) + 1 + 1 ≤ l.length by omega)
    rw [upB_succ] at this
    simp at this
    exact lt_trans h1 this.2.2
theorem ok_lt {l : List At} (h : okB l = true) {i k : Nat} (hik : i < k) (hk : k < l.length) : ltB (l.getD i a0) (l.getD k a0) = true := up_lt (k - i - 1) i k (by omega) hk (ok_up h)
/-- An entry's perm is found by its tag and id. -/
theorem perm_ok {l : List At} (h : okB l = true) {k : Nat} (hk : k < l.length) : permV l (l.getD k a0).1 (l.getD k a0).2.1 = ((l.getD k a0).2.2, true) := by
  refine AclQ.perm_at hk (fun i hi => ?_) (by simp [forB])
  have := ok_lt h hi hk
  simp only [ltB, Bool.or_eq_true, Bool.and_eq_true, decide_eq_true_eq] at this
  simp only [forB]
  rcases this with h1 | ⟨h1, h2⟩
  · rw [decide_eq_false (by omega), Bool.false_and]
  · rw [decide_eq_false (show ¬ (l.getD i a0).2.1 = (l.getD k a0).2.1 by omega), Bool.and_false]
/-- The mask is the last entry. -/
theorem mask_ok {l : List At} (h : okB l = true) {p : Nat} (hl : l.length = p + 1) : maskV l = (l.getD p a0).2.2 := by
  have hu := ok_up h
  rw [hl] at hu
  have h3 := AclI.ok_last hl hu
  rw [h] at h3
  have h33 : (l.getD p a0).1 = 3 := by simpa using (Bool.and_eq_true_iff.1 h3.symm).2
  refine AclQ.mask_at (by omega) (fun i hi => ?_) (decide_eq_true h33)
  have := ok_lt h hi (by omega)
  have hei := up_ent (ok_up h) (show i < l.length by omega)
  have hep := up_ent (ok_up h) (show p < l.length by omega)
  simp only [ltB, entB, Bool.or_eq_true, Bool.and_eq_true, decide_eq_true_eq] at this hei hep
  exact decide_eq_false (by omega)

set_option maxRecDepth 100000 in
set_option maxHeartbeats 400000 in
theorem once_any (w : World) (B g : Nat) (cv : Value) (ns : List Nat) (i : Nat) (h : Int) (m : Nat) (hm1 : 1 ≤ m) (hm2 : m ≤ 256) (hc : IsCur w B g cv ns i h) :
    Calls Try.prog 67 #[.pointer (some ⟨g, 0, none⟩), .int .i64 m] w fun e w' => ∃ b : Bool, e = .returned (.bool b) ∧ IsCur w' B g cv ns (stepI ns i) (nextH h) ∧ w.grownBy w' (some g) := by
  have H1 := Lib.hid (below_any w B g cv ns i h m hm1 hm2 hc)
  clear hc
  go_enter Try.func67, Try.ntmps67
  go_wp2_with fail
  refine H1.out.mono ?_
  rintro e w1 ⟨rfl, hc1, hg1⟩
  go_wp2
  go_ret
  exact ⟨_, rfl, hc1, hg1⟩
def perms : List Int := [7, 7, 6, 5, 4, 0]
theorem perms_cell (w : World) (T : TypeId) (j : Nat) (hj : j < 6) : (w.alloc (.cells #[.int .i64 7, .int .i64 7, .int .i64 6, .int .i64 5, .int .i64 4, .int .i64 0] T)).cell? ⟨w.heap.size, j, none⟩ = some (.int .i64 (perms.getD j 0)) := by
  rw [World.cell?_alloc_at _ _ _ _ rfl]
  rcases (show j = 0 ∨ j = 1 ∨ j = 2 ∨ j = 3 ∨ j = 4 ∨ j = 5 by omega) with rfl | rfl | rfl | rfl | rfl | rfl <;> rfl
theorem perms_in (j : Nat) (hj : j < 6) : 0 ≤ perms.getD j 0 ∧ perms.getD j 0 ≤ 7 := by
  rcases (show j = 0 ∨ j = 1 ∨ j = 2 ∨ j = 3 ∨ j = 4 ∨ j = 5 by omega) with rfl | rfl | rfl | rfl | rfl | rfl <;> decide

set_option maxRecDepth 100000 in
set_option maxHeartbeats 4000000 in
theorem draw_any (w : World) (B g : Nat) (cv : Value) (ns : List Nat) (i : Nat) (h : Int) (hc : IsCur w B g cv ns i h) :
    Calls Try.prog 40 #[.pointer (some ⟨g, 0, none⟩)] w fun e w' => ∃ (v : Value) (l : List At), e = .returned v ∧ okB l = true ∧ w'.ownsRow w.heap.size 69 3 v l.length (Ae.cells l) ∧ w.grownBy w' (some g) := by
  obtain ⟨j0, hj, hy0, hy1, hy2⟩ := info_parts Ae.info
  have HJ := Lib.hid hj
  have HY0 := Lib.hid hy0
  have HY1 := Lib.hid hy1
  have HY2 := Lib.hid hy2
  clear hj hy0 hy1 hy2
  have hgl := cur_i64 hc
  have HC := Lib.hid (cur_alloc hc (.cells #[] 69))
  have HO := Lib.hid (own_fresh3 w 69)
  have HG := Lib.hid (World.grownBy_alloc w (.cells #[] 69) (some g))
  clear hc
  go_enter Try.func40, Try.ntmps40
  go_wp2_with fail
  generalize w.alloc (.cells #[] 69) = w0 at HC HO HG ⊢
  refine (once_any _ _ _ _ _ _ _ 3 (by omega) (by omega) HC.out).mono ?_
  rintro e w1 ⟨b, rfl, hc1, hg1⟩
  replace HC := Lib.hid hc1
  replace HO := Lib.hid (own_grown HO.out hgl hg1)
  replace HG := Lib.hid (grown_trans HG.out hg1)
  clear hc1 hg1
  generalize stepI ns i = i1 at HC
  generalize nextH h = h1 at HC
  cases b with
  | true =>
    go_wp2
    go_ret
    exact ⟨_, [], rfl, AclI.ok_zero rfl, HO.out, HG.out⟩
  | false =>
    go_wp2_with fail
    go_loopw [3, 4] (fun lv tv wr => ∃ (T : Nat) (l : List At) (i : Nat) (h : Int), 1 ≤ T ∧ T ≤ 3 ∧ tv = .int .i64 T ∧ Asc l T 0 ∧ l.length ≤ 4 ∧ wr.ownsRow w.heap.size 69 3 lv l.length (Ae.cells l) ∧ IsCur wr B g cv ns i h ∧ w.grownBy wr (some g)) (fun _ tv _ => 3 - (intOf tv).toNat)
    case atStart => exact ⟨1, [], _, _, by omega, by omega, rfl, asc_nil _ _, by simp, HO.out, HC.out, HG.out⟩
    case round =>
      clear HC HO HG
      obtain ⟨T, l, i, h, hT1, hT3, rfl, hasc, hl4, hown, hc, hg⟩ := hrel
      have HA := Lib.hid hasc
      have HO := Lib.hid hown
      have HC := Lib.hid hc
      have HG := Lib.hid hg
      clear hasc hown hc hg
      by_cases hlt : T ≤ 2
      · have hd2 : decide ((T : Int) ≤ 2) = true := decide_eq_true (by omega)
        go_wp2_with fail
        try rw [hd2]
        go_loopw [3, 5] (fun lv iv wr => ∃ (J : Nat) (l : List At) (i : Nat) (h : Int), 1 ≤ J ∧ J ≤ 4 ∧ iv = .int .i64 J ∧ Asc l T J ∧ l.length ≤ 4 ∧ wr.ownsRow w.heap.size 69 3 lv l.length (Ae.cells l) ∧ IsCur wr B g cv ns i h ∧ w.grownBy wr (some g)) (fun _ iv _ => 4 - (intOf iv).toNat)
        case atStart => exact ⟨1, l, _, _, by omega, by omega, rfl, asc_mono HA.out (.inr ⟨rfl, by omega⟩), hl4, HO.out, HC.out, HG.out⟩
        case round =>
          clear HC HO HG HA hl4
          obtain ⟨J, l, i, h, hJ1, hJ4, rfl, hasc, hl4, hown, hc, hg⟩ := hrel
          have HA := Lib.hid hasc
          have HO := Lib.hid hown
          have HC := Lib.hid hc
          have HG := Lib.hid hg
          obtain ⟨va, vc, rfl⟩ := Dk.slice_of hown
          clear hasc hown hc hg
          by_cases hj : J < 4
          · go_wp2_with fail
            refine (once_any _ _ _ _ _ _ _ 3 (by omega) (by omega) HC.out).mono ?_
            rintro e w2 ⟨b, rfl, hc1, hg1⟩
            replace HC := Lib.hid hc1
            replace HO := Lib.hid (own_grown HO.out hgl hg1)
            replace HG := Lib.hid (grown_trans HG.out hg1)
            clear hc1 hg1
            generalize stepI ns i = i2 at HC
            generalize nextH h = h2 at HC
            cases b with
            | false =>
              go_wp2
              go_roundw
              case rel => exact ⟨J + 1, l, _, _, by omega, by omega, by go_num, asc_mono HA.out (.inr ⟨rfl, by omega⟩), hl4, HO.out, HC.out, HG.out⟩
              case measure => simp [intOf]; omega
            | true =>
              by_cases hll : l.length < 4
              · go_wp2_with fail
                refine (below_any _ _ _ _ _ _ _ 8 (by omega) (by omega) HC.out).mono ?_
                rintro e w3 ⟨rfl, hc1, hg1⟩
                replace HC := Lib.hid hc1
                replace HO := Lib.hid (own_grown HO.out hgl hg1)
                replace HG := Lib.hid (grown_trans HG.out hg1)
                clear hc1 hg1
                have hp8 : stepX ns i2 h2 % 8 < 8 := Nat.mod_lt _ (by omega)
                generalize stepX ns i2 h2 % 8 = p at hp8 ⊢
                generalize stepI ns i2 = i3 at HC
                generalize nextH h2 = h3 at HC
                have he : entB ((T : Int), (J : Int), (p : Int)) = true := by
                  simp only [entB, Bool.and_eq_true, Bool.or_eq_true, decide_eq_true_eq]
                  omega
                have HN := Lib.hid (asc_next HA.out he)
                have hs3 := HG.out.size
                clear he
                have HO2 := Lib.hid (World.ownsRow.alloc HO.out (.cells #[.int .i64 T, .int .i64 J, .int .i64 p] 69))
                go_wp2_with (first | (at_builtin; refine wpList_append_own _ rfl _ _ 27 rfl w.heap.size 69 j0 (.agg #[.int .i64 0, .int .i64 0, .int .i64 0]) 3 24 Try.underlying27 HJ.out HY0.out HY1.out HY2.out rfl (by decide) _ _ _ rfl HO2.out ⟨w3.heap.size, 0, none⟩ 1 1 [.int .i64 T, .int .i64 J, .int .i64 p] rfl rfl (cells3_at _ _ _ _ _) (by simp [Value.oneCell']) (by unfold maxLen; omega) (by omega) (by simp only [World.size_alloc]; omega) ?_))
                intro v9 w9 hown9 hg9 _
                have HO9 := Lib.hid hown9
                have HC9 := Lib.hid (cur_row (cur_alloc HC.out (.cells #[.int .i64 T, .int .i64 J, .int .i64 p] 69)) hg9 (fun k hk => by have := (HO.out.lt k hk).1; omega))
                have HG9 := Lib.hid (grown_row (grown_trans HG.out (World.grownBy_alloc w3 (.cells #[.int .i64 T, .int .i64 J, .int .i64 p] 69) (some g))) hg9 (fun k hk => (HO.out.lt k hk).1))
                clear hown9 hg9
                go_wp2
                go_roundw
                case rel => exact ⟨J + 1, l ++ [((T : Int), (J : Int), (p : Int))], _, _, by omega, by omega, by go_num, by rw [show ((J + 1 : Nat) : Int) = (J : Int) + 1 from by omega]; exact HN.out, by simp; omega, by rw [List.length_append, List.length_singleton, Ae.cells_snoc]; exact HO9.out, HC9.out, HG9.out⟩
                case measure => simp [intOf]; omega
              · have hd : decide (l.length < 4) = false := decide_eq_false hll
                go_wp2
                go_roundw
                case rel => exact ⟨J + 1, l, _, _, by omega, by omega, by go_num, asc_mono HA.out (.inr ⟨rfl, by omega⟩), hl4, HO.out, HC.out, HG.out⟩
                case measure => simp [intOf]; omega
          · obtain rfl : J = 4 := by omega
            go_wp2
            go_roundw
            case rel => exact ⟨T + 1, l, _, _, by omega, by omega, by go_num, asc_mono HA.out (.inl (by omega)), hl4, HO.out, HC.out, HG.out⟩
            case measure => simp [intOf]; omega
      · obtain rfl : T = 3 := by omega
        obtain ⟨va, vc, rfl⟩ := Dk.slice_of HO.out
        have hcg := cur_i64 HC.out
        have hs3 := HG.out.size
        have HO1 := Lib.hid (World.ownsRow.alloc HO.out (.cells #[.int .i64 7, .int .i64 7, .int .i64 6, .int .i64 5, .int .i64 4, .int .i64 0] 3))
        have HC1 := Lib.hid (cur_alloc HC.out (.cells #[.int .i64 7, .int .i64 7, .int .i64 6, .int .i64 5, .int .i64 4, .int .i64 0] 3))
        have HG1 := Lib.hid (grown_trans HG.out (World.grownBy_alloc wr (.cells #[.int .i64 7, .int .i64 7, .int .i64 6, .int .i64 5, .int .i64 4, .int .i64 0] 3) (some g)))
        have hpc := fun j (hj : j < 6) => perms_cell wr 3 j hj
        have HPC := Lib.hid hpc
        clear hpc
        have hsa : (wr.alloc (.cells #[.int .i64 7, .int .i64 7, .int .i64 6, .int .i64 5, .int .i64 4, .int .i64 0] 3)).heap.size = wr.heap.size + 1 := by simp
        go_wp2_with fail
        generalize wr.alloc (.cells #[.int .i64 7, .int .i64 7, .int .i64 6, .int .i64 5, .int .i64 4, .int .i64 0] 3) = wa at HO1 HC1 HG1 HPC hsa ⊢
        refine (pick_any _ _ _ _ _ _ _ wr.heap.size 6 perms (by decide) (by decide) (by omega) HPC.out HC1.out).mono ?_
        rintro e w4 ⟨rfl, hc1, hg1⟩
        have HO4 := Lib.hid (own_grown HO1.out hgl hg1)
        have HG4 := Lib.hid (grown_trans HG1.out hg1)
        have hs4 := HG4.out.size
        clear hc1 hg1
        have hp := perms_in (stepX ns i h % perms.length) (Nat.mod_lt _ (by decide))
        generalize perms.getD (stepX ns i h % perms.length) 0 = p at hp ⊢
        have HOK := Lib.hid (asc_mask (show Asc l 3 0 from HA.out) (by omega) hp.1 hp.2)
        have HO5 := Lib.hid (World.ownsRow.alloc HO4.out (.cells #[.int .i64 3, .int .i64 0, .int .i64 p] 69))
        go_wp2_with (first | (at_builtin; refine wpList_append_own _ rfl _ _ 27 rfl w.heap.size 69 j0 (.agg #[.int .i64 0, .int .i64 0, .int .i64 0]) 3 24 Try.underlying27 HJ.out HY0.out HY1.out HY2.out rfl (by decide) _ _ _ rfl HO5.out ⟨w4.heap.size, 0, none⟩ 1 1 [.int .i64 3, .int .i64 0, .int .i64 p] rfl rfl (cells3_at _ _ _ _ _) (by simp [Value.oneCell']) (by unfold maxLen; omega) (by omega) (by simp only [World.size_alloc]; omega) ?_))
        intro v9 w9 hown9 hg9 _
        have HO9 := Lib.hid hown9
        have HG9 := Lib.hid (grown_row (grown_trans HG4.out (World.grownBy_alloc w4 (.cells #[.int .i64 3, .int .i64 0, .int .i64 p] 69) (some g))) hg9 (fun k hk => (HO4.out.lt k hk).1))
        clear hown9 hg9
        go_wp2
        go_ret
        exact ⟨_, l ++ [(3, 0, p)], rfl, HOK.out, by rw [List.length_append, List.length_singleton, Ae.cells_snoc]; exact HO9.out, HG9.out⟩

set_option maxRecDepth 100000 in
set_option maxHeartbeats 1000000 in
theorem make_any (w : World) (cv : Value) (ns : List Nat) (m : Nat) (hm : m ≤ 1000000) (hc : CodeIn w w.heap.size cv ns) :
    Calls Try.prog 14 #[cv, .int .i64 m] w fun e w' => ∃ (v : Value) (l : List At), e = .returned v ∧ okB l = true ∧ w'.ownsRow w.heap.size 69 3 v l.length (Ae.cells l) ∧ Below w.heap.size w w' := by
  have H1 := Lib.hid (moved_any w cv ns m hm hc)
  clear hc
  go_enter Try.func14, Try.ntmps14
  go_wp2_with fail
  refine H1.out.mono ?_
  rintro e w1 ⟨rfl, hc1, hb1⟩
  have HC1 := Lib.hid hc1
  have HB1 := Lib.hid hb1
  clear hc1 hb1
  generalize (after ns 0 (newH ns) m).1 = i at HC1
  generalize (after ns 0 (newH ns) m).2 = h at HC1
  go_wp2_with fail
  refine (draw_any _ _ _ _ _ _ _ HC1.out).mono ?_
  rintro e w2 ⟨v, l, rfl, hok, hown, hg⟩
  have HB2 := Lib.hid (below_at HB1.out (Nat.le_refl _) hg)
  have HO := Lib.hid (SplitAny.own_mono hown HB1.out.size)
  clear hown hg
  go_wp2
  go_ret
  exact ⟨v, l, rfl, hok, HO.out, HB2.out⟩
end Go.Proofs.Ytjdehgadfjopiaa.ADraw
