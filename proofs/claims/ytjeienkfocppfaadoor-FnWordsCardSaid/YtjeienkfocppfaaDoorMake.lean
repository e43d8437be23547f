/- Contracts of the laws' makers: a number and a text out of the drawn code. Conditions: as each theorem types them. -/
import Derived.Test.YtjeienkfocppfaaDoorCurTwo
namespace Go.Proofs.YtjeienkfocppfaaDoor.Make
open Go.ChangeShapes Go.WideShapes Go.ChangeAt Go.RowKit
open Cur (CodeIn IsCur stepX stepX_le stepI nextH after newH moved_any byte_any below_at new_any below_any str_any cur_i64 code_kept)
set_option linter.unusedVariables false

set_option maxHeartbeats 400000 in
/-- A number from 0 up to 65535. -/
theorem num_any (w : World) (cv : Value) (ns : List Nat) (m : Nat) (hm : m ≤ 1000000) (hc : CodeIn w w.heap.size cv ns) :
    Calls Tryd.prog 6 #[cv, .int .i64 m] w fun e w' => ∃ n : Nat, n ≤ 65535 ∧ e = .returned (.int .i64 n) ∧ Below w.heap.size w w' := by
  have H1 := Lib.hid (moved_any w cv ns m hm hc)
  clear hc
  go_enter Tryd.func6, Tryd.ntmps6
  go_wp2_with fail
  refine H1.out.mono ?_
  rintro e w1 ⟨rfl, hc1, hb1⟩
  have HC1 := Lib.hid hc1
  have HB1 := Lib.hid hb1
  clear hc1 hb1
  generalize (after ns 0 (newH ns) m).1 = i at HC1
  generalize (after ns 0 (newH ns) m).2 = h at HC1
  go_wp2_with fail
  refine (byte_any _ _ _ _ _ _ _ HC1.out).mono ?_
  rintro e w2 ⟨rfl, hc2, hg2⟩
  have HC2 := Lib.hid hc2
  have HB2 := Lib.hid (below_at HB1.out (Nat.le_refl _) hg2)
  have hx := stepX_le ns i h
  clear hc2 hg2
  generalize stepX ns i h = x at hx ⊢
  go_wp2_with fail
  refine (byte_any _ _ _ _ _ _ _ HC2.out).mono ?_
  rintro e w3 ⟨rfl, hc3, hg3⟩
  have HB3 := Lib.hid (below_at HB2.out (Nat.le_refl _) hg3)
  have hy := stepX_le ns (stepI ns i) (nextH h)
  clear hc3 hg3
  generalize stepX ns (stepI ns i) (nextH h) = y at hy ⊢
  go_wp2
  go_ret
  exact ⟨x * 256 + y, by omega, by go_num, HB3.out⟩

theorem cur_alloc {w : World} {B g : Nat} {cv : Value} {ns : List Nat} {i : Nat} {h : Int} (hc : IsCur w B g cv ns i h) (o : Obj) : IsCur (w.alloc o) B g cv ns i h := by
  have hlt := cur_i64 hc
  obtain ⟨hB, hcode, hi, hb⟩ := hc
  exact ⟨hB, code_kept hcode (fun k hk => Below.heap_alloc _ _ _ (by omega)), hi, (Below.heap_alloc w o g hlt).trans hb⟩
def words : List ByteArray := [⟨#[97]⟩, ⟨#[98, 99]⟩, ⟨#[32]⟩, ⟨#[44]⟩, ⟨#[120, 49]⟩]
theorem words_cell (w : World) (T : TypeId) (j : Nat) (hj : j < 5) : (w.alloc (.cells #[.string ⟨#[97]⟩, .string ⟨#[98, 99]⟩, .string ⟨#[32]⟩, .string ⟨#[44]⟩, .string ⟨#[120, 49]⟩] T)).cell? ⟨w.heap.size, j, none⟩ = some (.string (words.getD j ⟨#[]⟩)) := by
  rw [World.cell?_alloc_at _ _ _ _ rfl]
  match j, hj with
  | 0, _ => rfl
  | 1, _ => rfl
  | 2, _ => rfl
  | 3, _ => rfl
  | 4, _ => rfl
theorem words_size (j : Nat) (hj : j < 5) : (words.getD j ⟨#[]⟩).size ≤ 2 := by
  match j, hj with
  | 0, _ => decide
  | 1, _ => decide
  | 2, _ => decide
  | 3, _ => decide
  | 4, _ => decide

set_option maxHeartbeats 400000 in
/-- A text of at most 16 bytes. -/
theorem text_any (w : World) (cv : Value) (ns : List Nat) (hc : CodeIn w w.heap.size cv ns) :
    Calls Tryd.prog 9 #[cv] w fun e w' => ∃ s : ByteArray, s.size ≤ 16 ∧ e = .returned (.string s) ∧ Below w.heap.size w w' := by
  have H1 := Lib.hid (new_any w cv ns hc)
  clear hc
  go_enter Tryd.func9, Tryd.ntmps9
  go_wp2_with fail
  refine H1.out.mono ?_
  rintro e w1 ⟨rfl, hc1, hb1, _⟩
  have HC1 := Lib.hid hc1
  have HB1 := Lib.hid hb1
  clear hc1 hb1
  go_wp2_with fail
  refine (below_any _ _ _ _ _ _ _ 8 (by omega) (by omega) HC1.out).mono ?_
  rintro e w2 ⟨rfl, hc2, hg2⟩
  have HC2 := Lib.hid hc2
  have HB2 := Lib.hid (below_at HB1.out (Nat.le_refl _) hg2)
  have hx : stepX ns 0 (newH ns) % 8 < 8 := Nat.mod_lt _ (by omega)
  clear hc2 hg2
  generalize stepX ns 0 (newH ns) % 8 = x at hx ⊢
  go_wp2_with fail
  go_loopw [4, 5] (fun sv nv wr => ∃ (n : Nat) (s : ByteArray) (i : Nat) (h : Int), sv = .string s ∧ nv = .int .i64 n ∧ n ≤ 8 ∧ s.size + 2 * n ≤ 16 ∧ IsCur wr w.heap.size w.heap.size cv ns i h ∧ Below w.heap.size w wr) (fun _ nv _ => (intOf nv).toNat)
  case atStart => exact ⟨x, ⟨#[]⟩, _, _, rfl, rfl, by omega, by have : (ByteArray.mk #[]).size = 0 := rfl; omega, HC2.out, HB2.out⟩
  case round =>
    obtain ⟨n, s, i, h, rfl, rfl, hn, hs, hc, hb⟩ := hrel
    have HC := Lib.hid hc
    have HB := Lib.hid hb
    have hgl := cur_i64 hc
    clear hc hb
    by_cases h0 : 0 < n
    · go_wp2_with fail
      refine (str_any _ _ _ _ _ _ _ wr.heap.size 5 words (by decide) (by decide) (by omega) (fun j hj => words_cell wr _ j hj) (cur_alloc HC.out _)).mono ?_
      rintro e w3 ⟨rfl, hc3, hg3⟩
      have HC3 := Lib.hid hc3
      have HB3 := Lib.hid (below_at (HB.out.alloc (by omega) _) (Nat.le_refl _) hg3)
      have hz := words_size (stepX ns i h % words.length) (Nat.mod_lt _ (by decide))
      clear hc3 hg3
      generalize words.getD (stepX ns i h % words.length) ⟨#[]⟩ = t at hz ⊢
      have hst : (s ++ t).size ≤ s.size + 2 := by rw [ByteArray.size_append]; omega
      have HST := Lib.hid hst
      clear hst
      go_wp2
      go_roundw
      case rel => exact ⟨n - 1, s ++ t, _, _, rfl, by go_num, by omega, by have := HST.out; omega, HC3.out, HB3.out⟩
      case measure => simp [intOf]; omega
    · go_wp2_with fail
      go_ret
      exact ⟨s, by omega, rfl, HB.out⟩
end Go.Proofs.YtjeienkfocppfaaDoor.Make
