/- Contracts and plain facts that a law of this seat leans on. Conditions: as each theorem types them. -/
import Derived.Test.YtjdehgadfjopiaaCurTwo
namespace Go.Proofs.Ytjdehgadfjopiaa.Make
open Go.ChangeShapes Go.WideShapes Go.ChangeAt Go.RowKit
open Cur (CodeIn IsCur stepX stepX_le stepI nextH after newH moved_any byte_any below_at new_any below_any cur_i64 code_kept)
set_option linter.unusedVariables false

set_option maxRecDepth 100000 in
set_option maxHeartbeats 400000 in
/-- A number from 0 up to 65535. -/
theorem num_any (w : World) (cv : Value) (ns : List Nat) (m : Nat) (hm : m ≤ 1000000) (hc : CodeIn w w.heap.size cv ns) :
    Calls Try.prog 15 #[cv, .int .i64 m] w fun e w' => ∃ n : Nat, n ≤ 65535 ∧ e = .returned (.int .i64 n) ∧ Below w.heap.size w w' := by
  have H1 := Lib.hid (moved_any w cv ns m hm hc)
  clear hc
  go_enter Try.func15, Try.ntmps15
  go_wp2_with fail
  refine H1.out.mono ?_
  rintro e w1 ⟨rfl, hc1, hb1⟩
  have HC1 := Lib.hid hc1
  have HB1 := Lib.hid hb1
  clear hc1 hb1
  generalize (after ns 0 (newH ns) m).1 = i at HC1
  generalize (after ns 0 (newH ns) m).2 = h at HC1
  go_wp2_with fail
  refine (byte_any _ _ _ _ _ _ _ HC1.out).mono ?_
  rintro e w2 ⟨rfl, hc2, hg2⟩
  have HC2 := Lib.hid hc2
  have HB2 := Lib.hid (below_at HB1.out (Nat.le_refl _) hg2)
  have hx := stepX_le ns i h
  clear hc2 hg2
  generalize stepX ns i h = x at hx ⊢
  go_wp2_with fail
  refine (byte_any _ _ _ _ _ _ _ HC2.out).mono ?_
  rintro e w3 ⟨rfl, hc3, hg3⟩
  have HB3 := Lib.hid (below_at HB2.out (Nat.le_refl _) hg3)
  have hy := stepX_le ns (stepI ns i) (nextH h)
  clear hc3 hg3
  generalize stepX ns (stepI ns i) (nextH h) = y at hy ⊢
  go_wp2
  go_ret
  exact ⟨x * 256 + y, by omega, by go_num, HB3.out⟩

theorem cur_alloc {w : World} {B g : Nat} {cv : Value} {ns : List Nat} {i : Nat} {h : Int} (hc : IsCur w B g cv ns i h) (o : Obj) : IsCur (w.alloc o) B g cv ns i h := by
  have hlt := cur_i64 hc
  obtain ⟨hB, hcode, hi, hb⟩ := hc
  exact ⟨hB, code_kept hcode (fun k hk => Below.heap_alloc _ _ _ (by omega)), hi, (Below.heap_alloc w o g hlt).trans hb⟩
def words : List ByteArray := [⟨#[97]⟩, ⟨#[98, 99]⟩, ⟨#[32]⟩, ⟨#[44]⟩, ⟨#[120, 49]⟩]
theorem words_cell (w : World) (T : TypeId) (j : Nat) (hj : j < 5) : (w.alloc (.cells #[.string ⟨#[97]⟩, .string ⟨#[98, 99]⟩, .string ⟨#[32]⟩, .string ⟨#[44]⟩, .string ⟨#[120, 49]⟩] T)).cell? ⟨w.heap.size, j, none⟩ = some (.string (words.getD j ⟨#[]⟩)) := by
  rw [World.cell?_alloc_at _ _ _ _ rfl]
  match j, hj with
  | 0, _ => rfl
  | 1, _ => rfl
  | 2, _ => rfl
  | 3, _ => rfl
  | 4, _ => rfl
theorem words_size (j : Nat) (hj : j < 5) : (words.getD j ⟨#[]⟩).size ≤ 2 := by
  match j, hj with
  | 0, _ => decide
  | 1, _ => decide
  | 2, _ => decide
  | 3, _ => decide
  | 4, _ => decide

end Go.Proofs.Ytjdehgadfjopiaa.Make
