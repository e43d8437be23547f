/- Contracts and plain facts that a law of this seat leans on. Conditions: as each theorem types them. -/
import Derived.Test.YtjdehgadfjopiaaMake
import Derived.Test.YtjdehgadfjopiaaRowG
import Derived.Test.YtjdehgadfjopiaaSplitAnyLaw
namespace Go.Proofs.Ytjdehgadfjopiaa.MakeBytes
open Go.ChangeShapes Go.WideShapes Go.ChangeAt Go.RowKit
open Cur (CodeIn IsCur stepX stepX_le stepI nextH after newH moved_any byte_any below_at new_any below_any cur_i64 code_kept)
open RowG (cellsB cellsB_append cellsB_length back_own byteInfo)
open SplitAny (own_fresh own_nil)
set_option linter.unusedVariables false

set_option maxRecDepth 100000 in
set_option maxHeartbeats 400000 in
/-- One of a list of ints. -/
theorem pick_any (w : World) (B g : Nat) (cv : Value) (ns : List Nat) (i : Nat) (h : Int) (b cap : Nat) (xs : List Int) (hm1 : 1 ≤ xs.length) (hm2 : xs.length ≤ 256) (hbg : b ≠ g)
    (hcell : ∀ j, j < xs.length → w.cell? ⟨b, j, none⟩ = some (.int .i64 (xs.getD j 0))) (hc : IsCur w B g cv ns i h) :
    Calls Try.prog 69 #[.pointer (some ⟨g, 0, none⟩), .slice (some ⟨b, 0, none⟩) xs.length cap] w fun e w' => e = .returned (.int .i64 (xs.getD (stepX ns i h % xs.length) 0)) ∧ IsCur w' B g cv ns (stepI ns i) (nextH h) ∧ w.grownBy w' (some g) := by
  have H1 := Lib.hid (below_any w B g cv ns i h xs.length hm1 hm2 hc)
  have hr : stepX ns i h % xs.length < xs.length := Nat.mod_lt _ (by omega)
  have hcx := hcell _ hr
  have hbw : b < w.heap.size := by
    simp only [World.cell?] at hcx
    split at hcx
    · rename_i heq; exact (Array.getElem?_eq_some_iff.1 heq).1
    · cases hcx
  have HCX := Lib.hid hcx
  clear hc hcell hcx
  generalize xs.getD (stepX ns i h % xs.length) 0 = s at HCX ⊢
  generalize stepX ns i h % xs.length = r at hr H1 HCX
  generalize xs.length = m at hr hm1 hm2 H1 ⊢
  go_enter Try.func69, Try.ntmps69
  go_wp2_with fail
  refine H1.out.mono ?_
  rintro e w1 ⟨rfl, hc1, hg1⟩
  have g1 : w1.cell? ⟨b, r, none⟩ = some (.int .i64 s) := hg1.cell HCX.out (by simpa using hbg)
  have HC1 := Lib.hid hc1
  have HG1 := Lib.hid hg1
  clear hc1 hg1
  go_wp2
  go_ret
  exact ⟨rfl, HC1.out, HG1.out⟩

theorem cur_kept {w w' : World} {B g : Nat} {cv : Value} {ns : List Nat} {i : Nat} {h : Int} (hc : IsCur w B g cv ns i h) (hk : ∀ k, k ≤ g → w'.heap[k]? = w.heap[k]?) : IsCur w' B g cv ns i h := by
  obtain ⟨hB, hcode, hi, hb⟩ := hc
  exact ⟨hB, code_kept hcode (fun k hlt => hk k (by omega)), hi, (hk g (Nat.le_refl _)).trans hb⟩
def six (x : Nat) : List Int := [0, 1, 65, 97, 255, (x : Int)]
theorem six_bd (x : Nat) (hx : x ≤ 255) (j : Nat) (hj : j < 6) : ∃ m : Nat, m ≤ 255 ∧ (six x).getD j 0 = (m : Int) := by
  rcases (show j = 0 ∨ j = 1 ∨ j = 2 ∨ j = 3 ∨ j = 4 ∨ j = 5 from by omega) with rfl | rfl | rfl | rfl | rfl | rfl
  · exact ⟨0, by omega, rfl⟩
  · exact ⟨1, by omega, rfl⟩
  · exact ⟨65, by omega, rfl⟩
  · exact ⟨97, by omega, rfl⟩
  · exact ⟨255, by omega, rfl⟩
  · exact ⟨x, hx, rfl⟩
theorem six_cell (w : World) (T : TypeId) (x : Nat) (j : Nat) (hj : j < 6) : (w.alloc (.cells #[.int .i64 0, .int .i64 1, .int .i64 65, .int .i64 97, .int .i64 255, .int .i64 x] T)).cell? ⟨w.heap.size, j, none⟩ = some (.int .i64 ((six x).getD j 0)) := by
  rw [World.cell?_alloc_at _ _ _ _ rfl]
  rcases (show j = 0 ∨ j = 1 ∨ j = 2 ∨ j = 3 ∨ j = 4 ∨ j = 5 from by omega) with rfl | rfl | rfl | rfl | rfl | rfl
  all_goals rfl
theorem byte_cell (m : Nat) (h : m ≤ 255) : Value.int .u8 (m : Int) = .int .u8 ((UInt8.ofNat m).toNat : Int) := by
  rw [UInt8.toNat_ofNat', Nat.mod_eq_of_lt (by omega)]
/-- What a round leaves: the row one byte longer, the cursor where it was, nothing else turned. -/
theorem round_next {w w2 w1 : World} {B g : Nat} {cv : Value} {ns : List Nat} {i : Nat} {h : Int} {v v' : Value} {xs : List UInt8} {m : Nat} {o : Obj} (hlt : g < w.heap.size) (hm : m ≤ 255)
    (hown : w2.ownsRow w.heap.size 5 1 v xs.length (cellsB xs)) (hc : IsCur w2 B g cv ns i h) (hg : w.grownBy w2 (some g)) (hown1 : w1.ownsRow w.heap.size 5 1 v' (xs.length + 1) (cellsB xs ++ [.int .u8 (m : Int)])) (hg1 : (w2.alloc o).grownBy w1 v.ownBlock) :
    w1.ownsRow w.heap.size 5 1 v' (xs ++ [UInt8.ofNat m]).length (cellsB (xs ++ [UInt8.ofNat m])) ∧ IsCur w1 B g cv ns i h ∧ w.grownBy w1 (some g) := by
  have hgl := cur_i64 hc
  have hsz := hg.size
  have hne : ∀ k, k < w.heap.size → some k ≠ v.ownBlock := fun k hk e => by have := (hown.lt k e.symm).1; omega
  have hblk : ∀ k, k < w.heap.size → w1.heap[k]? = w2.heap[k]? := fun k hk => by
    rw [hg1.block k (by simp; omega) (hne k hk)]
    exact Below.heap_alloc _ _ _ (by omega)
  refine ⟨?_, cur_kept hc (fun k hk => hblk k (by omega)), ?_⟩
  · rw [cellsB_append, List.length_append]
    rw [byte_cell m hm] at hown1
    exact hown1
  · exact ⟨hg1.os.trans hg.os, hg1.tape.trans hg.tape, hg1.output.trans hg.output, by have := hg1.size; simp at this; omega, fun k hk hk2 => (hblk k hk).trans (hg.block k hk hk2)⟩
theorem grow_two {w a b : World} {g : Nat} (h1 : w.grownBy a (some g)) (h2 : a.grownBy b (some g)) : w.grownBy b (some g) :=
  ⟨h2.os.trans h1.os, h2.tape.trans h1.tape, h2.output.trans h1.output, Nat.le_trans h1.size h2.size, fun k hk hne => (h2.block k (Nat.lt_of_lt_of_le hk h1.size) hne).trans (h1.block k hk hne)⟩
theorem grow_alloc {w a : World} {g : Nat} (h1 : w.grownBy a (some g)) (o : Obj) : w.grownBy (a.alloc o) (some g) :=
  ⟨h1.os, h1.tape, h1.output, by have := h1.size; simp; omega, fun k hk hne => (Below.heap_alloc _ _ _ (Nat.lt_of_lt_of_le hk h1.size)).trans (h1.block k hk hne)⟩
theorem own_cur {w a : World} {base g n : Nat} {v : Value} {xs : List Value} {e : TypeId} (h : w.ownsRow base e 1 v n xs) (hlt : g < base) (hg : w.grownBy a (some g)) : a.ownsRow base e 1 v n xs := by
  refine h.kept hg (.inr fun e => ?_)
  have := (h.lt g e).1
  omega

end Go.Proofs.Ytjdehgadfjopiaa.MakeBytes
