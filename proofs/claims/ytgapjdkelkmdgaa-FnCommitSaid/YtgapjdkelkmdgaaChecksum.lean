/- Contracts: for every string of at most 2^20 bytes and a few more, the program's ChecksumOf and the model's return the bytes' checksum. Condition: the string's length. -/
import Derived.Test.YtgapjdkelkmdgaaKit
import Derived.BigQuiet
import Derived.Deep.QuietTactic
import Derived.StillTailTactics
import Derived.RegionTactic
import Derived.ChangeAlike
namespace Go.Proofs.Ytgapjdkelkmdgaa.Checksum
open Go.ChangeShapes Go.WideShapes Go.ChangeAt Go.RowKit
set_option linter.unusedVariables false

/-- One byte more: the two sums. -/
def stepC (p : Nat × Nat) (c : UInt8) : Nat × Nat := ((p.1 + c.toNat) % 65521, (p.2 + (p.1 + c.toNat) % 65521) % 65521)
def sumC (l : List UInt8) : Nat × Nat := l.foldl stepC (1, 0)
def crc (l : List UInt8) : Nat := (sumC l).2 * 65536 + (sumC l).1
theorem sumC_snoc (l : List UInt8) (c : UInt8) : sumC (l ++ [c]) = stepC (sumC l) c := by simp [sumC]
theorem sumC_nil : sumC [] = (1, 0) := rfl
theorem fold_lt : ∀ (l : List UInt8) (p : Nat × Nat), p.1 < 65521 ∧ p.2 < 65521 → (l.foldl stepC p).1 < 65521 ∧ (l.foldl stepC p).2 < 65521
  | [], p, h => h
  | c :: l, p, h => fold_lt l _ ⟨Nat.mod_lt _ (by omega), Nat.mod_lt _ (by omega)⟩
theorem sumC_lt (l : List UInt8) : (sumC l).1 < 65521 ∧ (sumC l).2 < 65521 := fold_lt l (1, 0) ⟨by omega, by omega⟩
theorem take_snoc (s : ByteArray) (k : Nat) (h : k < s.size) : s.data.toList.take (k + 1) = s.data.toList.take k ++ [s[k]] := by
  rw [List.take_succ_eq_append_getElem (by simpa using h)]; rfl
theorem ret_int {k : IntKind} {a b : Int} (h : a = b) : Ending.returned (.int k a) = .returned (.int k b) := by rw [h]

set_option maxRecDepth 100000 in
set_option maxHeartbeats 400000 in
theorem spec_any (s : ByteArray) (w : World) (hs : s.size ≤ 2097152) :
    Calls Try.prog 91 #[.string s] w fun e w' => e = .returned (.int .i64 (crc s.data.toList)) ∧ w = w' := by
  go_enter Try.func91, Try.ntmps91
  go_wp2
  go_loop [3, 4, 5] (fun a b i => ∃ k : Nat, k ≤ s.size ∧ i = .int .i64 k ∧ a = .int .i64 (sumC (s.data.toList.take k)).1 ∧ b = .int .i64 (sumC (s.data.toList.take k)).2) (fun _ _ i => s.size - (intOf i).toNat)
  case atStart => exact ⟨0, Nat.zero_le _, rfl, rfl, rfl⟩
  case round =>
    obtain ⟨k, hk, rfl, rfl, rfl⟩ := hrel
    obtain ⟨g1, g2⟩ := sumC_lt (s.data.toList.take k)
    by_cases hlt : k < s.size
    · have HS := Lib.hid (show sumC (s.data.toList.take (k + 1)) = stepC (sumC (s.data.toList.take k)) s[k] by rw [take_snoc s k hlt, sumC_snoc])
      have hb := s[k].toNat_lt
      generalize sumC (s.data.toList.take k) = p at g1 g2 HS ⊢
      obtain ⟨a, b⟩ := p
      simp only at g1 g2
      go_wp2
      go_round
      case rel => exact ⟨k + 1, by omega, by go_num, by rw [HS.out]; rfl, by rw [HS.out]; rfl⟩
      case measure => simp [intOf]; omega
    · have e : s.data.toList.take k = s.data.toList := List.take_of_length_le (by simp; omega)
      have HE := Lib.hid e
      clear e
      go_wp2
      go_ret
      exact ⟨ret_int (by rw [HE.out]; rfl), rfl⟩

/-- Block b is the struct with these two sums. -/
def IsSum (w : World) (b : Nat) (p : Nat × Nat) : Prop := w.heap[b]? = some (.cells #[.int .i64 p.1, .int .i64 p.2] 152 (0, 0))
theorem cell_of {w : World} {g : Nat} {cs : Array Value} {T : TypeId} (h : w.heap[g]? = some (.cells cs T (0, 0))) (j : Nat) : w.cell? ⟨g, j, none⟩ = cs[j]? := by simp [World.cell?, h]
theorem free_of {w : World} {g : Nat} {cs : Array Value} {T : TypeId} (h : w.heap[g]? = some (.cells cs T (0, 0))) (j : Nat) : w.frozen? ⟨g, j, none⟩ = false := by simp [World.frozen?, h]

theorem sum_step {w : World} {b x y : Nat} {c : UInt8} (h : IsSum w b (x, y)) (X Y : Int) (hX : X = ((stepC (x, y) c).1 : Nat)) (hY : Y = ((stepC (x, y) c).2 : Nat)) :
    IsSum ((w.setCell ⟨b, 0, none⟩ (.int .i64 X)).setCell ⟨b, 1, none⟩ (.int .i64 Y)).drew b (stepC (x, y) c) ∧ w.grownBy ((w.setCell ⟨b, 0, none⟩ (.int .i64 X)).setCell ⟨b, 1, none⟩ (.int .i64 Y)).drew (some b) := by
  subst hX
  subst hY
  have h2 := heap_setCell_same w b 0 _ _ (.int .i64 ((stepC (x, y) c).1 : Nat)) h
  have h3 := heap_setCell_same _ b 1 _ _ (.int .i64 ((stepC (x, y) c).2 : Nat)) h2
  refine ⟨h3, rfl, rfl, rfl, by simp [World.setCell, World.drew, -World.drew_eq], fun k _ hk => ?_⟩
  have hne : k ≠ b := fun e => hk (by rw [e])
  show (((w.setCell ⟨b, 0, none⟩ _).setCell ⟨b, 1, none⟩ _).heap[k]?) = _
  rw [heap_setCell_other _ _ _ _ (by simpa using hne)]
  exact heap_setCell_other w _ _ _ (by simpa using hne)

set_option maxRecDepth 100000 in
set_option maxHeartbeats 400000 in
theorem add_any (w : World) (b : Nat) (p : Nat × Nat) (c : UInt8) (hp : p.1 < 65521 ∧ p.2 < 65521) (h : IsSum w b p) :
    Calls Try.prog 126 #[.pointer (some ⟨b, 0, none⟩), .int .u8 c.toNat] w fun e w' => e = .returned (.tuple #[]) ∧ IsSum w' b (stepC p c) ∧ w.grownBy w' (some b) := by
  have HI := Lib.hid h
  have c0 := cell_of h 0
  have c1 := cell_of h 1
  have f0 := free_of h 0
  have f1 := free_of h 1
  simp at c0 c1
  clear h
  obtain ⟨x, y⟩ := p
  obtain ⟨hx, hy⟩ := hp
  simp only at hx hy c0 c1
  have hb := c.toNat_lt
  go_enter Try.func126, Try.ntmps126
  go_wp2
  go_region
  go_end0
  exact ⟨rfl, sum_step HI.out _ _ (by simp [stepC]) (by simp only [stepC]; omega)⟩

/-- The bound method, as a function value. -/
def bound (b : Nat) : Value := .func (.func 126) #[.pointer (some ⟨b, 0, none⟩)] #[]

set_option maxRecDepth 100000 in
set_option maxHeartbeats 400000 in
theorem each_any (s : ByteArray) (w : World) (b : Nat) (hs : s.size ≤ 2097152) (h : IsSum w b (1, 0)) :
    Calls Try.prog 125 #[.string s, bound b] w fun e w' => e = .returned (.tuple #[]) ∧ IsSum w' b (sumC s.data.toList) ∧ w.grownBy w' (some b) := by
  have HI := Lib.hid h
  clear h
  unfold bound
  go_enter Try.func125, Try.ntmps125
  go_wp2
  go_loopw [7] (fun i wr => ∃ k : Nat, k ≤ s.size ∧ i = .int .i64 k ∧ IsSum wr b (sumC (s.data.toList.take k)) ∧ w.grownBy wr (some b)) (fun i _ => s.size - (intOf i).toNat)
  case atStart => exact ⟨0, Nat.zero_le _, rfl, HI.out, World.grownBy.refl _ _⟩
  case round =>
    obtain ⟨k, hk, rfl, hi, hg⟩ := hrel
    have HI := Lib.hid hi
    have HG := Lib.hid hg
    clear hi hg
    have HP := Lib.hid (sumC_lt (s.data.toList.take k))
    by_cases hlt : k < s.size
    · have HS := Lib.hid (show sumC (s.data.toList.take (k + 1)) = stepC (sumC (s.data.toList.take k)) s[k] by rw [take_snoc s k hlt, sumC_snoc])
      generalize sumC (s.data.toList.take k) = p at HI HP HS
      go_wp2_with fail
      refine (add_any _ _ p s[k] HP.out HI.out).mono ?_
      rintro e w1 ⟨rfl, hi1, hg1⟩
      have HI1 := Lib.hid hi1
      have HG1 := Lib.hid (show w.grownBy w1 (some b) from ⟨hg1.os.trans HG.out.os, hg1.tape.trans HG.out.tape, hg1.output.trans HG.out.output, Nat.le_trans HG.out.size hg1.size, fun k hk hne => (hg1.block k (Nat.lt_of_lt_of_le hk HG.out.size) hne).trans (HG.out.block k hk hne)⟩)
      clear hi1 hg1
      go_wp2_with fail
      go_roundw
      case rel => exact ⟨k + 1, by omega, by go_num, by rw [HS.out]; exact HI1.out, HG1.out⟩
      case measure => simp [intOf]; omega
    · have e : s.data.toList.take k = s.data.toList := List.take_of_length_le (by simp; omega)
      have HE := Lib.hid e
      clear e
      go_wp2_with fail
      go_end0
      exact ⟨rfl, by rw [← HE.out]; exact HI.out, HG.out⟩

set_option maxRecDepth 100000 in
set_option maxHeartbeats 400000 in
theorem number_any (w : World) (b : Nat) (p : Nat × Nat) (hp : p.1 < 65521 ∧ p.2 < 65521) (h : IsSum w b p) :
    Calls Try.prog 127 #[.pointer (some ⟨b, 0, none⟩)] w fun e w' => e = .returned (.int .i64 ((p.2 * 65536 + p.1 : Nat) : Int)) ∧ ∃ m, w' = w.drewN m := by
  have c0 := cell_of h 0
  have c1 := cell_of h 1
  simp at c0 c1
  clear h
  obtain ⟨x, y⟩ := p
  obtain ⟨hx, hy⟩ := hp
  simp only at hx hy c0 c1
  go_enter Try.func127, Try.ntmps127
  go_wp2
  go_quiet (fail)
  go_wp2
  go_ret
  exact ⟨ret_int (by omega), _, rfl⟩

set_option maxRecDepth 100000 in
set_option maxHeartbeats 400000 in
theorem impl_any (s : ByteArray) (w : World) (hs : s.size ≤ 2097152) :
    Calls Try.prog 115 #[.string s] w fun e w' => e = .returned (.int .i64 (crc s.data.toList)) ∧ Below w.heap.size w w' := by
  have hmf : ∀ (fn : Fn) (first cap : Array Value) (w : World), (Instr.makeFunc fn first cap).run Try.prog w = .ok (.func fn first cap) w := fun _ _ _ _ => rfl
  go_enter Try.func115, Try.ntmps115
  go_wp2_with fail
  refine (each_any s _ w.heap.size hs (MapKept.heap_alloc w _).1).mono ?_
  rintro e w1 ⟨rfl, hi1, hg1⟩
  have HI1 := Lib.hid hi1
  have HB1 := Lib.hid (((Below.refl w.heap.size w).alloc (Nat.le_refl _) _).grown hg1 (by simp) (fun k hk => by cases hk; exact Nat.le_refl _))
  clear hi1 hg1
  go_wp2_with fail
  refine (number_any _ _ _ (sumC_lt _) HI1.out).mono ?_
  rintro e w2 ⟨rfl, m, rfl⟩
  go_wp2_with fail
  go_ret
  exact ⟨rfl, ⟨HB1.out.os, HB1.out.tape, HB1.out.output, HB1.out.size, HB1.out.block⟩⟩
end Go.Proofs.Ytgapjdkelkmdgaa.Checksum
