/- Proved: for every two strings, the law FnExactSplitAny returns true and leaves its arguments as they were. No condition beyond the row's own. -/
import Derived.Test.YthppbcnejapbiaaGreatDoorKit
import Derived.BigQuiet
import Derived.Deep.QuietTactic
namespace Go.Proofs.YthppbcnejapbiaaGreatDoor.SplitAny
open Go.ChangeShapes Go.WideShapes Go.ChangeAt Go.RowKit
open Go.ChangeMaps (open_string shut_string)
set_option linter.unusedVariables false

/-- The parts cut off before place k, and where the next one begins. -/
def cutL (s b : ByteArray) : Nat → List ByteArray × Nat
  | 0 => ([], 0)
  | k + 1 => if b.data.toList.contains (s.data.toList.getD k 0) = true then ((cutL s b k).1 ++ [s.extract (cutL s b k).2 k], k + 1) else cutL s b k
def parts (s b : ByteArray) : List ByteArray := (cutL s b s.size).1 ++ [s.extract (cutL s b s.size).2 s.size]
theorem cutL_le (s b : ByteArray) (k : Nat) : (cutL s b k).1.length ≤ k ∧ (cutL s b k).2 ≤ k := by
  induction k with
  | zero => simp [cutL]
  | succ k ih =>
    simp only [cutL]
    split
    · simp; omega
    · omega

theorem strInfo : (Tryz.prog.info? 9).map (fun i => (i.zero, i.size, i.bytes)) = some (some (.string ⟨#[]⟩), 1, 16) := by kernel_rfl

theorem own_of_heap {w w' : World} {base : Nat} {e : TypeId} {size : Nat} {v : Value} {n : Nat} {xs : List Value} (h : w.ownsRow base e size v n xs) (hh : w'.heap = w.heap) : w'.ownsRow base e size v n xs := by
  unfold World.ownsRow at *
  rw [hh]; exact h
theorem below_drewN {B : Nat} {a w : World} (h : Below B a w) (n : Nat) : Below B a (w.drewN n) := ⟨h.os, h.tape, h.output, h.size, h.block⟩
/-- An empty row that has just been laid. -/
theorem own_fresh (w : World) (e : TypeId) : (w.alloc (.cells #[] e)).ownsRow w.heap.size e 1 (.slice (some ⟨w.heap.size, 0, none⟩) 0 0) 0 [] := by
  refine ⟨rfl, .inr ⟨w.heap.size, 0, #[], rfl, Nat.le_refl _, ?_, Nat.le_refl _, Nat.zero_le _, rfl, rfl⟩⟩
  exact (MapKept.heap_alloc w _).1
theorem byte_at (s : ByteArray) (k : Nat) (h : k < s.size) : s.data.toList.getD k 0 = s[k] := by
  have h2 : k < s.data.toList.length := by simpa using h
  rw [List.getD_eq_getElem?_getD, List.getElem?_eq_getElem h2]; rfl
theorem has_of (s b : ByteArray) (k j : Nat) (hk : k < s.size) (hj : j < b.size) (h : ((s[k].toNat : Int) == (b[j].toNat : Int)) = true) : b.data.toList.contains (s.data.toList.getD k 0) = true := by
  rw [byte_at s k hk]
  have e : s[k] = b[j] := by
    have : s[k].toNat = b[j].toNat := by have := eq_of_beq h; omega
    exact UInt8.toNat_inj.1 this
  rw [e]
  have h2 : j < b.data.toList.length := by simpa using hj
  have : b.data.toList[j]'h2 = b[j] := rfl
  rw [← this]
  simp
/-- Byte k of s is none of the first j bytes of b. -/
def NotIn (s b : ByteArray) (k j : Nat) : Prop := ∀ x, x < j → b.data.toList.getD x 0 ≠ s.data.toList.getD k 0
theorem notIn_zero (s b : ByteArray) (k : Nat) : NotIn s b k 0 := fun x h => by omega
theorem notIn_succ (s b : ByteArray) (k j : Nat) (hk : k < s.size) (hj : j < b.size) (h : NotIn s b k j) (hne : ((s[k].toNat : Int) == (b[j].toNat : Int)) = false) : NotIn s b k (j + 1) := by
  intro x hx
  by_cases e : x = j
  · subst e
    rw [byte_at s k hk, byte_at b x hj]
    intro e2
    rw [e2] at hne
    simp at hne
  · exact h x (by omega)
theorem not_has (s b : ByteArray) (k : Nat) (h : NotIn s b k b.size) : ¬ b.data.toList.contains (s.data.toList.getD k 0) = true := by
  intro hc
  rw [List.contains_iff_mem] at hc
  obtain ⟨x, hx, e⟩ := List.getElem_of_mem hc
  refine h x (by simpa using hx) ?_
  rw [← e, List.getD_eq_getElem?_getD, List.getElem?_eq_getElem hx]; rfl
theorem cut_yes (s b : ByteArray) (k : Nat) (h : b.data.toList.contains (s.data.toList.getD k 0) = true) : cutL s b (k + 1) = ((cutL s b k).1 ++ [s.extract (cutL s b k).2 k], k + 1) := by
  rw [cutL, if_pos h]
theorem cut_no (s b : ByteArray) (k : Nat) (h : NotIn s b k b.size) : cutL s b (k + 1) = cutL s b k := by
  rw [cutL, if_neg (not_has s b k h)]
/-- The state at the head of a round: what has been cut off is the call's own row; the next part's beginning. -/
def St (s b : ByteArray) (w : World) (base k : Nat) (v f : Value) (wr : World) : Prop :=
  f = .int .i64 (cutL s b k).2 ∧ wr.ownsRow base 9 1 v (cutL s b k).1.length ((cutL s b k).1.map Value.string) ∧ Below w.heap.size w wr ∧ base ≤ wr.heap.size

theorem st_below {w wq w1 : World} {base n : Nat} {o : Obj} {v : Value} {xs : List Value} {e : TypeId} (hown : wq.ownsRow base e 1 v n xs) (hbel : Below w.heap.size w wq) (hbs : base ≤ wq.heap.size) (hB : w.heap.size ≤ base) (hg : (wq.alloc o).grownBy w1 v.ownBlock) : Below w.heap.size w w1 ∧ base ≤ w1.heap.size := by
  have h1 : Below w.heap.size w (wq.alloc o) := hbel.alloc (Nat.le_trans hB hbs) _
  refine ⟨h1.grown hg (by simp; omega) (fun k hk => Nat.le_trans hB (hown.lt k hk).1), ?_⟩
  have := hg.size
  simp at this
  omega
theorem st_next (s b : ByteArray) (w : World) (base k : Nat) (v v' : Value) (wq w1 : World) {o : Obj} (hown : wq.ownsRow base 9 1 v (cutL s b k).1.length ((cutL s b k).1.map Value.string)) (hbel : Below w.heap.size w wq) (hbs : base ≤ wq.heap.size) (hB : w.heap.size ≤ base)
    (hc : cutL s b (k + 1) = ((cutL s b k).1 ++ [s.extract (cutL s b k).2 k], k + 1))
    (hown1 : w1.ownsRow base 9 1 v' ((cutL s b k).1.length + 1) ((cutL s b k).1.map Value.string ++ [.string (s.extract (cutL s b k).2 k)])) (hg : (wq.alloc o).grownBy w1 v.ownBlock) :
    St s b w base (k + 1) v' (.int .i64 ((k : Int) + 1)) w1 := by
  obtain ⟨h1, h2⟩ := st_below hown hbel hbs hB hg
  refine ⟨by rw [hc]; rfl, ?_, h1, h2⟩
  rw [hc]
  simpa using hown1

theorem st_same (s b : ByteArray) (w : World) (base k : Nat) (v : Value) (wq : World) (hown : wq.ownsRow base 9 1 v (cutL s b k).1.length ((cutL s b k).1.map Value.string)) (hbel : Below w.heap.size w wq) (hbs : base ≤ wq.heap.size)
    (hc : cutL s b (k + 1) = cutL s b k) : St s b w base (k + 1) v (.int .i64 (cutL s b k).2) wq := by
  refine ⟨by rw [hc], ?_, hbel, hbs⟩
  rw [hc]; exact hown

set_option maxRecDepth 100000 in
set_option maxHeartbeats 800000 in
theorem spec_any (s b : ByteArray) (w : World) (hs : s.size ≤ 1048576) (hb : b.size ≤ 1048576) :
    Calls Tryz.prog 138 #[.string s, .string b] w fun e w' => ∃ v, e = .returned v ∧ w'.ownsRow w.heap.size 9 1 v (parts s b).length ((parts s b).map Value.string) ∧ Below w.heap.size w w' := by
  obtain ⟨i0, hi, hz0, hz1, hz2⟩ := info_parts strInfo
  go_enter Tryz.func138, Tryz.ntmps138
  go_wp2
  go_loopw [5, 6, 7] (fun v f i wr => ∃ k : Nat, k ≤ s.size ∧ i = .int .i64 k ∧ St s b w w.heap.size k v f wr) (fun _ _ i _ => s.size - (intOf i).toNat)
  case atStart => exact ⟨0, Nat.zero_le _, rfl, rfl, own_fresh w _, (Below.refl _ _).alloc (Nat.le_refl _) _, by simp⟩
  case round =>
    obtain ⟨k, hk, rfl, rfl, hown, hbel, hbs⟩ := hrel
    have hle := (cutL_le s b k).1
    have hfr := (cutL_le s b k).2
    have HOWN := Lib.hid hown
    have HBEL := Lib.hid hbel
    clear hown hbel
    by_cases hlt : k < s.size
    · obtain ⟨wo, rfl⟩ : ∃ wo : World, wo = wr := ⟨_, rfl⟩
      go_wp2
      go_loopw [5, 6, 8] (fun v f j wi => ∃ jn : Nat, jn ≤ b.size ∧ j = .int .i64 jn ∧ v = u5 ∧ f = .int .i64 (cutL s b k).2 ∧ St s b w w.heap.size k u5 f wi ∧ NotIn s b k jn) (fun _ _ j _ => b.size - (intOf j).toNat)
      case atStart => exact ⟨0, Nat.zero_le _, rfl, rfl, rfl, ⟨rfl, HOWN.out, HBEL.out, hbs⟩, notIn_zero s b k⟩
      case round =>
        obtain ⟨j, hj, rfl, rfl, rfl, hst, hni⟩ := hrel
        obtain ⟨_, hown2, hbel2, hbs2⟩ := hst
        have HOWN2 := Lib.hid hown2
        have HBEL2 := Lib.hid hbel2
        have HNI := Lib.hid hni
        clear hown2 hbel2 hni
        by_cases hjl : j < b.size
        · by_cases heq : ((s[k].toNat : Int) == (b[j].toNat : Int)) = true
          · have HHAS := Lib.hid (cut_yes s b k (has_of s b k j hlt hjl heq))
            go_wp2
            go_quiet (fail)
            have HOWN3 := Lib.hid (own_of_heap (w' := wr.drewN nq) HOWN2.out rfl)
            have HBEL3 := Lib.hid (below_drewN HBEL2.out nq)
            have hbs3 : w.heap.size ≤ (wr.drewN nq).heap.size := hbs2
            clear hbs2 HOWN2 HBEL2
            generalize wr.drewN nq = wq at HOWN3 HBEL3 hbs3 ⊢
            go_wp2_with (first | (at_builtin; refine wpList_append_own _ rfl _ _ 24 rfl w.heap.size 9 i0 (.string ⟨#[]⟩) 1 16 Tryz.underlying24 hi hz0 hz1 hz2 rfl (by decide) _ _ _ rfl (HOWN3.out.alloc _) ⟨wq.heap.size, 0, none⟩ 1 1 [.string (s.extract (cutL s b k).2 k)] rfl rfl ?c1 ?c2 ?c3 ?c4 ?c5 ?_))
            case c1 => exact cell_one_new _ _ _
            case c2 => simp [Value.oneCell']
            case c3 => unfold maxLen; omega
            case c4 => omega
            case c5 => simp; omega
            intro v' w1 hown1 hg1 _
            have HST := Lib.hid (st_next s b w w.heap.size k u5 v' wq w1 HOWN3.out HBEL3.out hbs3 (Nat.le_refl _) HHAS.out hown1 hg1)
            clear hown1 hg1
            go_wp2
            go_roundw
            case rel => exact ⟨k + 1, by omega, by go_num, HST.out⟩
            case measure => simp [intOf]; omega
          · have heq' : ((s[k].toNat : Int) == (b[j].toNat : Int)) = false := by simpa using heq
            have HNX := Lib.hid (notIn_succ s b k j hlt hjl HNI.out heq')
            clear heq
            go_wp2
            go_quiet (fail)
            go_wp2
            go_roundw
            case rel => exact ⟨j + 1, by omega, by go_num, rfl, rfl, ⟨rfl, own_of_heap HOWN2.out rfl, below_drewN HBEL2.out _, hbs2⟩, HNX.out⟩
            case measure => simp [intOf]; omega
        · obtain rfl : j = b.size := by omega
          have HCUT := Lib.hid (cut_no s b k HNI.out)
          go_wp2
          go_roundw
          case rel => exact ⟨k + 1, by omega, by go_num, st_same s b w w.heap.size k _ wr HOWN2.out HBEL2.out hbs2 HCUT.out⟩
          case measure => simp [intOf]; omega
    · go_wp2_with (first | (at_builtin; refine wpList_append_own _ rfl _ _ 24 rfl w.heap.size 9 i0 (.string ⟨#[]⟩) 1 16 Tryz.underlying24 hi hz0 hz1 hz2 rfl (by decide) _ _ _ rfl (HOWN.out.alloc _) ⟨wr.heap.size, 0, none⟩ 1 1 [.string (s.extract (cutL s b k).2 s.size)] rfl rfl ?c1 ?c2 ?c3 ?c4 ?c5 ?_))
      case c1 => exact cell_one_new _ _ _
      case c2 => simp [Value.oneCell']
      case c3 => unfold maxLen; omega
      case c4 => omega
      case c5 => simp; omega
      intro v' w1 hown1 hg1 _
      obtain rfl : k = s.size := by omega
      go_wp2
      go_ret
      refine ⟨_, rfl, ?_, (st_below HOWN.out HBEL.out hbs (Nat.le_refl _) hg1).1⟩
      simpa [parts] using hown1
end Go.Proofs.YthppbcnejapbiaaGreatDoor.SplitAny
