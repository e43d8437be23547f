/- Proved here: for every two strings of at most 2^20 bytes, the program's SplitAny returns a slice of its own that reads as the parts, and leaves what was there as it was. -/
import Derived.Test.YthppbcnejapbiaaGreatDoorSplitAny
namespace Go.Proofs.YthppbcnejapbiaaGreatDoor.SplitAny
open Go.ChangeShapes Go.WideShapes Go.ChangeAt Go.RowKit
open Go.ChangeMaps (open_string shut_string)
set_option linter.unusedVariables false

def falses : Array Value := Array.replicate 256 (.bool false)
theorem zero_cuts : ∀ w : World, Sem.run Tryz.prog (zeroValue 188) w = .ok (.agg falses) w := fun w => by kernel_rfl
/-- The block of 256 marks: place x is marked if x is one of the first k bytes of b. -/
def Marks (b : ByteArray) (T : TypeId) (B k : Nat) (w : World) : Prop :=
  ∃ cs : Array Value, w.heap[B]? = some (.cells cs T (0, 0)) ∧ cs.size = 256 ∧ ∀ x, x < 256 → cs[x]? = some (.bool ((b.data.toList.take k).any fun c => decide (c.toNat = x)))

theorem marks_start (b : ByteArray) (w : World) (T : TypeId) : Marks b T w.heap.size 0 (w.alloc (.cells falses T)) := by
  refine ⟨falses, (MapKept.heap_alloc w _).1, by simp [falses], fun x hx => ?_⟩
  simp [falses, hx]

theorem marks_cell {b : ByteArray} {T : TypeId} {B k : Nat} {w : World} (h : Marks b T B k w) (x : Nat) (hx : x < 256) : w.cell? ⟨B, x, none⟩ = some (.bool ((b.data.toList.take k).any fun c => decide (c.toNat = x))) := by
  obtain ⟨cs, h1, h2, h3⟩ := h
  simp [World.cell?, h1, h3 x hx]
theorem marks_free {b : ByteArray} {T : TypeId} {B k : Nat} {w : World} (h : Marks b T B k w) (x : Nat) : w.frozen? ⟨B, x, none⟩ = false := by
  obtain ⟨cs, h1, h2, h3⟩ := h
  simp [World.frozen?, h1]
theorem marks_step {b : ByteArray} {T : TypeId} {B k : Nat} {w : World} (h : Marks b T B k w) (hk : k < b.size) : Marks b T B (k + 1) (w.setCell ⟨B, b[k].toNat, none⟩ (.bool true)) := by
  obtain ⟨cs, h1, h2, h3⟩ := h
  refine ⟨cs.setIfInBounds b[k].toNat (.bool true), heap_setCell_same w B _ cs T _ h1, by simpa using h2, fun x hx => ?_⟩
  have hl : k < b.data.toList.length := by simpa using hk
  have e : b.data.toList.take (k + 1) = b.data.toList.take k ++ [b[k]] := by
    rw [List.take_succ_eq_append_getElem hl]; rfl
  rw [e, List.any_append]
  by_cases hx2 : b[k].toNat = x
  · subst hx2
    simp [h2, hx]
  · rw [Array.getElem?_setIfInBounds, if_neg hx2, h3 x hx]
    simp [hx2]
theorem marks_kept {b : ByteArray} {T : TypeId} {B k : Nat} {w w' : World} (h : Marks b T B k w) (hh : w'.heap[B]? = w.heap[B]?) : Marks b T B k w' := by
  obtain ⟨cs, h1, h2, h3⟩ := h
  exact ⟨cs, hh.trans h1, h2, h3⟩
theorem marks_all {s b : ByteArray} {k : Nat} (hk : k < s.size) : ((b.data.toList.take b.size).any fun c => decide (c.toNat = s[k].toNat)) = b.data.toList.contains (s.data.toList.getD k 0) := by
  rw [List.take_of_length_le (by simp), byte_at s k hk, Bool.eq_iff_iff]
  simp only [List.any_eq_true, decide_eq_true_eq, List.contains_iff_mem]
  constructor
  · rintro ⟨c, hc, e⟩
    rw [← UInt8.toNat_inj.1 e]; exact hc
  · intro h
    exact ⟨_, h, rfl⟩
theorem own_mono {w : World} {base base' : Nat} {e : TypeId} {size : Nat} {v : Value} {n : Nat} {xs : List Value} (h : w.ownsRow base e size v n xs) (hb : base' ≤ base) : w.ownsRow base' e size v n xs := by
  obtain ⟨h1, h2⟩ := h
  refine ⟨h1, ?_⟩
  rcases h2 with h2 | ⟨g, cap, cur, hv, hg, r⟩
  · exact .inl h2
  · exact .inr ⟨g, cap, cur, hv, Nat.le_trans hb hg, r⟩
theorem own_nil (w : World) (base : Nat) (e : TypeId) : w.ownsRow base e 1 (.slice none 0 0) 0 [] := ⟨rfl, .inl ⟨rfl, rfl⟩⟩
/-- Behind an append the marks stand: the row that may have been written is another block. -/
theorem marks_append {b : ByteArray} {T : TypeId} {B k : Nat} {wq w1 : World} {o : Obj} {v : Value} {e : TypeId} {n : Nat} {xs : List Value} (h : Marks b T B k wq) (hown : wq.ownsRow (B + 1) e 1 v n xs) (hlt : B < wq.heap.size) (hg : (wq.alloc o).grownBy w1 v.ownBlock) : Marks b T B k w1 := by
  refine marks_kept h ?_
  rw [hg.block B (by simp; omega) ?_, Below.heap_alloc _ _ _ hlt]
  intro hh
  have := (hown.lt B hh.symm).1
  omega

set_option maxRecDepth 100000 in
set_option maxHeartbeats 800000 in
theorem impl_any (s b : ByteArray) (w : World) (hs : s.size ≤ 1048576) (hb : b.size ≤ 1048576) :
    Calls Tryz.prog 190 #[.string s, .string b] w fun e w' => ∃ v, e = .returned v ∧ w'.ownsRow w.heap.size 9 1 v (parts s b).length ((parts s b).map Value.string) ∧ Below w.heap.size w w' := by
  obtain ⟨i0, hi, hz0, hz1, hz2⟩ := info_parts strInfo
  have hzero := zero_cuts
  go_enter Tryz.func190, Tryz.ntmps190
  go_wp2
  clear hzero
  go_loopw [12] (fun i wr => ∃ k : Nat, k ≤ b.size ∧ i = .int .i64 k ∧ Marks b 188 w.heap.size k wr ∧ Below w.heap.size w wr ∧ w.heap.size + 1 ≤ wr.heap.size) (fun i _ => b.size - (intOf i).toNat)
  case atStart => exact ⟨0, Nat.zero_le _, rfl, marks_start b w _, (Below.refl _ _).alloc (Nat.le_refl _) _, by simp⟩
  case round =>
    obtain ⟨k, hk, rfl, hm, hbel, hsz⟩ := hrel
    have HM := Lib.hid hm
    have HBEL := Lib.hid hbel
    clear hm hbel
    by_cases hlt : k < b.size
    · have hx : b[k].toNat < 256 := b[k].toNat_lt
      have hc := marks_cell HM.out b[k].toNat hx
      have hf := marks_free HM.out b[k].toNat
      generalize hbb : ((b.data.toList.take k).any fun c => decide (c.toNat = b[k].toNat)) = bb at hc
      clear hbb
      go_wp2
      go_roundw
      case rel => exact ⟨k + 1, by omega, by go_num, marks_step HM.out hlt, HBEL.out.setCell (Nat.le_refl _) _, by simpa [World.setCell] using hsz⟩
      case measure => simp [intOf]; omega
    · obtain rfl : k = b.size := by omega
      clear hk hlt
      obtain ⟨wo, rfl⟩ : ∃ wo : World, wo = wr := ⟨_, rfl⟩
      go_wp2
      go_loopw [7, 8, 22] (fun v f i wr => ∃ k : Nat, k ≤ s.size ∧ i = .int .i64 k ∧ St s b w (w.heap.size + 1) k v f wr ∧ Marks b 188 w.heap.size b.size wr) (fun _ _ i _ => s.size - (intOf i).toNat)
      case atStart => exact ⟨0, Nat.zero_le _, rfl, ⟨rfl, own_nil _ _ _, HBEL.out, hsz⟩, HM.out⟩
      case round =>
        clear HM HBEL hsz
        obtain ⟨k, hk, rfl, hst, hm⟩ := hrel
        obtain ⟨rfl, hown, hbel, hbs⟩ := hst
        have hle := (cutL_le s b k).1
        have hfr := (cutL_le s b k).2
        have HOWN := Lib.hid hown
        have HBEL := Lib.hid hbel
        have HM := Lib.hid hm
        clear hown hbel hm
        by_cases hlt : k < s.size
        · have hx : s[k].toNat < 256 := s[k].toNat_lt
          have hc := marks_cell HM.out s[k].toNat hx
          rw [marks_all hlt] at hc
          by_cases hh : b.data.toList.contains (s.data.toList.getD k 0) = true
          · have HHAS := Lib.hid (cut_yes s b k hh)
            rw [hh] at hc
            clear hh
            go_wp2_with (first | (at_builtin; refine wpList_append_own _ rfl _ _ 24 rfl (w.heap.size + 1) 9 i0 (.string ⟨#[]⟩) 1 16 Tryz.underlying24 hi hz0 hz1 hz2 rfl (by decide) _ _ _ rfl (HOWN.out.alloc _) ⟨wr.heap.size, 0, none⟩ 1 1 [.string (s.extract (cutL s b k).2 k)] rfl rfl ?c1 ?c2 ?c3 ?c4 ?c5 ?_))
            case c1 => exact cell_one_new _ _ _
            case c2 => simp [Value.oneCell']
            case c3 => unfold maxLen; omega
            case c4 => omega
            case c5 => simp; omega
            intro v' w1 hown1 hg1 _
            have HST := Lib.hid (st_next s b w (w.heap.size + 1) k _ v' wr w1 HOWN.out HBEL.out hbs (by omega) HHAS.out hown1 hg1)
            have HM1 := Lib.hid (marks_append HM.out HOWN.out (by omega) hg1)
            clear hown1 hg1 hc
            go_wp2
            go_roundw
            case rel => exact ⟨k + 1, by omega, by go_num, HST.out, HM1.out⟩
            case measure => simp [intOf]; omega
          · have HCUT := Lib.hid (show cutL s b (k + 1) = cutL s b k by rw [cutL, if_neg hh])
            have hh' : b.data.toList.contains (s.data.toList.getD k 0) = false := by simpa using hh
            rw [hh'] at hc
            clear hh hh'
            go_wp2
            go_roundw
            case rel => exact ⟨k + 1, by omega, by go_num, st_same s b w (w.heap.size + 1) k _ wr HOWN.out HBEL.out hbs HCUT.out, HM.out⟩
            case measure => simp [intOf]; omega
        · go_wp2_with (first | (at_builtin; refine wpList_append_own _ rfl _ _ 24 rfl (w.heap.size + 1) 9 i0 (.string ⟨#[]⟩) 1 16 Tryz.underlying24 hi hz0 hz1 hz2 rfl (by decide) _ _ _ rfl (HOWN.out.alloc _) ⟨wr.heap.size, 0, none⟩ 1 1 [.string (s.extract (cutL s b k).2 s.size)] rfl rfl ?c1 ?c2 ?c3 ?c4 ?c5 ?_))
          case c1 => exact cell_one_new _ _ _
          case c2 => simp [Value.oneCell']
          case c3 => unfold maxLen; omega
          case c4 => omega
          case c5 => simp; omega
          intro v' w1 hown1 hg1 _
          obtain rfl : k = s.size := by omega
          go_wp2
          go_ret
          refine ⟨_, rfl, own_mono (base := w.heap.size + 1) ?_ (by omega), (st_below HOWN.out HBEL.out hbs (by omega) hg1).1⟩
          simpa [parts] using hown1
end Go.Proofs.YthppbcnejapbiaaGreatDoor.SplitAny
