/- Contracts of the laws' makers: one of a list of ints, some bytes out of the drawn code. Conditions: as each theorem types them. -/
import Derived.Test.YtbfbcfnnajaeeaaMake
import Derived.Test.YtbfbcfnnajaeeaaRowG
import Derived.Test.YtbfbcfnnajaeeaaSplitAnyLaw
namespace Go.Proofs.Ytbfbcfnnajaeeaa.MakeBytes
open Go.ChangeShapes Go.WideShapes Go.ChangeAt Go.RowKit
open Cur (CodeIn IsCur stepX stepX_le stepI nextH after newH moved_any byte_any below_at new_any below_any cur_i64 code_kept)
open RowG (cellsB cellsB_append cellsB_length back_own byteInfo)
open SplitAny (own_fresh own_nil)
set_option linter.unusedVariables false

set_option maxHeartbeats 400000 in
/-- One of a list of ints. -/
theorem pick_any (w : World) (B g : Nat) (cv : Value) (ns : List Nat) (i : Nat) (h : Int) (b cap : Nat) (xs : List Int) (hm1 : 1 ≤ xs.length) (hm2 : xs.length ≤ 256) (hbg : b ≠ g)
    (hcell : ∀ j, j < xs.length → w.cell? ⟨b, j, none⟩ = some (.int .i64 (xs.getD j 0))) (hc : IsCur w B g cv ns i h) :
    Calls Try.prog 69 #[.pointer (some ⟨g, 0, none⟩), .slice (some ⟨b, 0, none⟩) xs.length cap] w fun e w' => e = .returned (.int .i64 (xs.getD (stepX ns i h % xs.length) 0)) ∧ IsCur w' B g cv ns (stepI ns i) (nextH h) ∧ w.grownBy w' (some g) := by
  have H1 := Lib.hid (below_any w B g cv ns i h xs.length hm1 hm2 hc)
  have hr : stepX ns i h % xs.length < xs.length := Nat.mod_lt _ (by omega)
  have hcx := hcell _ hr
  have hbw : b < w.heap.size := by
    simp only [World.cell?] at hcx
    split at hcx
    · rename_i heq; exact (Array.getElem?_eq_some_iff.1 heq).1
    · cases hcx
  have HCX := Lib.hid hcx
  clear hc hcell hcx
  generalize xs.getD (stepX ns i h % xs.length) 0 = s at HCX ⊢
  generalize stepX ns i h % xs.length = r at hr H1 HCX
  generalize xs.length = m at hr hm1 hm2 H1 ⊢
  go_enter Try.func69, Try.ntmps69
  go_wp2_with fail
  refine H1.out.mono ?_
  rintro e w1 ⟨rfl, hc1, hg1⟩
  have g1 : w1.cell? ⟨b, r, none⟩ = some (.int .i64 s) := hg1.cell HCX.out (by simpa using hbg)
  have HC1 := Lib.hid hc1
  have HG1 := Lib.hid hg1
  clear hc1 hg1
  go_wp2
  go_ret
  exact ⟨rfl, HC1.out, HG1.out⟩

theorem cur_kept {w w' : World} {B g : Nat} {cv : Value} {ns : List Nat} {i : Nat} {h : Int} (hc : IsCur w B g cv ns i h) (hk : ∀ k, k ≤ g → w'.heap[k]? = w.heap[k]?) : IsCur w' B g cv ns i h := by
  obtain ⟨hB, hcode, hi, hb⟩ := hc
  exact ⟨hB, code_kept hcode (fun k hlt => hk k (by omega)), hi, (hk g (Nat.le_refl _)).trans hb⟩
def six (x : Nat) : List Int := [0, 1, 65, 97, 255, (x : Int)]
theorem six_bd (x : Nat) (hx : x ≤ 255) (j : Nat) (hj : j < 6) : ∃ m : Nat, m ≤ 255 ∧ (six x).getD j 0 = (m : Int) := by
  rcases (show j = 0 ∨ j = 1 ∨ j = 2 ∨ j = 3 ∨ j = 4 ∨ j = 5 from by omega) with rfl | rfl | rfl | rfl | rfl | rfl
  · exact ⟨0, by omega, rfl⟩
  · exact ⟨1, by omega, rfl⟩
  · exact ⟨65, by omega, rfl⟩
  · exact ⟨97, by omega, rfl⟩
  · exact ⟨255, by omega, rfl⟩
  · exact ⟨x, hx, rfl⟩
theorem six_cell (w : World) (T : TypeId) (x : Nat) (j : Nat) (hj : j < 6) : (w.alloc (.cells #[.int .i64 0, .int .i64 1, .int .i64 65, .int .i64 97, .int .i64 255, .int .i64 x] T)).cell? ⟨w.heap.size, j, none⟩ = some (.int .i64 ((six x).getD j 0)) := by
  rw [World.cell?_alloc_at _ _ _ _ rfl]
  rcases (show j = 0 ∨ j = 1 ∨ j = 2 ∨ j = 3 ∨ j = 4 ∨ j = 5 from by omega) with rfl | rfl | rfl | rfl | rfl | rfl
  all_goals rfl
theorem byte_cell (m : Nat) (h : m ≤ 255) : Value.int .u8 (m : Int) = .int .u8 ((UInt8.ofNat m).toNat : Int) := by
  rw [UInt8.toNat_ofNat', Nat.mod_eq_of_lt (by omega)]
/-- What a round leaves: the row one byte longer, the cursor where it was, nothing else turned. -/
theorem round_next {w w2 w1 : World} {B g : Nat} {cv : Value} {ns : List Nat} {i : Nat} {h : Int} {v v' : Value} {xs : List UInt8} {m : Nat} {o : Obj} (hlt : g < w.heap.size) (hm : m ≤ 255)
    (hown : w2.ownsRow w.heap.size 5 1 v xs.length (cellsB xs)) (hc : IsCur w2 B g cv ns i h) (hg : w.grownBy w2 (some g)) (hown1 : w1.ownsRow w.heap.size 5 1 v' (xs.length + 1) (cellsB xs ++ [.int .u8 (m : Int)])) (hg1 : (w2.alloc o).grownBy w1 v.ownBlock) :
    w1.ownsRow w.heap.size 5 1 v' (xs ++ [UInt8.ofNat m]).length (cellsB (xs ++ [UInt8.ofNat m])) ∧ IsCur w1 B g cv ns i h ∧ w.grownBy w1 (some g) := by
  have hgl := cur_i64 hc
  have hsz := hg.size
  have hne : ∀ k, k < w.heap.size → some k ≠ v.ownBlock := fun k hk e => by have := (hown.lt k e.symm).1; omega
  have hblk : ∀ k, k < w.heap.size → w1.heap[k]? = w2.heap[k]? := fun k hk => by
    rw [hg1.block k (by simp; omega) (hne k hk)]
    exact Below.heap_alloc _ _ _ (by omega)
  refine ⟨?_, cur_kept hc (fun k hk => hblk k (by omega)), ?_⟩
  · rw [cellsB_append, List.length_append]
    rw [byte_cell m hm] at hown1
    exact hown1
  · exact ⟨hg1.os.trans hg.os, hg1.tape.trans hg.tape, hg1.output.trans hg.output, by have := hg1.size; simp at this; omega, fun k hk hk2 => (hblk k hk).trans (hg.block k hk hk2)⟩
theorem grow_two {w a b : World} {g : Nat} (h1 : w.grownBy a (some g)) (h2 : a.grownBy b (some g)) : w.grownBy b (some g) :=
  ⟨h2.os.trans h1.os, h2.tape.trans h1.tape, h2.output.trans h1.output, Nat.le_trans h1.size h2.size, fun k hk hne => (h2.block k (Nat.lt_of_lt_of_le hk h1.size) hne).trans (h1.block k hk hne)⟩
theorem grow_alloc {w a : World} {g : Nat} (h1 : w.grownBy a (some g)) (o : Obj) : w.grownBy (a.alloc o) (some g) :=
  ⟨h1.os, h1.tape, h1.output, by have := h1.size; simp; omega, fun k hk hne => (Below.heap_alloc _ _ _ (Nat.lt_of_lt_of_le hk h1.size)).trans (h1.block k hk hne)⟩
theorem own_cur {w a : World} {base g n : Nat} {v : Value} {xs : List Value} {e : TypeId} (h : w.ownsRow base e 1 v n xs) (hlt : g < base) (hg : w.grownBy a (some g)) : a.ownsRow base e 1 v n xs := by
  refine h.kept hg (.inr fun e => ?_)
  have := (h.lt g e).1
  omega

set_option maxHeartbeats 1000000 in
/-- Some bytes: at most 'most'. -/
theorem bytes_any (w : World) (B g : Nat) (cv : Value) (ns : List Nat) (i : Nat) (h : Int) (most : Nat) (hm : most ≤ 255) (hc : IsCur w B g cv ns i h) :
    Calls Try.prog 37 #[.pointer (some ⟨g, 0, none⟩), .int .i64 most] w fun e w' => ∃ (s : ByteArray) (i' : Nat) (h' : Int), s.size ≤ most ∧ e = .returned (.string s) ∧ IsCur w' B g cv ns i' h' ∧ w.grownBy w' (some g) := by
  obtain ⟨i0, hi, hz0, hz1, hz2⟩ := info_parts byteInfo
  have HC := Lib.hid hc
  have hgl := cur_i64 hc
  clear hc
  go_enter Try.func37, Try.ntmps37
  go_wp2_with fail
  rw [show ((most : Int) + 1) = ((most + 1 : Nat) : Int) from by omega]
  refine (below_any _ _ _ _ _ _ _ (most + 1) (by omega) (by omega) (Make.cur_alloc HC.out _)).mono ?_
  rintro e w2 ⟨rfl, hc2, hg2⟩
  have HC2 := Lib.hid hc2
  have HO2 := Lib.hid (own_cur (own_fresh w 5) hgl hg2)
  have HG2 := Lib.hid (grow_two (grow_alloc (World.grownBy.refl w (some g)) _) hg2)
  have hx : stepX ns i h % (most + 1) < most + 1 := Nat.mod_lt _ (by omega)
  clear hc2 hg2
  generalize stepX ns i h % (most + 1) = x at hx ⊢
  go_wp2_with fail
  go_loopw [5, 6] (fun v nv wr => ∃ (n : Nat) (xs : List UInt8) (i : Nat) (h : Int), nv = .int .i64 n ∧ n ≤ most ∧ xs.length + n ≤ most ∧ wr.ownsRow w.heap.size 5 1 v xs.length (cellsB xs) ∧ IsCur wr B g cv ns i h ∧ w.grownBy wr (some g)) (fun _ nv _ => (intOf nv).toNat)
  case atStart => exact ⟨x, [], _, _, rfl, by omega, by simp; omega, HO2.out, HC2.out, HG2.out⟩
  case round =>
    clear HO2 HC2 HG2 HC
    obtain ⟨n, xs, i, h, rfl, hn, hxs, hown, hc, hg⟩ := hrel
    have HC := Lib.hid hc
    have HOWN := Lib.hid hown
    have HG := Lib.hid hg
    have hgr := cur_i64 hc
    clear hc hown hg
    by_cases h0 : 0 < n
    · go_wp2_with fail
      refine (byte_any _ _ _ _ _ _ _ HC.out).mono ?_
      rintro e w3 ⟨rfl, hc3, hg3⟩
      have HC3 := Lib.hid hc3
      have HO3 := Lib.hid (own_cur HOWN.out hgl hg3)
      have HG3 := Lib.hid (grow_two HG.out hg3)
      have hgl3 := cur_i64 hc3
      have hx := stepX_le ns i h
      clear hc3 hg3
      generalize stepX ns i h = x at hx ⊢
      go_wp2_with fail
      refine (pick_any _ _ _ _ _ _ _ w3.heap.size 6 (six x) (by simp [six]) (by simp [six]) (by omega) (fun j hj => six_cell w3 _ x j hj) (Make.cur_alloc HC3.out _)).mono ?_
      rintro e w4 ⟨rfl, hc4, hg4⟩
      have HC4 := Lib.hid hc4
      have HO4 := Lib.hid (own_cur (HO3.out.alloc _) hgl hg4)
      have HG4 := Lib.hid (grow_two (grow_alloc HG3.out _) hg4)
      have hgl4 := HG4.out.size
      obtain ⟨m, hm255, hme⟩ := six_bd x hx (stepX ns (stepI ns i) (nextH h) % (six x).length) (Nat.mod_lt _ (by simp [six]))
      clear hc4 hg4
      rw [hme]
      clear hme
      have hu : IntKind.u8.wrap (m : Int) = (m : Int) := by rw [IntKind.wrap_u8']; omega
      go_wp2_with (first | (at_builtin; refine wpList_append_own _ rfl _ _ 22 rfl w.heap.size 5 i0 (.int .u8 0) 1 1 Try.underlying22 hi hz0 hz1 hz2 rfl (by decide) _ _ _ rfl (HO4.out.alloc _) ⟨w4.heap.size, 0, none⟩ 1 1 [.int .u8 (m : Int)] rfl rfl ?c1 ?c2 ?c3 ?c4 ?c5 ?_))
      case c1 => exact cell_one_new _ _ _
      case c2 => simp [Value.oneCell']
      case c3 => unfold maxLen; omega
      case c4 => omega
      case c5 => simp; omega
      intro v' w5 hown5 hg5 _
      have HR := Lib.hid (round_next hgl hm255 HO4.out HC4.out HG4.out hown5 hg5)
      clear hown5 hg5
      go_wp2_with fail
      go_roundw
      case rel => exact ⟨n - 1, xs ++ [UInt8.ofNat m], _, _, by go_num, by omega, by simp; omega, HR.out⟩
      case measure => simp [intOf]; omega
    · have hbk := back_own HOWN.out
      go_wp2_with fail
      go_ret
      exact ⟨_, _, _, by simp [ByteArray.size]; omega, rfl, HC.out, HG.out⟩

theorem make_any (w : World) (cv : Value) (ns : List Nat) (m : Nat) (hm : m ≤ 1000000) (hc : CodeIn w w.heap.size cv ns) :
    Calls Try.prog 12 #[cv, .int .i64 m] w fun e w' => ∃ s : ByteArray, s.size ≤ 40 ∧ e = .returned (.string s) ∧ Below w.heap.size w w' := by
  have H1 := Lib.hid (moved_any w cv ns m hm hc)
  clear hc
  go_enter Try.func12, Try.ntmps12
  go_wp2_with fail
  refine H1.out.mono ?_
  rintro e w1 ⟨rfl, hc1, hb1⟩
  have HC1 := Lib.hid hc1
  have HB1 := Lib.hid hb1
  clear hc1 hb1
  generalize (after ns 0 (newH ns) m).1 = i at HC1
  generalize (after ns 0 (newH ns) m).2 = h at HC1
  go_wp2_with fail
  refine (bytes_any _ _ _ _ _ _ _ 40 (by omega) HC1.out).mono ?_
  rintro e w2 ⟨s, i', h', hs, rfl, hc2, hg2⟩
  have HB2 := Lib.hid (below_at HB1.out (Nat.le_refl _) hg2)
  clear hc2 hg2
  go_wp2_with fail
  go_ret
  exact ⟨s, hs, rfl, HB2.out⟩
end Go.Proofs.Ytbfbcfnnajaeeaa.MakeBytes
