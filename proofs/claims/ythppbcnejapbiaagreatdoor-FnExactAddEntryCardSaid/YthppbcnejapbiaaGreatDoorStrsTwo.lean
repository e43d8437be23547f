/- A part. -/
import Derived.Test.YthppbcnejapbiaaGreatDoorStrs
namespace Go.Proofs.YthppbcnejapbiaaGreatDoor.Strs
set_option maxHeartbeats 400000
set_option maxRecDepth 100000
open Go.ChangeShapes Go.WideShapes Go.ChangeAt Go.RowKit
set_option linter.unusedVariables false
def total (xs : List ByteArray) : Nat := (xs.map ByteArray.size).sum
theorem total_take_succ (xs : List ByteArray) (k : Nat) (h : k < xs.length) : total (xs.take (k + 1)) = total (xs.take k) + (xs.getD k ⟨#[]⟩).size := by
 unfold total
 rw [List.take_succ_eq_append_getElem h, List.map_append, List.sum_append]
 simp [List.getD, List.getElem?_eq_getElem h]
theorem total_take_le (xs : List ByteArray) : ∀ k, total (xs.take k) <= total xs := by
 intro k
 have : total xs = total (xs.take k) + total (xs.drop k) := by
  unfold total
  rw [<- List.sum_append, <- List.map_append, List.take_append_drop]
 omega
def budgetOf (xs : List ByteArray) (left : Nat) : Int := if xs.length + total xs <= left then ((left - xs.length - total xs : Nat) : Int) else -1
theorem ret_int {k : IntKind} {a b : Int} (h : a = b) : Ending.returned (.int k a) = .returned (.int k b) := by rw [h]
theorem sz_any (w : World) (v : Value) (xs : List ByteArray) (left : Nat) (hleft : left <= 1073741824) (hlen : xs.length <= maxLen) (hsz : ∀ x ∈ xs, x.size <= maxLen) (h : Holds w v xs) :
  Calls Tryz.prog 43 #[v, .int .i64 left] w fun e w' => e = .returned (.int .i64 (budgetOf xs left)) /\ w = w' := by
 unfold maxLen at hlen
 obtain ⟨a, cap, rfl, hc⟩ := h
 by_cases hlt0 : left < xs.length
 ·have HR := Lib.hid (show budgetOf xs left = -1 by rw [budgetOf, if_neg (by omega)])
  clear hc hsz
  generalize xs.length = L at hlt0 hlen ⊢
  go_enter Tryz.func43, Tryz.ntmps43
  go_wp2
  go_ret
  exact ⟨ret_int HR.out.symm, rfl⟩
 by_cases h0 : xs = []
 ·subst h0
  simp only [List.length_nil]
  have HR := Lib.hid (show budgetOf [] left = left by simp [budgetOf, total])
  clear hc hsz hlt0 hlen
  go_enter Tryz.func43, Tryz.ntmps43
  go_wp2
  refine wp_loop_rounds 1 ?_
  rw [rounds_succ]
  go_wp2
  go_ret
  exact ⟨ret_int (by rw [HR.out]), rfl⟩
 ·obtain ⟨b, o, rfl, hb, hcell⟩ := hc h0
  have HC := Lib.hid hcell
  have HSZ := Lib.hid hsz
  have HTL := Lib.hid (total_take_le xs)
  have hLE : xs.length <= left := by omega
  obtain ⟨L, hL⟩ : ∃ L, L = xs.length := ⟨_, rfl⟩
  rw [<- hL] at hLE hlen ⊢
  have HL := Lib.hid hL
  clear hL hc hcell hsz h0 hlt0
  go_enter Tryz.func43, Tryz.ntmps43
  go_wp2
  go_loop [1, 5] (fun lv iv => ∃ i r : Nat, i <= L /\ iv = .int .i64 i /\ lv = .int .i64 r /\ r + L + total (xs.take i) = left) (fun _ iv => L - (intOf iv).toNat)
  case atStart => exact ⟨0, left - L, Nat.zero_le _, rfl, by go_num, by simp [total]; omega⟩
  case round =>
   obtain ⟨i, r, hi, rfl, rfl, hr⟩ := hrel
   have HR := Lib.hid hr
   have hrl : r <= 1073741824 := by omega
   clear hr
   by_cases hlt : i < L
   ·have hlx : i < xs.length := by rw [<- HL.out]; exact hlt
    have g1 := HC.out i hlx
    have ht := Lib.hid (total_take_succ xs i hlx)
    have hts := HTL.out (i + 1)
    have HTS := Lib.hid hts
    clear hts
    have hxs : (xs.getD i ⟨#[]⟩).size <= maxLen := by
     refine HSZ.out _ ?_
     rw [List.getD_eq_getElem?_getD, List.getElem?_eq_getElem hlx]
     exact List.getElem_mem _
    unfold maxLen at hxs
    generalize xs.getD i ⟨#[]⟩ = x at g1 ht hxs
    by_cases hneg : r < x.size
    ·have HN := Lib.hid (show budgetOf xs left = -1 by
      rw [budgetOf, if_neg]
      have := ht.out; have := HTS.out; have := HR.out; have := HL.out
      omega)
     go_wp2
     go_ret
     exact ⟨ret_int HN.out.symm, rfl⟩
    ·go_wp2
     go_round
     case rel => exact ⟨i + 1, r - x.size, by omega, by go_num, by go_num, by have := ht.out; have := HR.out; omega⟩
     case measure => simp [intOf]; omega
   ·have HN := Lib.hid (show budgetOf xs left = r by
     have h1 := HR.out
     have h2 := HL.out
     rw [List.take_of_length_le (by omega)] at h1
     rw [budgetOf, if_pos (by omega)]
     omega)
    go_wp2
    go_ret
    exact ⟨ret_int HN.out.symm, rfl⟩
theorem strInfo : (Tryz.prog.info? 9).map (fun i => (i.zero, i.size, i.bytes)) = some (some (.string ⟨#[]⟩), 1, 16) := by kernel_rfl
theorem take_set_succ (l : List Value) (i : Nat) (u : Value) (h : i < l.length) : (l.set i u).take (i + 1) = l.take i ++ [u] := by
 rw [List.take_succ_eq_append_getElem (by simpa using h), List.take_set_of_le (Nat.le_refl _)]
 simp
theorem to_any (w : World) (v : Value) (xs : List ByteArray) (hlen : xs.length <= 1073741824) (h : Holds w v xs) :
  Calls Tryz.prog 48 #[v] w fun e w' => ∃ v', e = .returned v' /\ w'.ownsRow w.heap.size 9 1 v' xs.length (xs.map Value.string) /\ Below w.heap.size w w' := by
 obtain ⟨i0, hi, hz0, hz1, hz2⟩ := info_parts strInfo
 obtain ⟨a, cap, rfl, hc⟩ := h
 obtain ⟨L, hL⟩ : ∃ L, L = xs.length := ⟨_, rfl⟩
 have hcase : L = 0 \/ ∃ b o, a = some ⟨b, o, none⟩ /\ b < w.heap.size /\ ∀ j, j < xs.length -> w.cell? ⟨b, o + j, none⟩ = some (.string (xs.getD j ⟨#[]⟩)) := by
  by_cases h0 : xs = []
  ·left; rw [hL, h0]; rfl
  ·right; exact hc h0
 rw [<- hL] at hlen ⊢
 have HL := Lib.hid hL
 clear hL hc
 have hro : i0.bytes * L <= 281474976710656 := by rw [hz2]; omega
 have HRO := Lib.hid hro
 have HB := Lib.hid hz2
 clear hro hz2
 rcases hcase with rfl | ⟨b, o, rfl, hb, hcell⟩
 ·go_enter Tryz.func48, Tryz.ntmps48
  go_wp2_with (at_make; refine wpList_make_full _ rfl _ _ 24 rfl w.heap.size 9 i0 (.string ⟨#[]⟩) 1 Tryz.underlying24 hi hz0 hz1 .i64 .i64 _ _ 0 rfl rfl rfl rfl ?c1 ?c2 ?c3 ?_)
  case c1 => exact HRO.out
  case c2 => unfold maxLen; omega
  case c3 => exact Nat.le_refl _
  intro w1 hown1 hg1
  have hlen1 := hown1.1
  have HO1 := Lib.hid hown1
  have HB1 := Lib.hid (show Below w.heap.size w w1 from (Below.refl _ _).grown hg1 (Nat.le_refl _) (fun k hk => by cases hk))
  clear hown1 hg1 hlen1
  go_wp2
  refine wp_loop_rounds 1 ?_
  rw [rounds_succ]
  go_wp2
  go_ret
  have hx : xs = [] := List.eq_nil_of_length_eq_zero HL.out.symm
  refine ⟨_, rfl, ?_, HB1.out⟩
  subst hx
  have := HO1.out
  simpa [madeCells] using this
 ·have HC := Lib.hid hcell
  clear hcell
  go_enter Tryz.func48, Tryz.ntmps48
  go_wp2_with (at_make; refine wpList_make_full _ rfl _ _ 24 rfl w.heap.size 9 i0 (.string ⟨#[]⟩) 1 Tryz.underlying24 hi hz0 hz1 .i64 .i64 _ _ L rfl rfl rfl rfl ?c1 ?c2 ?c3 ?_)
  case c1 => exact HRO.out
  case c2 => unfold maxLen; omega
  case c3 => exact Nat.le_refl _
  intro w1 hown1 hg1
  have HO1 := Lib.hid hown1
  have HB1 := Lib.hid (show Below w.heap.size w w1 from (Below.refl _ _).grown hg1 (Nat.le_refl _) (fun k hk => by cases hk))
  clear hown1 hg1
  go_wp2
  go_loopw [4] (fun iv wr => ∃ (i : Nat) (l : List Value), i <= L /\ iv = .int .i64 i /\ wr.ownsRow w.heap.size 9 1 (.slice (some ⟨w.heap.size, 0, none⟩) L L) L l /\ l.take i = (xs.take i).map Value.string /\ Below w.heap.size w wr) (fun iv _ => L - (intOf iv).toNat)
  case atStart => exact ⟨0, _, Nat.zero_le _, rfl, HO1.out, rfl, HB1.out⟩
  case round =>
   obtain ⟨i, l, hi, rfl, hown, htake, hbel⟩ := hrel
   have HO := Lib.hid hown
   have HT := Lib.hid htake
   have HBEL := Lib.hid hbel
   clear hown htake hbel HO1 HB1
   by_cases hlt : i < L
   ·have hlx : i < xs.length := by rw [<- HL.out]; exact hlt
    have hll : i < l.length := by have := HO.out.1; omega
    have g1 : wr.cell? ⟨b, o + i, none⟩ = some (.string (xs.getD i ⟨#[]⟩)) := by
     rw [HBEL.out.cell (p := ⟨b, o + i, none⟩) hb]; exact HC.out i hlx
    have hx : (xs.take (i + 1)).map Value.string = (xs.take i).map Value.string ++ [.string (xs.getD i ⟨#[]⟩)] := by
     rw [List.take_succ_eq_append_getElem hlx, List.map_append]
     simp [List.getD, List.getElem?_eq_getElem hlx]
    have hc := HO.out.cellAt i (by omega)
    rw [List.getElem?_eq_getElem hll] at hc
    have hf := HO.out.frozenAt i
    have hst := HO.out.stored i (.string (xs.getD i ⟨#[]⟩))
    have hts := take_set_succ l i (.string (xs.getD i ⟨#[]⟩)) hll
    rw [HT.out, <- hx] at hts
    have HST := Lib.hid hst.1
    have HTS := Lib.hid hts
    clear hx hst hts
    generalize l[i] = y at hc
    generalize xs.getD i ⟨#[]⟩ = x at g1 HST HTS
    go_wp2
    go_roundw
    case rel => exact ⟨i + 1, _, by omega, by go_num, HST.out, HTS.out, HBEL.out.setCell (Nat.le_refl _) _⟩
    case measure => simp [intOf]; omega
   ·obtain rfl : i = L := by omega
    go_wp2
    go_ret
    refine ⟨_, rfl, ?_, HBEL.out⟩
    have h1 := HT.out
    have h2 := HO.out.1
    rw [List.take_of_length_le (by omega), List.take_of_length_le (by rw [HL.out]; exact Nat.le_refl _)] at h1
    rw [<- h1]; exact HO.out
end Go.Proofs.YthppbcnejapbiaaGreatDoor.Strs
