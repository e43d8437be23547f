/- Contracts: the program's flushed, completion, stepsOf: lists of steps behind one interface, in rows of their own. Conditions: the lengths. -/
import Derived.Test.YtgapjdkelkmdgaaSpMark
import Derived.Test.YtgapjdkelkmdgaaJournal
import Derived.Test.YtgapjdkelkmdgaaReadF
import Derived.Handy
namespace Go.Proofs.Ytgapjdkelkmdgaa.Steps
open Go.ChangeShapes Go.WideShapes Go.ChangeAt Go.RowKit
open Wr (Wt d0 datas wcells)
open Dk (AtW atW ret_bool blk_new blk_of blk_two RowIn Box)
open Strs (own_below)
open Txn (St s0 fl zero endV)
open Sp (scells scell)
open Journal (own_wide own_cong)
set_option linter.unusedVariables false

/-- A step as the program holds it: an interface value. -/
def pcell (x : St) : Value := if x.1 = true then .iface 131 (.agg #[]) else .iface 129 (.agg #[.int .i64 x.2.1, .string x.2.2])
def pcells (l : List St) : List Value := l.map pcell
theorem pcells_append (a b : List St) : pcells (a ++ b) = pcells a ++ pcells b := by simp [pcells]
theorem pcells_len (l : List St) : (pcells l).length = l.length := by simp [pcells]
theorem pcell_one (x : St) : (pcell x).oneCell' = true := by
  unfold pcell
  split <;> rfl
theorem pcells_one (l : List St) : ∀ u ∈ pcells l, u.oneCell' = true := by
  intro u hu
  obtain ⟨x, _, rfl⟩ := List.mem_map.1 hu
  exact pcell_one x
theorem ifInfo : (Try.prog.info? 90).map (fun i => (i.zero, i.size, i.bytes)) = some (some .nilIface, 1, 16) := by kernel_rfl
/-- A row of the call's own as what is appended. -/
theorem src_own {w : World} {base : Nat} {e : TypeId} {size : Nat} {v : Value} {n : Nat} {xs : List Value} (h : w.ownsRow base e size v n xs) (h1 : ∀ u ∈ xs, u.oneCell' = true) (hs : 0 < size) : App.SrcRow w size v n xs := by
  rcases h.2 with ⟨rfl, h0⟩ | ⟨g, cap, cur, rfl, hb, hg, hn', hm, hz, htake⟩
  · exact .inl ⟨h0, List.eq_nil_of_length_eq_zero (by rw [h.1, h0]; simp), 0, rfl⟩
  · refine .inr ⟨⟨g, 0, none⟩, cap, rfl, h.1, fun j u hj => ?_, h1⟩
    rw [Addr.add_lit, Nat.zero_add]
    obtain ⟨hj', _⟩ := List.getElem?_eq_some_iff.1 hj
    rw [h.cellAt j (by have := h.1; omega)]
    exact hj
/-- A new block as a row of the call's own. -/
theorem own_new (w : World) (e : TypeId) (size n : Nat) (xs : List Value) (hn : n ≤ maxLen) (hl : xs.length = n * size) : (w.alloc (.cells xs.toArray e)).ownsRow w.heap.size e size (.slice (some ⟨w.heap.size, 0, none⟩) n n) n xs :=
  ⟨hl, .inr ⟨w.heap.size, n, xs.toArray, rfl, Nat.le_refl _, blk_new w _, Nat.le_refl _, hn, by simp; omega, by rw [← hl]; simp⟩⟩

set_option maxRecDepth 100000 in
set_option maxHeartbeats 1600000 in
theorem flushed_any (w : World) (lv : Value) (l : List Wt) (h3 : l.length ≤ 1000000) (hl : Wr.Holds w lv l) :
    Calls Try.prog 55 #[lv] w fun e w' => ∃ v, e = .returned v ∧ w'.ownsRow w.heap.size 90 1 v (l.length + 1) (pcells (l.map Txn.wr ++ [fl])) ∧ Below w.heap.size w w' := by
  obtain ⟨j0, hj, hy0, hy1, hy2⟩ := info_parts ifInfo
  have HJ := Lib.hid hj
  have HY0 := Lib.hid hy0
  have HY1 := Lib.hid hy1
  have HY2 := Lib.hid hy2
  clear hj hy0 hy1 hy2
  obtain ⟨c, cc, rfl, hc⟩ := atW hl
  have HC := Lib.hid hc
  clear hl hc
  obtain ⟨N, hN⟩ : ∃ N, N = l.length := ⟨_, rfl⟩
  rw [← hN] at h3 ⊢
  have HN := Lib.hid hN
  clear hN
  go_enter Try.func55, Try.ntmps55
  go_wp2_with fail
  go_loopw [3, 8] (fun v iv wr' => ∃ i : Nat, i ≤ N ∧ iv = .int .i64 i ∧ wr'.ownsRow w.heap.size 90 1 v i (pcells ((l.map Txn.wr).take i)) ∧ Below w.heap.size w wr') (fun _ iv _ => N - (intOf iv).toNat)
  case atStart => exact ⟨0, Nat.zero_le _, rfl, World.ownsRow_nil _ _ _ _, Below.refl _ _⟩
  case round =>
    obtain ⟨i, hii, rfl, hown, hbel⟩ := hrel
    have HO := Lib.hid hown
    have HB := Lib.hid hbel
    have hsz := hbel.size
    obtain ⟨qa, qc, rfl⟩ := Dk.slice_of hown
    clear hown hbel
    by_cases hlt : i < N
    · have hlx : i < l.length := by rw [← HN.out]; exact hlt
      obtain ⟨bw, ow, rfl, hbw, hc1, hc2⟩ := HC.out i hlx
      rw [← HB.out.cell (p := ⟨bw, _, none⟩) hbw] at hc1 hc2
      have HT := Lib.hid (show pcells ((l.map Txn.wr).take (i + 1)) = pcells ((l.map Txn.wr).take i) ++ [.iface 129 (.agg #[.int .i64 (l.getD i d0).1, .string (l.getD i d0).2])] by
        rw [← List.map_take, ← List.map_take, Txn.take_snoc l i hlx, List.map_append, pcells_append]; rfl)
      generalize l.getD i d0 = x at hc1 hc2 HT
      obtain ⟨z0, z1⟩ := Dk.Box.cells (show Box (wr.alloc (.cells #[.int .i64 x.1, .string x.2] 39)) wr.heap.size (.int .i64 x.1) (.string x.2) 39 from blk_new wr (.cells #[.int .i64 x.1, .string x.2] 39))
      have HBA := Lib.hid (HB.out.alloc hsz (.cells #[.int .i64 x.1, .string x.2] 39))
      have HOA := Lib.hid (World.ownsRow.alloc HO.out (.cells #[.int .i64 x.1, .string x.2] 39))
      have hsa : w.heap.size ≤ (wr.alloc (.cells #[.int .i64 x.1, .string x.2] 39)).heap.size := by simp; omega
      have HBK := Lib.hid (show wr.heap.size + 1 = (wr.alloc (.cells #[.int .i64 x.1, .string x.2] 39)).heap.size by simp)
      go_wp2_with (first | (at_builtin; refine wpList_append_own _ rfl _ _ 75 rfl w.heap.size 90 j0 .nilIface 1 16 Try.underlying75 HJ.out HY0.out HY1.out HY2.out rfl (by decide) _ _ _ rfl (World.ownsRow.alloc HOA.out _) ⟨wr.heap.size + 1, 0, none⟩ 1 1 [.iface 129 (.agg #[.int .i64 x.1, .string x.2])] rfl rfl (by rw [HBK.out]; exact cell_one_new _ _ _) (by simp [Value.oneCell']) ?c1 ?c2 ?c3 ?_))
      case c1 => unfold maxLen; omega
      case c2 => omega
      case c3 => simp only [World.size_alloc]; omega
      intro v9 w9 hown9 hg9 _
      have HB9 := Lib.hid ((HBA.out.alloc hsa _).grown hg9 (by simp only [World.size_alloc]; omega) (fun k hk => (HOA.out.lt k hk).1))
      have HO9 := Lib.hid (own_cong (n' := i + 1) (xs' := pcells ((l.map Txn.wr).take (i + 1))) hown9 rfl (by rw [HT.out]))
      clear hown9 hg9
      go_wp2_with fail
      go_roundw
      case rel => exact ⟨i + 1, by omega, by go_num, HO9.out, HB9.out⟩
      case measure => simp [intOf]; omega
    · have hiN : i = N := by omega
      have HE := Lib.hid (show (l.map Txn.wr).take i = l.map Txn.wr from List.take_of_length_le (by rw [List.length_map, ← HN.out]; omega))
      have HIN := Lib.hid hiN
      clear hiN
      go_wp2_with (first | (at_builtin; refine wpList_append_own _ rfl _ _ 75 rfl w.heap.size 90 j0 .nilIface 1 16 Try.underlying75 HJ.out HY0.out HY1.out HY2.out rfl (by decide) _ _ _ rfl (World.ownsRow.alloc HO.out _) ⟨wr.heap.size, 0, none⟩ 1 1 [.iface 131 (.agg #[])] rfl rfl (cell_one_new _ _ _) (by simp [Value.oneCell']) ?c1 ?c2 ?c3 ?_))
      case c1 => unfold maxLen; omega
      case c2 => omega
      case c3 => simp only [World.size_alloc]; omega
      intro v9 w9 hown9 hg9 _
      have HB9 := Lib.hid ((HB.out.alloc hsz _).grown hg9 (by simp only [World.size_alloc]; omega) (fun k hk => (HO.out.lt k hk).1))
      have HO9 := Lib.hid (own_cong (n' := N + 1) (xs' := pcells (l.map Txn.wr ++ [fl])) hown9 (by rw [HIN.out]) (by rw [HE.out, pcells_append]; rfl))
      clear hown9 hg9
      go_wp2_with fail
      go_ret
      exact ⟨_, rfl, HO9.out, HB9.out⟩

theorem commit_any (s : ByteArray) (w : World) :
    Calls Try.prog 56 #[.string s] w fun e w' => e = .returned (.agg #[.int .i64 1, .string s]) ∧ Below w.heap.size w w' := by
  have h0 := blk_new w (.cells #[.int .i64 1, .string s] 39)
  obtain ⟨c0, c1, _, _⟩ := blk_two h0
  go_enter Try.func56, Try.ntmps56
  go_wp2
  exact bodyPost_ret (v := .agg #[.int .i64 1, .string s]) (by simp [results, Try.results56, go_sem, c0, c1]) rfl ⟨rfl, Joins.below_alloc1 _ _⟩
end Go.Proofs.Ytgapjdkelkmdgaa.Steps
