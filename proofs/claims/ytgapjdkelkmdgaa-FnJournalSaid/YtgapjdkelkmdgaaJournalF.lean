/- Plain facts on what a journal's writes are made of. No condition. -/
import Derived.Test.YtgapjdkelkmdgaaCommitF
namespace Go.Proofs.Ytgapjdkelkmdgaa.Txn
open Wr (Wt d0 datas wcells wcells_append wcell)
open Strs (total)
set_option linter.unusedVariables false

theorem tgts_take (l : List Wt) (i : Nat) (h : i < l.length) : tgts (l.take (i + 1)) = tgts (l.take i) ++ Nums.putB (l.getD i d0).1 2 := by
  unfold tgts
  rw [take_snoc l i h, List.map_append, List.map_cons, List.map_nil, cat_snoc]
theorem tgts_size (l : List Wt) : (tgts l).size ≤ 6 * l.length := by
  unfold tgts
  rw [cat_size]
  induction l with
  | nil => exact Nat.zero_le _
  | cons a l ih =>
    have h1 := putB_size a.1 2
    have h2 : total ((a :: l).map fun x => Nums.putB x.1 2) = (Nums.putB a.1 2).size + total (l.map fun x => Nums.putB x.1 2) := by simp [total]
    rw [h2, List.length_cons]
    omega
/-- The first i payload writes. -/
def payTo (l : List Wt) (i : Nat) : List Wt := (List.range i).map fun k => (((6 + k : Nat) : Int), (l.getD k d0).2)
theorem payTo_all (l : List Wt) : payTo l l.length = payW l := rfl
theorem payTo_len (l : List Wt) (i : Nat) : (payTo l i).length = i := by simp [payTo]
theorem payTo_succ (l : List Wt) (i : Nat) : payTo l (i + 1) = payTo l i ++ [(((6 + i : Nat) : Int), (l.getD i d0).2)] := by simp [payTo, List.range_succ]
/-- The first i writes of target sectors. -/
def tgtTo (ps : List ByteArray) (i : Nat) : List Wt := (List.range i).map fun k => (((2 + k : Nat) : Int), PadTo.padB (ps.getD k ⟨#[]⟩) 32)
theorem tgtTo_all (l : List Wt) : tgtTo (CutAll.cutAll (tgts l) 32) (CutAll.cutAll (tgts l) 32).length = tgtW l := rfl
theorem tgtTo_len (ps : List ByteArray) (i : Nat) : (tgtTo ps i).length = i := by simp [tgtTo]
theorem tgtTo_succ (ps : List ByteArray) (i : Nat) : tgtTo ps (i + 1) = tgtTo ps i ++ [(((2 + i : Nat) : Int), PadTo.padB (ps.getD i ⟨#[]⟩) 32)] := by simp [tgtTo, List.range_succ]
theorem wcells_snoc (ws : List Wt) (x : Wt) : wcells (ws ++ [x]) = wcells ws ++ [.int .i64 x.1, .string x.2] := by
  rw [wcells_append]; rfl
theorem jour_no {l : List Wt} (h : ¬ (Tgt l ∧ Full l)) : jourV l = [] := if_neg h
theorem jour_yes {l : List Wt} (h1 : Tgt l) (h2 : Full l) : jourV l = tgtW l ++ payW l := if_pos ⟨h1, h2⟩
theorem tgtW_len (l : List Wt) : (tgtW l).length = (CutAll.cutAll (tgts l) 32).length := by simp [tgtW]
theorem payW_len (l : List Wt) : (payW l).length = l.length := by simp [payW]
theorem jour_ne {l : List Wt} (h1 : Tgt l) (h2 : Full l) : jourV l ≠ [] := by
  rw [jour_yes h1 h2]
  intro h
  have := congrArg List.length h
  rw [List.length_append, payW_len] at this
  have h5 := h1.1.1
  rw [List.length_nil] at this
  omega
theorem cut_le (s : ByteArray) (n : Nat) (h1 : 1 ≤ n) (h2 : n ≤ 1000) (k : Nat) (x : ByteArray) (hx : (CutAll.cutAll s n)[k]? = some x) : x.size ≤ s.size := by
  unfold CutAll.cutAll at hx
  rw [if_pos (by omega)] at hx
  unfold CutAll.cut at hx
  rw [List.getElem?_map] at hx
  obtain ⟨j, hj, rfl⟩ := Option.map_eq_some_iff.1 hx
  simp
  omega
theorem cut_get_le (s : ByteArray) (n : Nat) (h1 : 1 ≤ n) (h2 : n ≤ 1000) (k : Nat) : ((CutAll.cutAll s n).getD k ⟨#[]⟩).size ≤ s.size := by
  rw [List.getD_eq_getElem?_getD]
  cases h : (CutAll.cutAll s n)[k]? with
  | none => exact Nat.zero_le _
  | some x => exact cut_le s n h1 h2 k x h
theorem pad32 (s : ByteArray) (h : s.size ≤ 32) : (PadTo.padB s 32).size = 32 := by
  rw [PadTo.padB, if_neg (by decide)]
  show (PadTo.zend s (32 - s.size)).toArray.size = 32
  simp [PadTo.zend_length]
  omega
end Go.Proofs.Ytgapjdkelkmdgaa.Txn
