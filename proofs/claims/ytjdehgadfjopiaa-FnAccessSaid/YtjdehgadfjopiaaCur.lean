/- Contracts of the laws' cursor over the drawn code: a new cursor, the next byte, a number below n, one of a list of strings. Conditions: as each theorem types them. -/
import Derived.Test.YtjdehgadfjopiaaKit
import Derived.BigQuiet
import Derived.Deep.QuietTactic
import Derived.Laws.Bits128
namespace Go.Proofs.Ytjdehgadfjopiaa.Cur
open Go.ChangeShapes Go.WideShapes Go.ChangeAt Go.RowKit
set_option linter.unusedVariables false

theorem i64_and255 (n : Int) : bits .and .i64 n 255 = n % 256 := by
  have h255 : (BitVec.ofInt 64 255).toNat = 2 ^ 8 - 1 := by decide
  have key : (BitVec.ofInt 64 n &&& BitVec.ofInt 64 255).toNat = (n % ((2 ^ 64 : Nat) : Int)).toNat % 2 ^ 8 := by
    rw [BitVec.toNat_and, BitVec.toNat_ofInt, h255, Nat.and_two_pow_sub_one_eq_mod]
  show IntKind.i64.wrap ((BitVec.ofInt 64 n &&& BitVec.ofInt 64 255).toNat : Nat) = n % 256
  rw [key, IntKind.wrap_i64]
  omega
/-- The cursor's next state, and the byte that it gives. -/
def nextH (h : Int) : Int := wrap64 (wrap64 (h * 6364136223846793005) + 1442695040888963407)
def mixB (H : Int) : Nat := (bits BinOp.and IntKind.i64 (bits BinOp.xor IntKind.i64 (H / 8589934592) (H / 35184372088832)) 255).toNat
theorem mix_eq (H : Int) : bits BinOp.and IntKind.i64 (bits BinOp.xor IntKind.i64 (H / 8589934592) (H / 35184372088832)) 255 = (mixB H : Int) ∧ mixB H ≤ 255 := by
  unfold mixB
  rw [i64_and255]
  omega
def stepX (ns : List Nat) (i : Nat) (h : Int) : Nat := if i < ns.length then (mixB (nextH h) + ns.getD i 0) % 256 else mixB (nextH h)
def stepI (ns : List Nat) (i : Nat) : Nat := if i < ns.length then i + 1 else i
theorem stepX_le (ns : List Nat) (i : Nat) (h : Int) : stepX ns i h ≤ 255 := by
  unfold stepX; split
  · omega
  · exact (mix_eq _).2
theorem stepI_le (ns : List Nat) (i : Nat) (h : i ≤ ns.length) : stepI ns i ≤ ns.length := by unfold stepI; split <;> omega

/-- A slice of bytes that came in: its cells hold the bytes ns, in a block below B. -/
def CodeIn (w : World) (B : Nat) (cv : Value) (ns : List Nat) : Prop :=
  ∃ (a : Option Addr) (cap : Nat), cv = .slice a ns.length cap ∧ ns.length ≤ 1048576 ∧ (∀ x ∈ ns, x ≤ 255) ∧ (0 < ns.length → ∃ b o, a = some ⟨b, o, none⟩ ∧ b < B ∧ ∀ j, j < ns.length → w.cell? ⟨b, o + j, none⟩ = some (.int .u8 (ns.getD j 0 : Nat)))
/-- Block g, not below B, is a cursor over the code, at place i with the number h. -/
def IsCur (w : World) (B g : Nat) (cv : Value) (ns : List Nat) (i : Nat) (h : Int) : Prop :=
  B ≤ g ∧ CodeIn w B cv ns ∧ i ≤ ns.length ∧ w.heap[g]? = some (.cells #[cv, .int .i64 i, .int .i64 h] 86 (0, 0))
theorem cell_of {w : World} {g : Nat} {cs : Array Value} {T : TypeId} (h : w.heap[g]? = some (.cells cs T (0, 0))) (j : Nat) : w.cell? ⟨g, j, none⟩ = cs[j]? := by simp [World.cell?, h]
theorem free_of {w : World} {g : Nat} {cs : Array Value} {T : TypeId} (h : w.heap[g]? = some (.cells cs T (0, 0))) (j : Nat) : w.frozen? ⟨g, j, none⟩ = false := by simp [World.frozen?, h]
/-- The code stands where only blocks from B on may have turned. -/
theorem code_kept {w w' : World} {B : Nat} {cv : Value} {ns : List Nat} (h : CodeIn w B cv ns) (hk : ∀ k, k < B → w'.heap[k]? = w.heap[k]?) : CodeIn w' B cv ns := by
  obtain ⟨a, cap, rfl, hn, hx, hc⟩ := h
  refine ⟨a, cap, rfl, hn, hx, fun hp => ?_⟩
  obtain ⟨b, o, rfl, hb, hcell⟩ := hc hp
  refine ⟨b, o, rfl, hb, fun j hj => ?_⟩
  rw [World.cell?_of_block (w := w) (hk b hb)]
  exact hcell j hj
theorem cur_a {w : World} {B g : Nat} {cv : Value} {ns : List Nat} {i : Nat} {h H : Int} (hc : IsCur w B g cv ns i h) (hj : i + 1 ≤ ns.length) (m : Nat) :
    IsCur (((w.setCell ⟨g, 2, none⟩ (.int .i64 H)).drewN m).setCell ⟨g, 1, none⟩ (.int .i64 ((i : Int) + 1))) B g cv ns (i + 1) H ∧ w.grownBy (((w.setCell ⟨g, 2, none⟩ (.int .i64 H)).drewN m).setCell ⟨g, 1, none⟩ (.int .i64 ((i : Int) + 1))) (some g) := by
  obtain ⟨hB, hcode, hi, hb⟩ := hc
  have hb2 := heap_setCell_same w g 2 _ _ (.int .i64 H) hb
  have hb3 := heap_setCell_same ((w.setCell ⟨g, 2, none⟩ (.int .i64 H)).drewN m) g 1 _ _ (.int .i64 ((i : Int) + 1)) hb2
  have hoth : ∀ k, k ≠ g → (((w.setCell ⟨g, 2, none⟩ (.int .i64 H)).drewN m).setCell ⟨g, 1, none⟩ (.int .i64 ((i : Int) + 1))).heap[k]? = w.heap[k]? := fun k hk => by
    rw [heap_setCell_other _ _ _ _ (by simpa using hk)]
    exact heap_setCell_other w _ _ _ (by simpa using hk)
  refine ⟨⟨hB, code_kept hcode (fun k hk => hoth k (by omega)), hj, hb3⟩, rfl, rfl, rfl, by simp [World.setCell], fun k _ hk => hoth k (fun e => hk (by rw [e]))⟩
theorem cur_b {w : World} {B g : Nat} {cv : Value} {ns : List Nat} {i : Nat} {h H : Int} (hc : IsCur w B g cv ns i h) (m m' : Nat) :
    IsCur (((w.setCell ⟨g, 2, none⟩ (.int .i64 H)).drewN m).drewN m') B g cv ns i H ∧ w.grownBy (((w.setCell ⟨g, 2, none⟩ (.int .i64 H)).drewN m).drewN m') (some g) := by
  obtain ⟨hB, hcode, hi, hb⟩ := hc
  have hb2 := heap_setCell_same w g 2 _ _ (.int .i64 H) hb
  have hoth : ∀ k, k ≠ g → (w.setCell ⟨g, 2, none⟩ (.int .i64 H)).heap[k]? = w.heap[k]? := fun k hk => heap_setCell_other w _ _ _ (by simpa using hk)
  exact ⟨⟨hB, code_kept hcode (fun k hk => hoth k (by omega)), hi, hb2⟩, rfl, rfl, rfl, by simp [World.setCell], fun k _ hk => hoth k (fun e => hk (by rw [e]))⟩

theorem ret_byte (X x : Nat) (h1 : X ≤ 255) (h2 : x ≤ 255) : Ending.returned (.int .i64 (bits .and .i64 ((X : Int) + (x : Int)) 255)) = .returned (.int .i64 (((X + x) % 256 : Nat) : Int)) := by
  rw [i64_and255]
  congr 2

set_option maxRecDepth 100000 in
set_option maxHeartbeats 400000 in
theorem byte_any (w : World) (B g : Nat) (cv : Value) (ns : List Nat) (i : Nat) (h : Int) (hc : IsCur w B g cv ns i h) :
    Calls Try.prog 41 #[.pointer (some ⟨g, 0, none⟩)] w fun e w' => e = .returned (.int .i64 (stepX ns i h)) ∧ IsCur w' B g cv ns (stepI ns i) (nextH h) ∧ w.grownBy w' (some g) := by
  have HIC := Lib.hid hc
  obtain ⟨hB, hcode, hi, hb⟩ := hc
  obtain ⟨a, cap, rfl, hn, hx, hcells⟩ := hcode
  have c0 := cell_of hb 0
  have c1 := cell_of hb 1
  have c2 := cell_of hb 2
  have f1 := free_of hb 1
  have f2 := free_of hb 2
  simp at c0 c1 c2
  have HC := Lib.hid hcells
  have HXS := Lib.hid hx
  clear hb hcells hx
  obtain ⟨n, hN⟩ : ∃ n, n = ns.length := ⟨_, rfl⟩
  rw [← hN] at c0 hn hi
  rw [← hN]
  have HN := Lib.hid hN
  clear hN
  by_cases hlt : i < n
  · obtain ⟨b, o, rfl, hbB, hcl⟩ := HC.out (by rw [← HN.out]; omega)
    have hcx := hcl i (by rw [← HN.out]; exact hlt)
    have hxx : ns.getD i 0 ≤ 255 := by
      have hl : i < ns.length := by rw [← HN.out]; exact hlt
      rw [List.getD_eq_getElem?_getD, List.getElem?_eq_getElem hl]
      exact HXS.out _ (List.getElem_mem hl)
    have HSX := Lib.hid (show stepX ns i h = (mixB (nextH h) + ns.getD i 0) % 256 by rw [stepX, if_pos (by rw [← HN.out]; exact hlt)])
    have HSI := Lib.hid (show stepI ns i = i + 1 by rw [stepI, if_pos (by rw [← HN.out]; exact hlt)])
    clear hcl
    generalize ns.getD i 0 = x at hcx hxx HSX
    go_enter Try.func41, Try.ntmps41
    go_wp2
    generalize hH : wrap64 (wrap64 (h * 6364136223846793005) + 1442695040888963407) = H
    have HH := Lib.hid (show nextH h = H from hH)
    clear hH
    go_quiet (fail)
    rw [(mix_eq H).1]
    have hm := (mix_eq H).2
    rw [HH.out] at HSX
    generalize mixB H = X at hm HSX
    go_wp2
    go_quiet (fail)
    go_wp2
    go_quiet (fail)
    go_wp2
    go_ret
    rw [HSX.out, HSI.out, HH.out]
    obtain rfl := HN.out
    exact ⟨ret_byte X x hm hxx, cur_a HIC.out hlt _⟩
  · have HSX := Lib.hid (show stepX ns i h = mixB (nextH h) by rw [stepX, if_neg (by rw [← HN.out]; exact hlt)])
    have HSI := Lib.hid (show stepI ns i = i by rw [stepI, if_neg (by rw [← HN.out]; exact hlt)])
    go_enter Try.func41, Try.ntmps41
    go_wp2
    generalize hH : wrap64 (wrap64 (h * 6364136223846793005) + 1442695040888963407) = H
    have HH := Lib.hid (show nextH h = H from hH)
    clear hH
    go_quiet (fail)
    rw [(mix_eq H).1]
    have hm := (mix_eq H).2
    rw [HH.out] at HSX
    generalize mixB H = X at hm HSX
    go_wp2
    go_quiet (fail)
    go_wp2
    go_ret
    rw [HSX.out, HSI.out, HH.out]
    obtain rfl := HN.out
    exact ⟨rfl, cur_b HIC.out _ _⟩
end Go.Proofs.Ytjdehgadfjopiaa.Cur
