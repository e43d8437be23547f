/- Helper texts for drawn code and drawn journals, joined one behind another (a claim has at most 60 files); each one's own head says what it proves: YtgapjdkelkmdgaaCur, YtgapjdkelkmdgaaCurTwo, YtgapjdkelkmdgaaMake, YtgapjdkelkmdgaaMakeBytes, YtgapjdkelkmdgaaNewDisk, YtgapjdkelkmdgaaDraw, YtgapjdkelkmdgaaDrawMake, YtgapjdkelkmdgaaBl, YtgapjdkelkmdgaaJDraw, YtgapjdkelkmdgaaJourP, YtgapjdkelkmdgaaDiskFacts, YtgapjdkelkmdgaaJF, YtgapjdkelkmdgaaJFTwo, YtgapjdkelkmdgaaJFThree, YtgapjdkelkmdgaaFlushLaw, YtgapjdkelkmdgaaCode. -/
import Derived.Test.YtgapjdkelkmdgaaKit
import Derived.BigQuiet
import Derived.Deep.QuietTactic
import Derived.Laws.Bits128
import Derived.Test.YtgapjdkelkmdgaaRowG
import Derived.Test.YtgapjdkelkmdgaaSplitAnyLaw
import Derived.Test.YtgapjdkelkmdgaaPadTo
import Derived.Test.YtgapjdkelkmdgaaIsDisk
import Derived.Test.YtgapjdkelkmdgaaOwn
import Derived.Test.YtgapjdkelkmdgaaHexOf
import Derived.Deep.RegionHeld3
import Derived.Test.YtgapjdkelkmdgaaStore
import Derived.Test.YtgapjdkelkmdgaaDkOpen
import Derived.Test.YtgapjdkelkmdgaaStepsTwo
import Derived.Test.YtgapjdkelkmdgaaJournalSpec
import Derived.Test.YtgapjdkelkmdgaaReadF
import Derived.Test.YtgapjdkelkmdgaaJournalF
import Derived.Lib.Strings
import Derived.Test.YtgapjdkelkmdgaaReadSpec
import Derived.Test.YtgapjdkelkmdgaaWrite
import Derived.Lib.BufferWrite
import Derived.Test.YtgapjdkelkmdgaaRun
import Derived.Test.YtgapjdkelkmdgaaFlush
import Derived.OpenShut

-- YtgapjdkelkmdgaaCur
/- Contracts of the laws' cursor over the drawn code: a new cursor, the next byte, a number below n, one of a list of strings. Conditions: as each theorem types them. -/
namespace Go.Proofs.Ytgapjdkelkmdgaa.Cur
open Go.ChangeShapes Go.WideShapes Go.ChangeAt Go.RowKit
set_option linter.unusedVariables false

theorem i64_and255 (n : Int) : bits .and .i64 n 255 = n % 256 := by
  have h255 : (BitVec.ofInt 64 255).toNat = 2 ^ 8 - 1 := by decide
  have key : (BitVec.ofInt 64 n &&& BitVec.ofInt 64 255).toNat = (n % ((2 ^ 64 : Nat) : Int)).toNat % 2 ^ 8 := by
    rw [BitVec.toNat_and, BitVec.toNat_ofInt, h255, Nat.and_two_pow_sub_one_eq_mod]
  show IntKind.i64.wrap ((BitVec.ofInt 64 n &&& BitVec.ofInt 64 255).toNat : Nat) = n % 256
  rw [key, IntKind.wrap_i64]
  omega
/-- The cursor's next state, and the byte that it gives. -/
def nextH (h : Int) : Int := wrap64 (wrap64 (h * 6364136223846793005) + 1442695040888963407)
def mixB (H : Int) : Nat := (bits BinOp.and IntKind.i64 (bits BinOp.xor IntKind.i64 (H / 8589934592) (H / 35184372088832)) 255).toNat
theorem mix_eq (H : Int) : bits BinOp.and IntKind.i64 (bits BinOp.xor IntKind.i64 (H / 8589934592) (H / 35184372088832)) 255 = (mixB H : Int) ∧ mixB H ≤ 255 := by
  unfold mixB
  rw [i64_and255]
  omega
def stepX (ns : List Nat) (i : Nat) (h : Int) : Nat := if i < ns.length then (mixB (nextH h) + ns.getD i 0) % 256 else mixB (nextH h)
def stepI (ns : List Nat) (i : Nat) : Nat := if i < ns.length then i + 1 else i
theorem stepX_le (ns : List Nat) (i : Nat) (h : Int) : stepX ns i h ≤ 255 := by
  unfold stepX; split
  · omega
  · exact (mix_eq _).2
theorem stepI_le (ns : List Nat) (i : Nat) (h : i ≤ ns.length) : stepI ns i ≤ ns.length := by unfold stepI; split <;> omega

/-- A slice of bytes that came in: its cells hold the bytes ns, in a block below B. -/
def CodeIn (w : World) (B : Nat) (cv : Value) (ns : List Nat) : Prop :=
  ∃ (a : Option Addr) (cap : Nat), cv = .slice a ns.length cap ∧ ns.length ≤ 1048576 ∧ (∀ x ∈ ns, x ≤ 255) ∧ (0 < ns.length → ∃ b o, a = some ⟨b, o, none⟩ ∧ b < B ∧ ∀ j, j < ns.length → w.cell? ⟨b, o + j, none⟩ = some (.int .u8 (ns.getD j 0 : Nat)))
/-- Block g, not below B, is a cursor over the code, at place i with the number h. -/
def IsCur (w : World) (B g : Nat) (cv : Value) (ns : List Nat) (i : Nat) (h : Int) : Prop :=
  B ≤ g ∧ CodeIn w B cv ns ∧ i ≤ ns.length ∧ w.heap[g]? = some (.cells #[cv, .int .i64 i, .int .i64 h] 126 (0, 0))
theorem cell_of {w : World} {g : Nat} {cs : Array Value} {T : TypeId} (h : w.heap[g]? = some (.cells cs T (0, 0))) (j : Nat) : w.cell? ⟨g, j, none⟩ = cs[j]? := by simp [World.cell?, h]
theorem free_of {w : World} {g : Nat} {cs : Array Value} {T : TypeId} (h : w.heap[g]? = some (.cells cs T (0, 0))) (j : Nat) : w.frozen? ⟨g, j, none⟩ = false := by simp [World.frozen?, h]
/-- The code stands where only blocks from B on may have turned. -/
theorem code_kept {w w' : World} {B : Nat} {cv : Value} {ns : List Nat} (h : CodeIn w B cv ns) (hk : ∀ k, k < B → w'.heap[k]? = w.heap[k]?) : CodeIn w' B cv ns := by
  obtain ⟨a, cap, rfl, hn, hx, hc⟩ := h
  refine ⟨a, cap, rfl, hn, hx, fun hp => ?_⟩
  obtain ⟨b, o, rfl, hb, hcell⟩ := hc hp
  refine ⟨b, o, rfl, hb, fun j hj => ?_⟩
  rw [World.cell?_of_block (w := w) (hk b hb)]
  exact hcell j hj
theorem cur_a {w : World} {B g : Nat} {cv : Value} {ns : List Nat} {i : Nat} {h H : Int} (hc : IsCur w B g cv ns i h) (hj : i + 1 ≤ ns.length) (m : Nat) :
    IsCur (((w.setCell ⟨g, 2, none⟩ (.int .i64 H)).drewN m).setCell ⟨g, 1, none⟩ (.int .i64 ((i : Int) + 1))) B g cv ns (i + 1) H ∧ w.grownBy (((w.setCell ⟨g, 2, none⟩ (.int .i64 H)).drewN m).setCell ⟨g, 1, none⟩ (.int .i64 ((i : Int) + 1))) (some g) := by
  obtain ⟨hB, hcode, hi, hb⟩ := hc
  have hb2 := heap_setCell_same w g 2 _ _ (.int .i64 H) hb
  have hb3 := heap_setCell_same ((w.setCell ⟨g, 2, none⟩ (.int .i64 H)).drewN m) g 1 _ _ (.int .i64 ((i : Int) + 1)) hb2
  have hoth : ∀ k, k ≠ g → (((w.setCell ⟨g, 2, none⟩ (.int .i64 H)).drewN m).setCell ⟨g, 1, none⟩ (.int .i64 ((i : Int) + 1))).heap[k]? = w.heap[k]? := fun k hk => by
    rw [heap_setCell_other _ _ _ _ (by simpa using hk)]
    exact heap_setCell_other w _ _ _ (by simpa using hk)
  refine ⟨⟨hB, code_kept hcode (fun k hk => hoth k (by omega)), hj, hb3⟩, rfl, rfl, rfl, by simp [World.setCell], fun k _ hk => hoth k (fun e => hk (by rw [e]))⟩
theorem cur_b {w : World} {B g : Nat} {cv : Value} {ns : List Nat} {i : Nat} {h H : Int} (hc : IsCur w B g cv ns i h) (m m' : Nat) :
    IsCur (((w.setCell ⟨g, 2, none⟩ (.int .i64 H)).drewN m).drewN m') B g cv ns i H ∧ w.grownBy (((w.setCell ⟨g, 2, none⟩ (.int .i64 H)).drewN m).drewN m') (some g) := by
  obtain ⟨hB, hcode, hi, hb⟩ := hc
  have hb2 := heap_setCell_same w g 2 _ _ (.int .i64 H) hb
  have hoth : ∀ k, k ≠ g → (w.setCell ⟨g, 2, none⟩ (.int .i64 H)).heap[k]? = w.heap[k]? := fun k hk => heap_setCell_other w _ _ _ (by simpa using hk)
  exact ⟨⟨hB, code_kept hcode (fun k hk => hoth k (by omega)), hi, hb2⟩, rfl, rfl, rfl, by simp [World.setCell], fun k _ hk => hoth k (fun e => hk (by rw [e]))⟩

theorem ret_byte (X x : Nat) (h1 : X ≤ 255) (h2 : x ≤ 255) : Ending.returned (.int .i64 (bits .and .i64 ((X : Int) + (x : Int)) 255)) = .returned (.int .i64 (((X + x) % 256 : Nat) : Int)) := by
  rw [i64_and255]
  congr 2

set_option maxRecDepth 100000 in
set_option maxHeartbeats 400000 in
theorem byte_any (w : World) (B g : Nat) (cv : Value) (ns : List Nat) (i : Nat) (h : Int) (hc : IsCur w B g cv ns i h) :
    Calls Try.prog 63 #[.pointer (some ⟨g, 0, none⟩)] w fun e w' => e = .returned (.int .i64 (stepX ns i h)) ∧ IsCur w' B g cv ns (stepI ns i) (nextH h) ∧ w.grownBy w' (some g) := by
  have HIC := Lib.hid hc
  obtain ⟨hB, hcode, hi, hb⟩ := hc
  obtain ⟨a, cap, rfl, hn, hx, hcells⟩ := hcode
  have c0 := cell_of hb 0
  have c1 := cell_of hb 1
  have c2 := cell_of hb 2
  have f1 := free_of hb 1
  have f2 := free_of hb 2
  simp at c0 c1 c2
  have HC := Lib.hid hcells
  have HXS := Lib.hid hx
  clear hb hcells hx
  obtain ⟨n, hN⟩ : ∃ n, n = ns.length := ⟨_, rfl⟩
  rw [← hN] at c0 hn hi
  rw [← hN]
  have HN := Lib.hid hN
  clear hN
  by_cases hlt : i < n
  · obtain ⟨b, o, rfl, hbB, hcl⟩ := HC.out (by rw [← HN.out]; omega)
    have hcx := hcl i (by rw [← HN.out]; exact hlt)
    have hxx : ns.getD i 0 ≤ 255 := by
      have hl : i < ns.length := by rw [← HN.out]; exact hlt
      rw [List.getD_eq_getElem?_getD, List.getElem?_eq_getElem hl]
      exact HXS.out _ (List.getElem_mem hl)
    have HSX := Lib.hid (show stepX ns i h = (mixB (nextH h) + ns.getD i 0) % 256 by rw [stepX, if_pos (by rw [← HN.out]; exact hlt)])
    have HSI := Lib.hid (show stepI ns i = i + 1 by rw [stepI, if_pos (by rw [← HN.out]; exact hlt)])
    clear hcl
    generalize ns.getD i 0 = x at hcx hxx HSX
    go_enter Try.func63, Try.ntmps63
    go_wp2
    generalize hH : wrap64 (wrap64 (h * 6364136223846793005) + 1442695040888963407) = H
    have HH := Lib.hid (show nextH h = H from hH)
    clear hH
    go_quiet (fail)
    rw [(mix_eq H).1]
    have hm := (mix_eq H).2
    rw [HH.out] at HSX
    generalize mixB H = X at hm HSX
    go_wp2
    go_quiet (fail)
    go_wp2
    go_quiet (fail)
    go_wp2
    go_ret
    rw [HSX.out, HSI.out, HH.out]
    obtain rfl := HN.out
    exact ⟨ret_byte X x hm hxx, cur_a HIC.out hlt _⟩
  · have HSX := Lib.hid (show stepX ns i h = mixB (nextH h) by rw [stepX, if_neg (by rw [← HN.out]; exact hlt)])
    have HSI := Lib.hid (show stepI ns i = i by rw [stepI, if_neg (by rw [← HN.out]; exact hlt)])
    go_enter Try.func63, Try.ntmps63
    go_wp2
    generalize hH : wrap64 (wrap64 (h * 6364136223846793005) + 1442695040888963407) = H
    have HH := Lib.hid (show nextH h = H from hH)
    clear hH
    go_quiet (fail)
    rw [(mix_eq H).1]
    have hm := (mix_eq H).2
    rw [HH.out] at HSX
    generalize mixB H = X at hm HSX
    go_wp2
    go_quiet (fail)
    go_wp2
    go_ret
    rw [HSX.out, HSI.out, HH.out]
    obtain rfl := HN.out
    exact ⟨rfl, cur_b HIC.out _ _⟩
end Go.Proofs.Ytgapjdkelkmdgaa.Cur

-- YtgapjdkelkmdgaaCurTwo
/- Contracts and plain facts that a law of this seat leans on. Conditions: as each theorem types them. -/
namespace Go.Proofs.Ytgapjdkelkmdgaa.Cur
open Go.ChangeShapes Go.WideShapes Go.ChangeAt Go.RowKit
set_option linter.unusedVariables false

theorem i64_and30 (n : Int) : bits .and .i64 n 1073741823 = n % 1073741824 := by
  have h30 : (BitVec.ofInt 64 1073741823).toNat = 2 ^ 30 - 1 := by decide
  have key : (BitVec.ofInt 64 n &&& BitVec.ofInt 64 1073741823).toNat = (n % ((2 ^ 64 : Nat) : Int)).toNat % 2 ^ 30 := by
    rw [BitVec.toNat_and, BitVec.toNat_ofInt, h30, Nat.and_two_pow_sub_one_eq_mod]
  show IntKind.i64.wrap ((BitVec.ofInt 64 n &&& BitVec.ofInt 64 1073741823).toNat : Nat) = n % 1073741824
  rw [key, IntKind.wrap_i64]
  omega
/-- The seed number behind k bytes. -/
def seedH (ns : List Nat) : Nat → Nat
  | 0 => 1263 + ns.length
  | k + 1 => (seedH ns k * 73 + ns.getD k 0 + 7) % 1073741824
def newH (ns : List Nat) : Nat := seedH ns (min ns.length 4000)
theorem seedH_le (ns : List Nat) (h : ns.length ≤ 1048576) (k : Nat) : seedH ns k ≤ 1073741824 := by
  cases k with
  | zero => simp only [seedH]; omega
  | succ k => simp only [seedH]; omega
theorem cur_new {w : World} {cv : Value} {ns : List Nat} (hc : CodeIn w w.heap.size cv ns) (h : Int) : IsCur (w.alloc (.cells #[cv, .int .i64 0, .int .i64 h] 126)) w.heap.size w.heap.size cv ns 0 h := by
  refine ⟨Nat.le_refl _, code_kept hc (fun k hk => Below.heap_alloc _ _ _ hk), Nat.zero_le _, ?_⟩
  exact (MapKept.heap_alloc w _).1

set_option maxHeartbeats 400000 in
set_option maxRecDepth 100000 in
theorem new_any (w : World) (cv : Value) (ns : List Nat) (hc : CodeIn w w.heap.size cv ns) :
    Calls Try.prog 52 #[cv] w fun e w' => e = .returned (.pointer (some ⟨w.heap.size, 0, none⟩)) ∧ IsCur w' w.heap.size w.heap.size cv ns 0 (newH ns) ∧ Below w.heap.size w w' ∧ w.heap.size < w'.heap.size := by
  have HCC := Lib.hid hc
  obtain ⟨a, cap, rfl, hn, hx, hcells⟩ := hc
  have HX := Lib.hid hx
  have HC := Lib.hid hcells
  have HS := Lib.hid (seedH_le ns hn)
  clear hx hcells
  obtain ⟨n, hN⟩ : ∃ n, n = ns.length := ⟨_, rfl⟩
  rw [← hN] at hn ⊢
  have HN := Lib.hid hN
  clear hN
  have hcase : n = 0 ∨ ∃ b o, a = some ⟨b, o, none⟩ ∧ ∀ j, j < n → w.cell? ⟨b, o + j, none⟩ = some (.int .u8 (ns.getD j 0 : Nat)) := by
    by_cases h0 : n = 0
    · exact .inl h0
    · obtain ⟨b, o, h1, _, h2⟩ := HC.out (by rw [← HN.out]; omega)
      exact .inr ⟨b, o, h1, fun j hj => h2 j (by rw [← HN.out]; exact hj)⟩
  rcases hcase with h0 | ⟨b, o, rfl, hcl⟩
  · subst h0
    go_enter Try.func52, Try.ntmps52
    go_wp2
    refine wp_loop_rounds 1 ?_
    rw [rounds_succ]
    go_wp2
    go_ret
    have hz : ns.length = 0 := HN.out.symm
    have e : (newH ns : Int) = 1263 := by rw [newH, hz]; simp [seedH, hz]
    have hcn := cur_new HCC.out 1263
    rw [e]
    rw [hz] at hcn
    exact ⟨rfl, hcn, (Below.refl _ _).alloc (Nat.le_refl _) _, by simp⟩
  · have HCL := Lib.hid hcl
    clear hcl
    go_enter Try.func52, Try.ntmps52
    go_wp2
    go_loop [3, 4] (fun hv iv => ∃ k s : Nat, k ≤ n ∧ k ≤ 4000 ∧ iv = .int .i64 k ∧ hv = .int .i64 s ∧ s = seedH ns k) (fun _ iv => n - (intOf iv).toNat)
    case atStart => exact ⟨0, 1263 + n, Nat.zero_le _, Nat.zero_le _, rfl, by go_num, by rw [seedH, HN.out]⟩
    case round =>
      obtain ⟨k, s, hk, hk4, rfl, rfl, hs⟩ := hrel
      have hsl := HS.out k
      rw [← hs] at hsl
      have HSD := Lib.hid hs
      clear hs
      by_cases hlt : k < n
      · by_cases h4 : k < 4000
        · have g1 := HCL.out k hlt
          have hxx : ns.getD k 0 ≤ 255 := by
            have hl : k < ns.length := by rw [← HN.out]; exact hlt
            rw [List.getD_eq_getElem?_getD, List.getElem?_eq_getElem hl]
            exact HX.out _ (List.getElem_mem hl)
          have HSN := Lib.hid (show seedH ns (k + 1) = (s * 73 + ns.getD k 0 + 7) % 1073741824 by rw [seedH, ← HSD.out])
          generalize ns.getD k 0 = x at g1 hxx HSN
          go_wp2
          rw [i64_and30]
          go_round
          case rel => exact ⟨k + 1, (s * 73 + x + 7) % 1073741824, by omega, by omega, by go_num, by go_num, HSN.out.symm⟩
          case measure => simp [intOf]; omega
        · have hnh := Lib.hid (show s = newH ns by rw [newH, ← HN.out, show min n 4000 = k by omega]; exact HSD.out)
          go_wp2
          go_ret
          have hcn := cur_new HCC.out s
          rw [← hnh.out]
          rw [← HN.out] at hcn
          exact ⟨rfl, hcn, (Below.refl _ _).alloc (Nat.le_refl _) _, by simp⟩
      · have hnh := Lib.hid (show s = newH ns by rw [newH, ← HN.out, show min n 4000 = k by omega]; exact HSD.out)
        go_wp2
        go_ret
        have hcn := cur_new HCC.out s
        rw [← hnh.out]
        rw [← HN.out] at hcn
        exact ⟨rfl, hcn, (Below.refl _ _).alloc (Nat.le_refl _) _, by simp⟩

/-- The state behind m steps. -/
def after (ns : List Nat) (i : Nat) (h : Int) : Nat → Nat × Int
  | 0 => (i, h)
  | m + 1 => (stepI ns (after ns i h m).1, nextH (after ns i h m).2)
theorem below_at {w W w' : World} {g : Nat} (hb : Below w.heap.size w W) (hlt : w.heap.size ≤ g) (hg : W.grownBy w' (some g)) : Below w.heap.size w w' :=
  hb.grown hg hb.size (fun k hk => by cases hk; exact hlt)
theorem cur_i64 {w : World} {B g : Nat} {cv : Value} {ns : List Nat} {i : Nat} {h : Int} (hc : IsCur w B g cv ns i h) : g < w.heap.size := (Array.getElem?_eq_some_iff.1 hc.2.2.2).1

set_option maxRecDepth 100000 in
set_option maxHeartbeats 400000 in
/-- A number from 0 up to n (1 to 256). -/
theorem below_any (w : World) (B g : Nat) (cv : Value) (ns : List Nat) (i : Nat) (h : Int) (m : Nat) (hm1 : 1 ≤ m) (hm2 : m ≤ 256) (hc : IsCur w B g cv ns i h) :
    Calls Try.prog 111 #[.pointer (some ⟨g, 0, none⟩), .int .i64 m] w fun e w' => e = .returned (.int .i64 (stepX ns i h % m : Nat)) ∧ IsCur w' B g cv ns (stepI ns i) (nextH h) ∧ w.grownBy w' (some g) := by
  have H1 := Lib.hid (byte_any w B g cv ns i h hc)
  clear hc
  have hx := stepX_le ns i h
  generalize stepX ns i h = x at H1 hx ⊢
  have hm0 : ¬ m = 0 := by omega
  go_enter Try.func111, Try.ntmps111
  go_wp2_with fail
  refine H1.out.mono ?_
  rintro e w1 ⟨rfl, hc1, hg1⟩
  go_wp2
  go_ret
  exact ⟨by congr 1, hc1, hg1⟩

set_option maxRecDepth 100000 in
set_option maxHeartbeats 400000 in
/-- A new cursor, moved on by m bytes. -/
theorem moved_any (w : World) (cv : Value) (ns : List Nat) (m : Nat) (hm : m ≤ 1000000) (hc : CodeIn w w.heap.size cv ns) :
    Calls Try.prog 54 #[cv, .int .i64 m] w fun e w' => e = .returned (.pointer (some ⟨w.heap.size, 0, none⟩)) ∧ IsCur w' w.heap.size w.heap.size cv ns (after ns 0 (newH ns) m).1 (after ns 0 (newH ns) m).2 ∧ Below w.heap.size w w' := by
  have H1 := Lib.hid (new_any w cv ns hc)
  clear hc
  go_enter Try.func54, Try.ntmps54
  go_wp2_with fail
  refine H1.out.mono ?_
  rintro e w1 ⟨rfl, hc1, hb1, _⟩
  have HC1 := Lib.hid hc1
  have HB1 := Lib.hid hb1
  clear hc1 hb1
  go_wp2_with fail
  go_loopw [6] (fun iv wr => ∃ k : Nat, k ≤ m ∧ iv = .int .i64 k ∧ IsCur wr w.heap.size w.heap.size cv ns (after ns 0 (newH ns) k).1 (after ns 0 (newH ns) k).2 ∧ Below w.heap.size w wr) (fun iv _ => m - (intOf iv).toNat)
  case atStart => exact ⟨0, Nat.zero_le _, rfl, HC1.out, HB1.out⟩
  case round =>
    obtain ⟨k, hk, rfl, hc, hb⟩ := hrel
    have HC := Lib.hid hc
    have HB := Lib.hid hb
    clear hc hb
    by_cases hlt : k < m
    · go_wp2_with fail
      refine (byte_any _ _ _ _ _ _ _ HC.out).mono ?_
      rintro e w2 ⟨rfl, hc2, hg2⟩
      have HC2 := Lib.hid hc2
      have HB2 := Lib.hid (below_at HB.out (Nat.le_refl _) hg2)
      clear hc2 hg2
      go_wp2
      go_roundw
      case rel => exact ⟨k + 1, by omega, by go_num, HC2.out, HB2.out⟩
      case measure => simp [intOf]; omega
    · obtain rfl : k = m := by omega
      go_wp2_with fail
      go_ret
      exact ⟨rfl, HC.out, HB.out⟩

end Go.Proofs.Ytgapjdkelkmdgaa.Cur

-- YtgapjdkelkmdgaaMake
/- Contracts and plain facts that a law of this seat leans on. Conditions: as each theorem types them. -/
namespace Go.Proofs.Ytgapjdkelkmdgaa.Make
open Go.ChangeShapes Go.WideShapes Go.ChangeAt Go.RowKit
open Cur (CodeIn IsCur stepX stepX_le stepI nextH after newH moved_any byte_any below_at new_any below_any cur_i64 code_kept)
set_option linter.unusedVariables false

set_option maxRecDepth 100000 in
set_option maxHeartbeats 400000 in
/-- A number from 0 up to 65535. -/
theorem num_any (w : World) (cv : Value) (ns : List Nat) (m : Nat) (hm : m ≤ 1000000) (hc : CodeIn w w.heap.size cv ns) :
    Calls Try.prog 17 #[cv, .int .i64 m] w fun e w' => ∃ n : Nat, n ≤ 65535 ∧ e = .returned (.int .i64 n) ∧ Below w.heap.size w w' := by
  have H1 := Lib.hid (moved_any w cv ns m hm hc)
  clear hc
  go_enter Try.func17, Try.ntmps17
  go_wp2_with fail
  refine H1.out.mono ?_
  rintro e w1 ⟨rfl, hc1, hb1⟩
  have HC1 := Lib.hid hc1
  have HB1 := Lib.hid hb1
  clear hc1 hb1
  generalize (after ns 0 (newH ns) m).1 = i at HC1
  generalize (after ns 0 (newH ns) m).2 = h at HC1
  go_wp2_with fail
  refine (byte_any _ _ _ _ _ _ _ HC1.out).mono ?_
  rintro e w2 ⟨rfl, hc2, hg2⟩
  have HC2 := Lib.hid hc2
  have HB2 := Lib.hid (below_at HB1.out (Nat.le_refl _) hg2)
  have hx := stepX_le ns i h
  clear hc2 hg2
  generalize stepX ns i h = x at hx ⊢
  go_wp2_with fail
  refine (byte_any _ _ _ _ _ _ _ HC2.out).mono ?_
  rintro e w3 ⟨rfl, hc3, hg3⟩
  have HB3 := Lib.hid (below_at HB2.out (Nat.le_refl _) hg3)
  have hy := stepX_le ns (stepI ns i) (nextH h)
  clear hc3 hg3
  generalize stepX ns (stepI ns i) (nextH h) = y at hy ⊢
  go_wp2
  go_ret
  exact ⟨x * 256 + y, by omega, by go_num, HB3.out⟩

theorem cur_alloc {w : World} {B g : Nat} {cv : Value} {ns : List Nat} {i : Nat} {h : Int} (hc : IsCur w B g cv ns i h) (o : Obj) : IsCur (w.alloc o) B g cv ns i h := by
  have hlt := cur_i64 hc
  obtain ⟨hB, hcode, hi, hb⟩ := hc
  exact ⟨hB, code_kept hcode (fun k hk => Below.heap_alloc _ _ _ (by omega)), hi, (Below.heap_alloc w o g hlt).trans hb⟩
def words : List ByteArray := [⟨#[97]⟩, ⟨#[98, 99]⟩, ⟨#[32]⟩, ⟨#[44]⟩, ⟨#[120, 49]⟩]
theorem words_cell (w : World) (T : TypeId) (j : Nat) (hj : j < 5) : (w.alloc (.cells #[.string ⟨#[97]⟩, .string ⟨#[98, 99]⟩, .string ⟨#[32]⟩, .string ⟨#[44]⟩, .string ⟨#[120, 49]⟩] T)).cell? ⟨w.heap.size, j, none⟩ = some (.string (words.getD j ⟨#[]⟩)) := by
  rw [World.cell?_alloc_at _ _ _ _ rfl]
  match j, hj with
  | 0, _ => rfl
  | 1, _ => rfl
  | 2, _ => rfl
  | 3, _ => rfl
  | 4, _ => rfl
theorem words_size (j : Nat) (hj : j < 5) : (words.getD j ⟨#[]⟩).size ≤ 2 := by
  match j, hj with
  | 0, _ => decide
  | 1, _ => decide
  | 2, _ => decide
  | 3, _ => decide
  | 4, _ => decide

end Go.Proofs.Ytgapjdkelkmdgaa.Make

-- YtgapjdkelkmdgaaMakeBytes
/- Contracts and plain facts that a law of this seat leans on. Conditions: as each theorem types them. -/
namespace Go.Proofs.Ytgapjdkelkmdgaa.MakeBytes
open Go.ChangeShapes Go.WideShapes Go.ChangeAt Go.RowKit
open Cur (CodeIn IsCur stepX stepX_le stepI nextH after newH moved_any byte_any below_at new_any below_any cur_i64 code_kept)
open RowG (cellsB cellsB_append cellsB_length back_own byteInfo)
open SplitAny (own_fresh own_nil)
set_option linter.unusedVariables false

set_option maxRecDepth 100000 in
set_option maxHeartbeats 400000 in
/-- One of a list of ints. -/
theorem pick_any (w : World) (B g : Nat) (cv : Value) (ns : List Nat) (i : Nat) (h : Int) (b cap : Nat) (xs : List Int) (hm1 : 1 ≤ xs.length) (hm2 : xs.length ≤ 256) (hbg : b ≠ g)
    (hcell : ∀ j, j < xs.length → w.cell? ⟨b, j, none⟩ = some (.int .i64 (xs.getD j 0))) (hc : IsCur w B g cv ns i h) :
    Calls Try.prog 129 #[.pointer (some ⟨g, 0, none⟩), .slice (some ⟨b, 0, none⟩) xs.length cap] w fun e w' => e = .returned (.int .i64 (xs.getD (stepX ns i h % xs.length) 0)) ∧ IsCur w' B g cv ns (stepI ns i) (nextH h) ∧ w.grownBy w' (some g) := by
  have H1 := Lib.hid (below_any w B g cv ns i h xs.length hm1 hm2 hc)
  have hr : stepX ns i h % xs.length < xs.length := Nat.mod_lt _ (by omega)
  have hcx := hcell _ hr
  have hbw : b < w.heap.size := by
    simp only [World.cell?] at hcx
    split at hcx
    · rename_i heq; exact (Array.getElem?_eq_some_iff.1 heq).1
    · cases hcx
  have HCX := Lib.hid hcx
  clear hc hcell hcx
  generalize xs.getD (stepX ns i h % xs.length) 0 = s at HCX ⊢
  generalize stepX ns i h % xs.length = r at hr H1 HCX
  generalize xs.length = m at hr hm1 hm2 H1 ⊢
  go_enter Try.func129, Try.ntmps129
  go_wp2_with fail
  refine H1.out.mono ?_
  rintro e w1 ⟨rfl, hc1, hg1⟩
  have g1 : w1.cell? ⟨b, r, none⟩ = some (.int .i64 s) := hg1.cell HCX.out (by simpa using hbg)
  have HC1 := Lib.hid hc1
  have HG1 := Lib.hid hg1
  clear hc1 hg1
  go_wp2
  go_ret
  exact ⟨rfl, HC1.out, HG1.out⟩

theorem cur_kept {w w' : World} {B g : Nat} {cv : Value} {ns : List Nat} {i : Nat} {h : Int} (hc : IsCur w B g cv ns i h) (hk : ∀ k, k ≤ g → w'.heap[k]? = w.heap[k]?) : IsCur w' B g cv ns i h := by
  obtain ⟨hB, hcode, hi, hb⟩ := hc
  exact ⟨hB, code_kept hcode (fun k hlt => hk k (by omega)), hi, (hk g (Nat.le_refl _)).trans hb⟩
def six (x : Nat) : List Int := [0, 1, 65, 97, 255, (x : Int)]
theorem six_bd (x : Nat) (hx : x ≤ 255) (j : Nat) (hj : j < 6) : ∃ m : Nat, m ≤ 255 ∧ (six x).getD j 0 = (m : Int) := by
  rcases (show j = 0 ∨ j = 1 ∨ j = 2 ∨ j = 3 ∨ j = 4 ∨ j = 5 from by omega) with rfl | rfl | rfl | rfl | rfl | rfl
  · exact ⟨0, by omega, rfl⟩
  · exact ⟨1, by omega, rfl⟩
  · exact ⟨65, by omega, rfl⟩
  · exact ⟨97, by omega, rfl⟩
  · exact ⟨255, by omega, rfl⟩
  · exact ⟨x, hx, rfl⟩
theorem six_cell (w : World) (T : TypeId) (x : Nat) (j : Nat) (hj : j < 6) : (w.alloc (.cells #[.int .i64 0, .int .i64 1, .int .i64 65, .int .i64 97, .int .i64 255, .int .i64 x] T)).cell? ⟨w.heap.size, j, none⟩ = some (.int .i64 ((six x).getD j 0)) := by
  rw [World.cell?_alloc_at _ _ _ _ rfl]
  rcases (show j = 0 ∨ j = 1 ∨ j = 2 ∨ j = 3 ∨ j = 4 ∨ j = 5 from by omega) with rfl | rfl | rfl | rfl | rfl | rfl
  all_goals rfl
theorem byte_cell (m : Nat) (h : m ≤ 255) : Value.int .u8 (m : Int) = .int .u8 ((UInt8.ofNat m).toNat : Int) := by
  rw [UInt8.toNat_ofNat', Nat.mod_eq_of_lt (by omega)]
/-- What a round leaves: the row one byte longer, the cursor where it was, nothing else turned. -/
theorem round_next {w w2 w1 : World} {B g : Nat} {cv : Value} {ns : List Nat} {i : Nat} {h : Int} {v v' : Value} {xs : List UInt8} {m : Nat} {o : Obj} (hlt : g < w.heap.size) (hm : m ≤ 255)
    (hown : w2.ownsRow w.heap.size 5 1 v xs.length (cellsB xs)) (hc : IsCur w2 B g cv ns i h) (hg : w.grownBy w2 (some g)) (hown1 : w1.ownsRow w.heap.size 5 1 v' (xs.length + 1) (cellsB xs ++ [.int .u8 (m : Int)])) (hg1 : (w2.alloc o).grownBy w1 v.ownBlock) :
    w1.ownsRow w.heap.size 5 1 v' (xs ++ [UInt8.ofNat m]).length (cellsB (xs ++ [UInt8.ofNat m])) ∧ IsCur w1 B g cv ns i h ∧ w.grownBy w1 (some g) := by
  have hgl := cur_i64 hc
  have hsz := hg.size
  have hne : ∀ k, k < w.heap.size → some k ≠ v.ownBlock := fun k hk e => by have := (hown.lt k e.symm).1; omega
  have hblk : ∀ k, k < w.heap.size → w1.heap[k]? = w2.heap[k]? := fun k hk => by
    rw [hg1.block k (by simp; omega) (hne k hk)]
    exact Below.heap_alloc _ _ _ (by omega)
  refine ⟨?_, cur_kept hc (fun k hk => hblk k (by omega)), ?_⟩
  · rw [cellsB_append, List.length_append]
    rw [byte_cell m hm] at hown1
    exact hown1
  · exact ⟨hg1.os.trans hg.os, hg1.tape.trans hg.tape, hg1.output.trans hg.output, by have := hg1.size; simp at this; omega, fun k hk hk2 => (hblk k hk).trans (hg.block k hk hk2)⟩
theorem grow_two {w a b : World} {g : Nat} (h1 : w.grownBy a (some g)) (h2 : a.grownBy b (some g)) : w.grownBy b (some g) :=
  ⟨h2.os.trans h1.os, h2.tape.trans h1.tape, h2.output.trans h1.output, Nat.le_trans h1.size h2.size, fun k hk hne => (h2.block k (Nat.lt_of_lt_of_le hk h1.size) hne).trans (h1.block k hk hne)⟩
theorem grow_alloc {w a : World} {g : Nat} (h1 : w.grownBy a (some g)) (o : Obj) : w.grownBy (a.alloc o) (some g) :=
  ⟨h1.os, h1.tape, h1.output, by have := h1.size; simp; omega, fun k hk hne => (Below.heap_alloc _ _ _ (Nat.lt_of_lt_of_le hk h1.size)).trans (h1.block k hk hne)⟩
theorem own_cur {w a : World} {base g n : Nat} {v : Value} {xs : List Value} {e : TypeId} (h : w.ownsRow base e 1 v n xs) (hlt : g < base) (hg : w.grownBy a (some g)) : a.ownsRow base e 1 v n xs := by
  refine h.kept hg (.inr fun e => ?_)
  have := (h.lt g e).1
  omega

set_option maxRecDepth 100000 in
set_option maxHeartbeats 1000000 in
/-- Some bytes: at most 'most'. -/
theorem bytes_any (w : World) (B g : Nat) (cv : Value) (ns : List Nat) (i : Nat) (h : Int) (most : Nat) (hm : most ≤ 255) (hc : IsCur w B g cv ns i h) :
    Calls Try.prog 118 #[.pointer (some ⟨g, 0, none⟩), .int .i64 most] w fun e w' => ∃ (s : ByteArray) (i' : Nat) (h' : Int), s.size ≤ most ∧ e = .returned (.string s) ∧ IsCur w' B g cv ns i' h' ∧ w.grownBy w' (some g) := by
  obtain ⟨i0, hi, hz0, hz1, hz2⟩ := info_parts byteInfo
  have HC := Lib.hid hc
  have hgl := cur_i64 hc
  clear hc
  go_enter Try.func118, Try.ntmps118
  go_wp2_with fail
  rw [show ((most : Int) + 1) = ((most + 1 : Nat) : Int) from by omega]
  refine (below_any _ _ _ _ _ _ _ (most + 1) (by omega) (by omega) (Make.cur_alloc HC.out _)).mono ?_
  rintro e w2 ⟨rfl, hc2, hg2⟩
  have HC2 := Lib.hid hc2
  have HO2 := Lib.hid (own_cur (own_fresh w 5) hgl hg2)
  have HG2 := Lib.hid (grow_two (grow_alloc (World.grownBy.refl w (some g)) _) hg2)
  have hx : stepX ns i h % (most + 1) < most + 1 := Nat.mod_lt _ (by omega)
  clear hc2 hg2
  generalize stepX ns i h % (most + 1) = x at hx ⊢
  go_wp2_with fail
  go_loopw [5, 6] (fun v nv wr => ∃ (n : Nat) (xs : List UInt8) (i : Nat) (h : Int), nv = .int .i64 n ∧ n ≤ most ∧ xs.length + n ≤ most ∧ wr.ownsRow w.heap.size 5 1 v xs.length (cellsB xs) ∧ IsCur wr B g cv ns i h ∧ w.grownBy wr (some g)) (fun _ nv _ => (intOf nv).toNat)
  case atStart => exact ⟨x, [], _, _, rfl, by omega, by simp; omega, HO2.out, HC2.out, HG2.out⟩
  case round =>
    clear HO2 HC2 HG2 HC
    obtain ⟨n, xs, i, h, rfl, hn, hxs, hown, hc, hg⟩ := hrel
    have HC := Lib.hid hc
    have HOWN := Lib.hid hown
    have HG := Lib.hid hg
    have hgr := cur_i64 hc
    clear hc hown hg
    by_cases h0 : 0 < n
    · go_wp2_with fail
      refine (byte_any _ _ _ _ _ _ _ HC.out).mono ?_
      rintro e w3 ⟨rfl, hc3, hg3⟩
      have HC3 := Lib.hid hc3
      have HO3 := Lib.hid (own_cur HOWN.out hgl hg3)
      have HG3 := Lib.hid (grow_two HG.out hg3)
      have hgl3 := cur_i64 hc3
      have hx := stepX_le ns i h
      clear hc3 hg3
      generalize stepX ns i h = x at hx ⊢
      go_wp2_with fail
      refine (pick_any _ _ _ _ _ _ _ w3.heap.size 6 (six x) (by simp [six]) (by simp [six]) (by omega) (fun j hj => six_cell w3 _ x j hj) (Make.cur_alloc HC3.out _)).mono ?_
      rintro e w4 ⟨rfl, hc4, hg4⟩
      have HC4 := Lib.hid hc4
      have HO4 := Lib.hid (own_cur (HO3.out.alloc _) hgl hg4)
      have HG4 := Lib.hid (grow_two (grow_alloc HG3.out _) hg4)
      have hgl4 := HG4.out.size
      obtain ⟨m, hm255, hme⟩ := six_bd x hx (stepX ns (stepI ns i) (nextH h) % (six x).length) (Nat.mod_lt _ (by simp [six]))
      clear hc4 hg4
      rw [hme]
      clear hme
      have hu : IntKind.u8.wrap (m : Int) = (m : Int) := by rw [IntKind.wrap_u8']; omega
      go_wp2_with (first | (at_builtin; refine wpList_append_own _ rfl _ _ 22 rfl w.heap.size 5 i0 (.int .u8 0) 1 1 Try.underlying22 hi hz0 hz1 hz2 rfl (by decide) _ _ _ rfl (HO4.out.alloc _) ⟨w4.heap.size, 0, none⟩ 1 1 [.int .u8 (m : Int)] rfl rfl ?c1 ?c2 ?c3 ?c4 ?c5 ?_))
      case c1 => exact cell_one_new _ _ _
      case c2 => simp [Value.oneCell']
      case c3 => unfold maxLen; omega
      case c4 => omega
      case c5 => simp; omega
      intro v' w5 hown5 hg5 _
      have HR := Lib.hid (round_next hgl hm255 HO4.out HC4.out HG4.out hown5 hg5)
      clear hown5 hg5
      go_wp2_with fail
      go_roundw
      case rel => exact ⟨n - 1, xs ++ [UInt8.ofNat m], _, _, by go_num, by omega, by simp; omega, HR.out⟩
      case measure => simp [intOf]; omega
    · have hbk := back_own HOWN.out
      go_wp2_with fail
      go_ret
      exact ⟨_, _, _, by simp [ByteArray.size]; omega, rfl, HC.out, HG.out⟩

end Go.Proofs.Ytgapjdkelkmdgaa.MakeBytes

-- YtgapjdkelkmdgaaNewDisk
/- Contract: the model's NewDisk gives n sectors of zeros in memory of its own, nothing for a number beyond the limits. No condition. -/
namespace Go.Proofs.Ytgapjdkelkmdgaa.NewD
open Go.ChangeShapes Go.WideShapes Go.ChangeAt Go.RowKit
open Wr (Wt wcells d0)
open Strs (strInfo)
open Dk (D Holds Ok Own RowIn Box Turned)
set_option linter.unusedVariables false

/-- A sector of zeros. -/
def zs : ByteArray := PadTo.padB ⟨#[]⟩ 32
def newV (n : Int) : D := if 0 ≤ n ∧ n ≤ 400 then (List.replicate n.toNat zs, []) else ([], [])
/-- How many sectors the disk in block b has. -/
def lenAt (w : World) (b : Nat) : Nat := match w.cell? ⟨b, 0, none⟩ with | some (.slice _ l _) => l | _ => 0

theorem rep_step {w : World} {base k : Nat} {v : Value} (h : w.ownsRow base 9 1 v (k + 1) ((List.replicate k zs).map Value.string ++ [.string zs])) : w.ownsRow base 9 1 v (k + 1) ((List.replicate (k + 1) zs).map Value.string) := by
  rw [List.replicate_succ', List.map_append]
  exact h

set_option maxRecDepth 100000 in
set_option maxHeartbeats 2000000 in
theorem spec_any (n : Int) (w : World) :
    Calls Try.prog 105 #[.int .i64 n] w fun e w' => ∃ us up, e = .returned (.agg #[us, up]) ∧ Own w' w.heap.size w'.heap.size us up (newV n) ∧ Below w.heap.size w w' := by
  obtain ⟨i0, hi, hz0, hz1, hz2⟩ := info_parts strInfo
  have hb1 := Joins.below_alloc1 w (.cells #[.slice none 0 0, .slice none 0 0] 26)
  have hb2 := hb1.alloc (by simp) (.cells #[.slice none 0 0, .slice none 0 0] 26)
  have bR := Lib.hid (show Box ((w.alloc (.cells #[.slice none 0 0, .slice none 0 0] 26)).alloc (.cells #[.slice none 0 0, .slice none 0 0] 26)) w.heap.size (.slice none 0 0) (.slice none 0 0) 26 from Dk.blk_alloc (Dk.blk_new w _) _)
  have bDs := Dk.blk_new (w.alloc (.cells #[.slice none 0 0, .slice none 0 0] 26)) (.cells #[.slice none 0 0, .slice none 0 0] 26)
  rw [World.size_alloc] at bDs
  have bD := Lib.hid (show Box ((w.alloc (.cells #[.slice none 0 0, .slice none 0 0] 26)).alloc (.cells #[.slice none 0 0, .slice none 0 0] 26)) (w.heap.size + 1) (.slice none 0 0) (.slice none 0 0) 26 from bDs)
  have hsz : ((w.alloc (.cells #[.slice none 0 0, .slice none 0 0] 26)).alloc (.cells #[.slice none 0 0, .slice none 0 0] 26)).heap.size = w.heap.size + 1 + 1 := by simp
  have HB := Lib.hid hb2
  clear hb1 hb2 bDs
  by_cases hn : 0 ≤ n ∧ n ≤ 400
  · rw [show newV n = (List.replicate n.toNat zs, []) from if_pos hn]
    obtain ⟨m, rfl⟩ : ∃ m : Nat, n = m := ⟨n.toNat, by omega⟩
    have hm : m ≤ 400 := by omega
    have HI := Lib.hid (show decide (0 ≤ (m : Int) ∧ (m : Int) ≤ 400) = true from decide_eq_true hn)
    rw [Int.toNat_natCast]
    clear hn
    go_enter Try.func105, Try.ntmps105
    go_wp2_with fail
    refine (IsDisk.in_any (m : Int) 0 400 _).mono ?_
    rw [HI.out]
    rintro e w1 ⟨rfl, rfl⟩
    generalize ((w.alloc (.cells #[.slice none 0 0, .slice none 0 0] 26)).alloc (.cells #[.slice none 0 0, .slice none 0 0] 26)) = w0 at bR bD hsz HB ⊢
    go_wp2_with fail
    go_loopw [] (fun wr => ∃ (k : Nat) (v : Value), k ≤ m ∧ Box wr w.heap.size (.slice none 0 0) (.slice none 0 0) 26 ∧ Box wr (w.heap.size + 1) v (.slice none 0 0) 26 ∧ wr.ownsRow (w.heap.size + 1 + 1) 9 1 v k ((List.replicate k zs).map Value.string) ∧ Below w.heap.size w wr ∧ w.heap.size + 1 + 1 ≤ wr.heap.size) (fun wr => m - lenAt wr (w.heap.size + 1))
    case atStart => exact ⟨0, .slice none 0 0, Nat.zero_le _, bR.out, bD.out, World.ownsRow_nil _ _ _ _, HB.out, by omega⟩
    case round =>
      clear bR bD HB
      obtain ⟨k, v, hk, bR, bD, hown, hB, hs⟩ := hrel
      have HB := Lib.hid hB
      have BR := Lib.hid bR
      have BD := Lib.hid bD
      have HO := Lib.hid hown
      have HLEN := Lib.hid (show lenAt wr (w.heap.size + 1) = k by
        obtain ⟨a, c, rfl⟩ := Dk.slice_of hown
        unfold lenAt
        rw [bD.cells.1])
      obtain ⟨a, c, rfl⟩ := Dk.slice_of hown
      obtain ⟨x0, x1, x2, x3⟩ := Dk.Box.four bD
      clear bR bD hown hB
      by_cases hlt : k < m
      · go_wp2
        go_region_law (first | (go_simp; go_at_call 90; refine (PadTo.spec_any ⟨#[]⟩ 32 _ (by decide)).mono ?_; rintro e w2 ⟨rfl, hb⟩; have s2 := hb.size; simp only [World.size_drew] at s2; replace HB := Lib.hid (HB.out.drew.trans (hb.mono HB.out.drew.size)); replace BR := Lib.hid (Dk.Box.below (show Box wr.drew _ _ _ _ from BR.out) hb); replace BD := Lib.hid (Dk.Box.below (show Box wr.drew _ _ _ _ from BD.out) hb); replace HO := Lib.hid (Strs.own_below (show wr.drew.ownsRow _ _ _ _ _ _ from HO.out) hb); clear hb; obtain ⟨z0, z1, z2, z3⟩ := Dk.Box.four BD.out; have z9 := (Dk.Box.cells (show Box (w2.alloc (.cells #[.string (PadTo.padB ⟨#[]⟩ 32)] 9)) (w.heap.size + 1) _ _ _ from Dk.blk_alloc BD.out _)).1) | (refine HexOf.step_append_own rfl _ _ 23 rfl (w.heap.size + 1 + 1) 9 i0 (.string ⟨#[]⟩) 1 16 Try.underlying23 hi hz0 hz1 hz2 rfl (by decide) _ _ _ rfl (World.ownsRow.alloc HO.out _) ⟨w2.heap.size, 0, none⟩ 1 1 [.string (PadTo.padB ⟨#[]⟩ 32)] rfl rfl (cell_one_new _ _ _) (by simp [Value.oneCell']) (by unfold maxLen; omega) (by omega) (by simp; omega) ?_; intro v' w1 hown1 hg1 _; obtain ⟨a', c', rfl⟩ := Dk.slice_of hown1; have HO1 := Lib.hid (rep_step hown1); have s1 := hg1.size; simp only [World.size_alloc] at s1; have ht := Turned.of_grown (lo := w.heap.size + 1 + 1) (hi := w1.heap.size) hg1 (fun q hq => ⟨by have := (HO.out.lt q hq).1; omega, by have := (HO.out.lt q hq).2; omega⟩); replace HB := Lib.hid ((HB.out.alloc (by omega) _).trans (ht.below (by omega) (by simp only [World.size_alloc]; omega))); replace BR := Lib.hid (Dk.Box.turned (Dk.blk_alloc BR.out _) ht (by omega)); replace BD := Lib.hid (Dk.Box.turned (Dk.blk_alloc BD.out _) ht (by omega)); clear hown1 hg1 ht; obtain ⟨q0, q1, q2, q3⟩ := Dk.Box.four BD.out))
        all_goals
          have hcs := World.cell?_setCell_same' w1 ⟨w.heap.size + 1, 0, none⟩ (.slice a' (k + 1) c') (by rw [q0]; rfl)
          have hst := Dk.Box.other (i := 0) (u := .slice a' (k + 1) c') (c := w.heap.size + 1) BR.out (by omega)
          have hst2 := Dk.Box.set0 (u := .slice a' (k + 1) c') BD.out
          have hrow := Dk.row_set (i := 0) (u := .slice a' (k + 1) c') HO1.out BD.out (by decide)
          have hBs := HB.out.setCell (p := ⟨w.heap.size + 1, 0, none⟩) (Nat.le_succ _) (.slice a' (k + 1) c')
          have hss : (w1.setCell ⟨w.heap.size + 1, 0, none⟩ (.slice a' (k + 1) c')).heap.size = w1.heap.size := World.size_setCell ..
          have hlen : lenAt (w1.setCell ⟨w.heap.size + 1, 0, none⟩ (.slice a' (k + 1) c')) (w.heap.size + 1) = k + 1 := by unfold lenAt; rw [hcs]
          generalize w1.setCell ⟨w.heap.size + 1, 0, none⟩ (.slice a' (k + 1) c') = w9 at hcs hst hst2 hrow hBs hss hlen ⊢
          go_wp2
          go_roundw
          case rel => exact ⟨k + 1, _, by omega, hst, hst2, hrow, hBs, by omega⟩
          case measure => rw [HLEN.out, hlen]; omega
      · obtain rfl : k = m := by omega
        obtain ⟨y0, y1, y2, y3⟩ := Dk.Box.four BR.out
        go_wp2
        have hO := (show Own wr (w.heap.size + 1 + 1) wr.heap.size (.slice a k c) (.slice none 0 0) (List.replicate k zs, []) from ⟨by rw [List.length_replicate]; exact RowIn.fresh HO.out, ⟨World.ownsRow_nil _ _ _ _, fun k hk => by cases hk⟩⟩)
        obtain ⟨hO', hF, hS⟩ := Dk.Own.into hO BR.out
        have hBB := Dk.below_into (b := w.heap.size) HB.out (Nat.le_refl _) (.slice a k c) (.slice none 0 0)
        generalize (wr.setCell ⟨w.heap.size, 0, none⟩ (.slice a k c)).setCell ⟨w.heap.size, 1, none⟩ (.slice none 0 0) = wf at hO' hF hS hBB ⊢
        obtain ⟨c0, c1, _, _⟩ := Dk.Box.four hF
        exact bodyPost_ret (v := .agg #[(.slice a k c), .slice none 0 0]) (by simp [results, Try.results105, go_sem, c0, c1]) rfl ⟨_, _, rfl, hO'.wide (by omega) (by rw [hS]; omega), hBB⟩
  · have HI := Lib.hid (show decide (0 ≤ n ∧ n ≤ 400) = false from decide_eq_false hn)
    rw [show newV n = ([], []) from if_neg hn]
    clear hn
    go_enter Try.func105, Try.ntmps105
    go_wp2_with fail
    refine (IsDisk.in_any n 0 400 _).mono ?_
    rw [HI.out]
    rintro e w1 ⟨rfl, rfl⟩
    generalize ((w.alloc (.cells #[.slice none 0 0, .slice none 0 0] 26)).alloc (.cells #[.slice none 0 0, .slice none 0 0] 26)) = w0 at bR bD hsz HB ⊢
    obtain ⟨x0, x1⟩ := bD.out.cells
    obtain ⟨y0, y1, y2, y3⟩ := bR.out.four
    go_wp2
    have hO := (show Own w0 w.heap.size w0.heap.size (.slice none 0 0) (.slice none 0 0) ([], []) from ⟨⟨World.ownsRow_nil _ _ _ _, fun k hk => by cases hk⟩, ⟨World.ownsRow_nil _ _ _ _, fun k hk => by cases hk⟩⟩)
    obtain ⟨hO', hF, hS⟩ := Dk.Own.into hO bR.out
    have hBB := Dk.below_into (b := w.heap.size) HB.out (Nat.le_refl _) (.slice none 0 0) (.slice none 0 0)
    generalize (w0.setCell ⟨w.heap.size, 0, none⟩ (.slice none 0 0)).setCell ⟨w.heap.size, 1, none⟩ (.slice none 0 0) = wf at hO' hF hS hBB ⊢
    obtain ⟨c0, c1, _, _⟩ := Dk.Box.four hF
    exact bodyPost_ret (v := .agg #[(.slice none 0 0), .slice none 0 0]) (by simp [results, Try.results105, go_sem, c0, c1]) rfl ⟨_, _, rfl, hO'.wide (by omega) (by rw [hS]; omega), hBB⟩
end Go.Proofs.Ytgapjdkelkmdgaa.NewD

-- YtgapjdkelkmdgaaDraw
/- Contracts and plain facts that a law of this seat leans on. Conditions: as each theorem types them. -/
namespace Go.Proofs.Ytgapjdkelkmdgaa.Draw
open Go.ChangeShapes Go.WideShapes Go.ChangeAt Go.RowKit
open Wr (Wt wcells d0)
open Dk (D Holds Ok Own RowIn Box Turned Fits)
open Cur
open MakeBytes (cur_kept bytes_any)
set_option linter.unusedVariables false

theorem grown_of {w w' : World} (h : Below w.heap.size w w') (row : Option Nat) : w.grownBy w' row := ⟨h.os, h.tape, h.output, h.size, fun k hk _ => h.block k hk⟩
theorem grown_trans {w a b : World} {row : Option Nat} (h1 : w.grownBy a row) (h2 : a.grownBy b row) : w.grownBy b row :=
  ⟨h2.os.trans h1.os, h2.tape.trans h1.tape, h2.output.trans h1.output, Nat.le_trans h1.size h2.size, fun k hk hn => (h2.block k (Nat.lt_of_lt_of_le hk h1.size) hn).trans (h1.block k hk hn)⟩
theorem cur_below {w w' : World} {B g : Nat} {cv : Value} {ns : List Nat} {i : Nat} {h : Int} (hc : IsCur w B g cv ns i h) (hb : Below w.heap.size w w') : IsCur w' B g cv ns i h := by
  have := cur_i64 hc
  exact cur_kept hc (fun k hk => hb.block k (by omega))
theorem pad_size (s : ByteArray) (h : s.size ≤ 3) : (PadTo.padB s 32).size = 32 := by
  rw [PadTo.padB_at s 32 (32 - s.size) (by omega) (by omega)]
  simp only [ByteArray.size, List.size_toArray, PadTo.zend_length]
  have : s.data.size = s.size := rfl
  omega

set_option maxRecDepth 100000 in
set_option maxHeartbeats 400000 in
theorem sector_any (w : World) (B g : Nat) (cv : Value) (ns : List Nat) (i : Nat) (h : Int) (hc : IsCur w B g cv ns i h) :
    Calls Try.prog 106 #[.pointer (some ⟨g, 0, none⟩)] w fun e w' => ∃ (s : ByteArray) (i' : Nat) (h' : Int), e = .returned (.string s) ∧ s.size = 32 ∧ IsCur w' B g cv ns i' h' ∧ w.grownBy w' (some g) := by
  have HC := Lib.hid hc
  clear hc
  go_enter Try.func106, Try.ntmps106
  go_wp2_with fail
  refine (bytes_any _ _ _ _ _ _ _ 3 (by omega) HC.out).mono ?_
  rintro e w1 ⟨s, i', h', hs, rfl, hc1, hg1⟩
  have HC1 := Lib.hid hc1
  have HG1 := Lib.hid hg1
  clear hc1 hg1
  go_wp2_with fail
  refine (PadTo.spec_any s 32 _ (by omega)).mono ?_
  rintro e w2 ⟨rfl, hb⟩
  have HC2 := Lib.hid (cur_below HC1.out hb)
  have HG2 := Lib.hid (grown_trans HG1.out (grown_of hb _))
  have hz := pad_size s hs
  clear hb
  generalize PadTo.padB s 32 = p at hz ⊢
  go_wp2
  go_ret
  exact ⟨p, _, _, rfl, hz, HC2.out, HG2.out⟩

theorem row_ne {w : World} {lo b : Nat} {x y : Value} {t e : TypeId} {size : Nat} {v : Value} {n : Nat} {xs : List Value} (h : w.ownsRow lo e size v n xs) (hb : Box w b x y t) (hne : e ≠ t) : some b ≠ v.ownBlock := by
  rcases h.2 with ⟨rfl, _⟩ | ⟨g, cap, cur, rfl, _, hg, _⟩
  · intro he; cases he
  · intro he
    cases he
    rw [show w.heap[g]? = _ from hb] at hg
    cases hg
    exact hne rfl
theorem grown_set {w a : World} {g : Nat} (h : w.grownBy a (some g)) {p : Addr} (hp : w.heap.size ≤ p.block) (u : Value) : w.grownBy (a.setCell p u) (some g) :=
  ⟨h.os, h.tape, h.output, by rw [World.size_setCell]; exact h.size, fun k hk hn => (Below.heap_setCell a p u k (by omega)).trans (h.block k hk hn)⟩
theorem grown_row {w a b : World} {g : Nat} {row : Option Nat} (h : w.grownBy a (some g)) (hr : a.grownBy b row) (hrow : ∀ k, row = some k → w.heap.size ≤ k) : w.grownBy b (some g) :=
  ⟨hr.os.trans h.os, hr.tape.trans h.tape, hr.output.trans h.output, Nat.le_trans h.size hr.size, fun k hk hn => (hr.block k (Nat.lt_of_lt_of_le hk h.size) (fun e => by have := hrow k e.symm; omega)).trans (h.block k hk hn)⟩
theorem cur_set {w : World} {B g : Nat} {cv : Value} {ns : List Nat} {i : Nat} {h : Int} (hc : IsCur w B g cv ns i h) {p : Addr} (hp : g < p.block) (u : Value) : IsCur (w.setCell p u) B g cv ns i h :=
  cur_kept hc (fun k hk => Below.heap_setCell w p u k (by omega))
theorem cur_row {w b : World} {B g : Nat} {cv : Value} {ns : List Nat} {i : Nat} {h : Int} {row : Option Nat} (hc : IsCur w B g cv ns i h) (hr : w.grownBy b row) (hrow : ∀ k, row = some k → g < k) : IsCur b B g cv ns i h := by
  have := cur_i64 hc
  exact cur_kept hc (fun k hk => hr.block k (by omega) (fun e => by have := hrow k e.symm; omega))
theorem own_grown {w a : World} {base g n size : Nat} {v : Value} {xs : List Value} {e : TypeId} (h : w.ownsRow base e size v n xs) (hlt : g < base) (hg : w.grownBy a (some g)) : a.ownsRow base e size v n xs :=
  h.kept hg (.inr fun e => by have := (h.lt g e).1; omega)
theorem box_grown {w a : World} {b g : Nat} {x y : Value} {t : TypeId} (h : Box w b x y t) (hg : w.grownBy a (some g)) (hne : b ≠ g) : Box a b x y t := Dk.blk_grown h hg (fun e => hne (by cases e; rfl))
/-- The two rows and the box of the disk being drawn. -/
def Mid (w : World) (base b : Nat) (us up : Value) (d : D) : Prop :=
  Box w b us up 26 ∧ w.ownsRow base 9 1 us d.1.length (d.1.map Value.string) ∧ w.ownsRow base 39 2 up d.2.length (wcells d.2)
theorem Mid.grown {w a : World} {base b g : Nat} {us up : Value} {d : D} (h : Mid w base b us up d) (hg : w.grownBy a (some g)) (hlt : g < base) (hb : b ≠ g) : Mid a base b us up d :=
  ⟨box_grown h.1 hg hb, own_grown h.2.1 hlt hg, own_grown h.2.2 hlt hg⟩
theorem zs_size : NewD.zs.size = 32 := pad_size ⟨#[]⟩ (by decide)

end Go.Proofs.Ytgapjdkelkmdgaa.Draw

-- YtgapjdkelkmdgaaDrawMake
/- Contracts and plain facts that a law of this seat leans on. Conditions: as each theorem types them. -/
namespace Go.Proofs.Ytgapjdkelkmdgaa.Draw
open Go.ChangeShapes Go.WideShapes Go.ChangeAt Go.RowKit
open Wr (Wt wcells d0)
open Dk (D Holds Ok Own RowIn Box Turned Fits)
open Cur
set_option linter.unusedVariables false

/-- The code stands behind whatever lets the blocks before it lie. -/
theorem code_at {w w' : World} {cv : Value} {ns : List Nat} (h : CodeIn w w.heap.size cv ns) (hb : Below w.heap.size w w') : CodeIn w' w'.heap.size cv ns := by
  obtain ⟨a, cap, rfl, hn, hx, hc⟩ := code_kept h hb.block
  refine ⟨a, cap, rfl, hn, hx, fun hp => ?_⟩
  obtain ⟨b, o, h1, h2, h3⟩ := hc hp
  exact ⟨b, o, h1, Nat.lt_of_lt_of_le h2 hb.size, h3⟩

end Go.Proofs.Ytgapjdkelkmdgaa.Draw

-- YtgapjdkelkmdgaaBl
/- Contracts and plain facts that a law of this seat leans on. Conditions: as each theorem types them. -/
namespace Go.Proofs.Ytgapjdkelkmdgaa.Bl
open Go.ChangeShapes Go.WideShapes Go.ChangeAt Go.RowKit Go.Deep
open Dk (RowIn Turned)
open Store (HoldsB)
open Strs (own_below grow_trans take_set_succ below_of_drew)
set_option linter.unusedVariables false

theorem holds_of_own {w : World} {base : Nat} {e : TypeId} {v : Value} {n : Nat} {bs : List Bool} (h : w.ownsRow base e 1 v n (bs.map Value.bool)) : HoldsB w v bs := by
  have hl := h.1
  simp at hl
  rcases h.2 with ⟨rfl, h0⟩ | ⟨g, cap, cur, rfl, hb, hg, hn, _, _, htake⟩
  · have : bs = [] := List.eq_nil_of_length_eq_zero (by omega)
    subst this
    exact ⟨none, 0, rfl, fun i hi => by simp at hi⟩
  · refine ⟨some ⟨g, 0, none⟩, cap, by rw [hl], fun i hi => ⟨g, 0, rfl, (Array.getElem?_eq_some_iff.1 hg).1, ?_⟩⟩
    rw [Nat.zero_add, h.cellAt i (by omega)]
    simp [List.getD, List.getElem?_eq_getElem hi]
theorem boolInfo : (Try.prog.info? 4).map (fun i => (i.zero, i.size, i.bytes)) = some (some (.bool false), 1, 1) := by kernel_rfl

set_option maxRecDepth 100000 in
theorem bools_of {H : Type} {enc : TypeId × Value → H} {W : World} {b0 : Nat} {v : Value} {x : DataW H} {p : List MemPlace} (hv : Value.okWide Try.prog W .any b0 36 v) (h : DataW.Trod enc Try.prog W 0 (fun _ => true) true 36 v x p) :
    ∃ bs : List Bool, bs.length ≤ maxLen ∧ HoldsB W v bs := by
  obtain ⟨a0, l0, c0, rfl⟩ := okWide_slice Try.underlying36 hv
  obtain ⟨fuel, hf⟩ := h
  rcases open_slice Try.underlying36 hf with ⟨hcs, _⟩ | ⟨a, l, c, m, n, D, Pl, hcs, _, hl, hm, hmm, _, hi⟩
  · simp [Value.cells] at hcs
    obtain ⟨rfl, rfl, rfl⟩ := hcs
    exact ⟨[], by simp, none, 0, rfl, fun i hi => by simp at hi⟩
  · simp [Value.cells] at hcs
    obtain ⟨rfl, rfl, rfl⟩ := hcs
    have hmc : m = c0 := by simpa using hmm
    subst hmc
    have hel : ∀ i, i < l0 → ∃ y : Bool, W.cell? (a.add i) = some (.bool y) := by
      intro i hil
      obtain ⟨cs', hc, ht⟩ := hi i (by omega)
      rw [show Try.prog.cellsOf 4 = 1 from by kernel_rfl] at hc
      obtain ⟨_, hcl, hat⟩ := World.cells?_some hc
      obtain ⟨y, hy, _⟩ := DataW.trod_bool Try.underlying4 ht
      have e0 := hat 0 (by omega)
      rw [Addr.add_add, hy] at e0
      exact ⟨y, by simpa using e0⟩
    by_cases hl0 : l0 = 0
    · subst hl0
      exact ⟨[], by simp, some a, m, rfl, fun i hi => by simp at hi⟩
    obtain ⟨y, he0⟩ := hel 0 (by omega)
    have hspot : a.spot = none := by simpa [Addr.add] using World.cell?_spot he0
    have hblk : a.block < W.heap.size := by simpa [Addr.add] using Dk.cell_block he0
    obtain ⟨bk, off, spot⟩ := a
    simp only at hspot hblk
    subst hspot
    obtain ⟨f, hfs⟩ := Classical.skolem.1 (show ∀ i, ∃ y : Bool, i < l0 → W.cell? (Addr.add ⟨bk, off, none⟩ i) = some (.bool y) from fun i => by
      by_cases hil : i < l0
      · obtain ⟨y, hy⟩ := hel i hil
        exact ⟨y, fun _ => hy⟩
      · exact ⟨false, fun h => absurd h hil⟩)
    have hlen : ((List.range l0).map f).length = l0 := by simp
    refine ⟨(List.range l0).map f, by rw [hlen]; omega, some ⟨bk, off, none⟩, m, by rw [hlen], fun j hj => ⟨bk, off, rfl, hblk, ?_⟩⟩
    rw [hlen] at hj
    have q0 := hfs j hj
    rw [Addr.add_lit] at q0
    have e : ((List.range l0).map f).getD j false = f j := by
      rw [List.getD_eq_getElem?_getD, List.getElem?_map, List.getElem?_range hj]; rfl
    rw [e]
    exact q0
end Go.Proofs.Ytgapjdkelkmdgaa.Bl

-- YtgapjdkelkmdgaaJDraw
/- Contracts of the laws' makers: a disk with an empty journal, a transaction for it, some choices, out of the drawn code. Conditions: as each theorem types them. -/
namespace Go.Proofs.Ytgapjdkelkmdgaa.JDraw
open Go.ChangeShapes Go.WideShapes Go.ChangeAt Go.RowKit
open Wr (Wt wcells d0)
open Dk (D Holds Ok Own RowIn Box Turned Fits)
open Cur
open Go.Proofs.Ytgapjdkelkmdgaa.Make (cur_alloc)
open Bl (boolInfo)
open Draw (code_at grown_of grown_trans cur_below row_ne grown_set cur_set own_grown box_grown zs_size sector_any grown_row cur_row)
open Journal (own_fresh2 own_wide own_cong)
set_option linter.unusedVariables false

set_option maxRecDepth 100000 in
set_option maxHeartbeats 400000 in
theorem once_any (w : World) (B g : Nat) (cv : Value) (ns : List Nat) (i : Nat) (h : Int) (m : Nat) (hm1 : 1 ≤ m) (hm2 : m ≤ 256) (hc : IsCur w B g cv ns i h) :
    Calls Try.prog 107 #[.pointer (some ⟨g, 0, none⟩), .int .i64 m] w fun e w' => ∃ b : Bool, e = .returned (.bool b) ∧ IsCur w' B g cv ns (stepI ns i) (nextH h) ∧ w.grownBy w' (some g) := by
  have H1 := Lib.hid (below_any w B g cv ns i h m hm1 hm2 hc)
  clear hc
  go_enter Try.func107, Try.ntmps107
  go_wp2_with fail
  refine H1.out.mono ?_
  rintro e w1 ⟨rfl, hc1, hg1⟩
  go_wp2
  go_ret
  exact ⟨_, rfl, hc1, hg1⟩

set_option maxRecDepth 100000 in
set_option maxHeartbeats 4000000 in
theorem disk_any (w : World) (B g : Nat) (cv : Value) (ns : List Nat) (i : Nat) (h : Int) (hc : IsCur w B g cv ns i h) :
    Calls Try.prog 51 #[.pointer (some ⟨g, 0, none⟩)] w fun e w' => ∃ (us up : Value) (ss : List ByteArray), e = .returned (.agg #[us, up]) ∧ ss.length = 73 ∧ (∀ y ∈ ss, y.size = 32) ∧ (∀ j, j < 70 → ss.getD j ⟨#[]⟩ = NewD.zs) ∧ Own w' w.heap.size w'.heap.size us up (ss, []) ∧ w.grownBy w' (some g) := by
  have hgl := cur_i64 hc
  have HC := Lib.hid (Make.cur_alloc hc (.cells #[.slice none 0 0, .slice none 0 0] 26))
  have bR := Lib.hid (show Box (w.alloc (.cells #[.slice none 0 0, .slice none 0 0] 26)) w.heap.size (.slice none 0 0) (.slice none 0 0) 26 from Dk.blk_new w _)
  have HG := Lib.hid (World.grownBy_alloc w (.cells #[.slice none 0 0, .slice none 0 0] 26) (some g))
  have hsz : (w.alloc (.cells #[.slice none 0 0, .slice none 0 0] 26)).heap.size = w.heap.size + 1 := by simp
  clear hc
  go_enter Try.func51, Try.ntmps51
  go_wp2_with fail
  generalize w.alloc (.cells #[.slice none 0 0, .slice none 0 0] 26) = w1 at HC bR HG hsz ⊢
  refine (NewD.spec_any 73 _).mono ?_
  rintro e w2 ⟨us, up, rfl, hown, hb⟩
  rw [show NewD.newV 73 = (List.replicate 73 NewD.zs, []) from rfl] at hown
  have s2 := hb.size
  replace HC := Lib.hid (cur_below HC.out hb)
  replace bR := Lib.hid (Box.below bR.out hb)
  replace HG := Lib.hid (grown_trans HG.out (grown_of hb _))
  have hr1 := hown.1.1
  rw [List.length_replicate] at hr1
  have hr2 := hown.2.1
  obtain ⟨a, c, rfl⟩ := Dk.slice_of hr1
  obtain ⟨b, cb, rfl⟩ := Dk.slice_of hr2
  dsimp only [List.length_nil] at hr1 hr2 ⊢
  obtain ⟨ss0, hss0⟩ : ∃ ss0, ss0 = List.replicate 73 NewD.zs := ⟨_, rfl⟩
  have hz0 : ∀ y ∈ ss0, y.size = 32 := fun y hy => by rw [hss0] at hy; rw [List.eq_of_mem_replicate hy]; exact zs_size
  have hl0 : ss0.length = 73 := by rw [hss0]; simp
  have hq0 : ∀ j, j < 70 → ss0.getD j ⟨#[]⟩ = NewD.zs := fun j hj => by rw [hss0, List.getD_eq_getElem?_getD, List.getElem?_replicate, if_pos (by omega)]; rfl
  rw [← hss0] at hr1
  have R1 := Lib.hid (Strs.own_below hr1 (Joins.below_alloc1 w2 (.cells #[.slice a 73 c, .slice b 0 cb] 26)))
  have R2 := Lib.hid (Strs.own_below (show w2.ownsRow w1.heap.size 39 2 (.slice b 0 cb) 0 (wcells []) from hr2) (Joins.below_alloc1 w2 (.cells #[.slice a 73 c, .slice b 0 cb] 26)))
  have HZ := Lib.hid hz0
  have HL0 := Lib.hid hl0
  have HQ0 := Lib.hid hq0
  clear hown hr1 hr2 hb hss0 hz0 hl0 hq0
  have bD := Lib.hid (show Box (w2.alloc (.cells #[.slice a 73 c, .slice b 0 cb] 26)) w2.heap.size _ _ 26 from Dk.blk_new w2 _)
  have hb3 := Joins.below_alloc1 w2 (.cells #[.slice a 73 c, .slice b 0 cb] 26)
  replace HC := Lib.hid (cur_below HC.out hb3)
  replace bR := Lib.hid (Box.below bR.out hb3)
  replace HG := Lib.hid (grown_trans HG.out (grown_of hb3 _))
  have hs3 : (w2.alloc (.cells #[.slice a 73 c, .slice b 0 cb] 26)).heap.size = w2.heap.size + 1 := by simp
  obtain ⟨x0, x1⟩ := bD.out.cells
  clear hb3
  go_wp2_with fail
  generalize w2.alloc (.cells #[.slice a 73 c, .slice b 0 cb] 26) = w3 at R1 R2 bD HC bR HG hs3 x0 x1 ⊢
  go_loopw [4] (fun iv wr => ∃ (k : Nat) (ss : List ByteArray) (i : Nat) (h : Int), k ≤ 3 ∧ iv = .int .i64 k ∧ ss.length = 73 ∧ (∀ y ∈ ss, y.size = 32) ∧ (∀ j, j < 70 → ss.getD j ⟨#[]⟩ = NewD.zs) ∧ wr.ownsRow w1.heap.size 9 1 (.slice a 73 c) 73 (ss.map Value.string) ∧ wr.ownsRow w1.heap.size 39 2 (.slice b 0 cb) 0 (wcells []) ∧ Box wr w2.heap.size (.slice a 73 c) (.slice b 0 cb) 26 ∧ Box wr w.heap.size (.slice none 0 0) (.slice none 0 0) 26 ∧ IsCur wr B g cv ns i h ∧ w.grownBy wr (some g) ∧ w2.heap.size < wr.heap.size) (fun iv _ => 3 - (intOf iv).toNat)
  case atStart => exact ⟨0, ss0, _, _, Nat.zero_le _, rfl, HL0.out, HZ.out, HQ0.out, R1.out, R2.out, bD.out, bR.out, HC.out, HG.out, by omega⟩
  case round =>
    clear R1 R2 bD bR HC HG HZ HL0 HQ0 x0 x1
    obtain ⟨k, ss, i, h, hk, rfl, hl, hz, hq, r1, r2, bd, br, hc, hg, hs⟩ := hrel
    obtain ⟨x0, x1⟩ := bd.cells
    have R1 := Lib.hid r1
    have R2 := Lib.hid r2
    have BD := Lib.hid bd
    have BR := Lib.hid br
    have HC := Lib.hid hc
    have HG := Lib.hid hg
    have HZ := Lib.hid hz
    have HL := Lib.hid hl
    have HQ := Lib.hid hq
    clear r1 r2 bd br hc hg hz hl hq
    by_cases hlt : k < 3
    · obtain ⟨g', c', he⟩ := Joins.ownsRow_form R1.out (by omega)
      cases he
      have hne := row_ne R1.out BD.out (by decide)
      have hne2 := row_ne R1.out BR.out (by decide)
      have hg'lt := (R1.out.lt g' rfl).1
      have hb1 : (70 : Int) + (k : Int) < 73 := by omega
      have hb2 : (0 : Int) ≤ 70 + (k : Int) := by omega
      have hwr : IntKind.i64.wrap (70 + (k : Int)) = 70 + (k : Int) := IntWalk.i64_in _ (by omega)
      have htn : (70 + (k : Int)).toNat = 70 + k := by omega
      go_wp2
      go_region_law (go_simp; go_at_call 106; refine (sector_any _ _ _ _ _ _ _ (cur_below HC.out (Below.drew (Below.refl _ _)))).mono ?_; rintro e w5 ⟨s, i', h', rfl, hsz, hc5, hg5⟩; replace hg5 := grown_trans (grown_of (Below.drew (Below.refl _ wr)) (some g)) hg5; have s5 := hg5.size; replace R1 := Lib.hid (own_grown R1.out (by omega) hg5); replace R2 := Lib.hid (own_grown R2.out (by omega) hg5); replace BD := Lib.hid (box_grown BD.out hg5 (by omega)); replace BR := Lib.hid (box_grown BR.out hg5 (by omega)); replace HC := Lib.hid hc5; replace HG := Lib.hid (grown_trans HG.out hg5); clear hc5 hg5; obtain ⟨z0, z1⟩ := BD.out.cells; have zc := R1.out.cellAt (70 + k) (by simp; have := HL.out; omega); have zf := R1.out.frozenAt (70 + k); rw [List.getElem?_eq_getElem (by simp; have := HL.out; omega)] at zc)
      all_goals
        have hst := R1.out.stored (70 + k) (.string s)
        rw [← List.map_set] at hst
        have r1 := hst.1
        have r2 := World.ownsRow.kept R2.out hst.2 (Dk.own_two R2.out R1.out (by decide))
        have bd := Dk.Box.other (i := 70 + k) (u := .string s) (c := g') BD.out (fun e => hne (congrArg some e))
        have br := Dk.Box.other (i := 70 + k) (u := .string s) (c := g') BR.out (fun e => hne2 (congrArg some e))
        have hcc := cur_set HC.out (p := ⟨g', 70 + k, none⟩) (show g < g' by omega) (.string s)
        have hgg := grown_set HG.out (p := ⟨g', 70 + k, none⟩) (show w.heap.size ≤ g' by omega) (.string s)
        have hss : (w5.setCell ⟨g', 70 + k, none⟩ (.string s)).heap.size = w5.heap.size := World.size_setCell ..
        have hz9 : ∀ y ∈ ss.set (70 + k) s, y.size = 32 := fun y hy => by
          rcases List.mem_or_eq_of_mem_set hy with h | h
          · exact HZ.out y h
          · rw [h]; exact hsz
        have hq9 : ∀ j, j < 70 → (ss.set (70 + k) s).getD j ⟨#[]⟩ = NewD.zs := fun j hj => by
          rw [List.getD_eq_getElem?_getD, List.getElem?_set_ne (by omega), ← List.getD_eq_getElem?_getD]
          exact HQ.out j hj
        generalize w5.setCell ⟨g', 70 + k, none⟩ (.string s) = w9 at r1 r2 bd br hcc hgg hss ⊢
        clear hst
        go_wp2
        go_roundw
        case rel => exact ⟨k + 1, ss.set (70 + k) s, _, _, by omega, by go_num, by rw [List.length_set]; exact HL.out, hz9, hq9, r1, r2, bd, br, hcc, hgg, by omega⟩
        case measure => simp [intOf]; omega
    · clear x0 x1
      obtain ⟨x0, x1⟩ := BD.out.cells
      obtain ⟨t0, t1, t2, t3⟩ := Box.four BR.out
      go_wp2
      have hO : Own wr w1.heap.size wr.heap.size (.slice a 73 c) (.slice b 0 cb) (ss, []) := ⟨by dsimp only; rw [HL.out]; exact RowIn.fresh R1.out, RowIn.fresh R2.out⟩
      obtain ⟨hO', hF, hS⟩ := Dk.Own.into hO BR.out
      have hgg := grown_set (grown_set HG.out (p := ⟨w.heap.size, 0, none⟩) (Nat.le_refl _) (.slice a 73 c)) (p := ⟨w.heap.size, 1, none⟩) (Nat.le_refl _) (.slice b 0 cb)
      generalize (wr.setCell ⟨w.heap.size, 0, none⟩ (.slice a 73 c)).setCell ⟨w.heap.size, 1, none⟩ (.slice b 0 cb) = wf at hO' hF hS hgg ⊢
      obtain ⟨c0, c1, _, _⟩ := Dk.Box.four hF
      exact bodyPost_ret (v := .agg #[.slice a 73 c, .slice b 0 cb]) (by simp [results, Try.results51, go_sem, c0, c1]) rfl ⟨_, _, ss, rfl, HL.out, HZ.out, HQ.out, hO'.wide (by omega) (by rw [hS]; omega), hgg⟩

/-- The sectors of a drawn transaction. -/
def secs : List Int := [0, 70, 71, 72]
theorem secs_at {w : World} {b : Nat} {T : TypeId} (h : w.heap[b]? = some (.cells #[.int .i64 0, .int .i64 70, .int .i64 71, .int .i64 72] T (0, 0))) (j : Nat) (hj : j < 4) : w.cell? ⟨b, j, none⟩ = some (.int .i64 (secs.getD j 0)) := by
  rw [Checksum.cell_of h]
  rcases (show j = 0 ∨ j = 1 ∨ j = 2 ∨ j = 3 by omega) with rfl | rfl | rfl | rfl <;> rfl
/-- A list of writes out of the first j sectors. -/
def Part (l : List Wt) (j : Nat) : Prop :=
  (∀ y ∈ l, ∃ k, k < j ∧ k < 4 ∧ y.1 = secs.getD k 0 ∧ y.2.size = 32) ∧ l.Pairwise (fun x y => x.1 < y.1) ∧ l.length ≤ j ∧ (2 ≤ j → l ≠ [])
theorem secs_mono {a b : Nat} (h : a < b) (hb : b < 4) : secs.getD a 0 < secs.getD b 0 := by
  rcases (show b = 1 ∨ b = 2 ∨ b = 3 by omega) with rfl | rfl | rfl
  · rcases (show a = 0 by omega) with rfl; decide
  · rcases (show a = 0 ∨ a = 1 by omega) with rfl | rfl <;> decide
  · rcases (show a = 0 ∨ a = 1 ∨ a = 2 by omega) with rfl | rfl | rfl <;> decide
theorem part_skip {l : List Wt} {j : Nat} (h : Part l j) (hj : j ≠ 1) : Part l (j + 1) :=
  ⟨fun y hy => by obtain ⟨k, h1, h2⟩ := h.1 y hy; exact ⟨k, by omega, h2⟩, h.2.1, by have := h.2.2.1; omega, fun h2 => h.2.2.2 (by omega)⟩
theorem part_add {l : List Wt} {j : Nat} {s : ByteArray} (h : Part l j) (hj : j < 4) (hs : s.size = 32) : Part (l ++ [(secs.getD j 0, s)]) (j + 1) := by
  refine ⟨fun y hy => ?_, ?_, by have := h.2.2.1; simp; omega, fun _ => by simp⟩
  · rcases List.mem_append.1 hy with hy | hy
    · obtain ⟨k, h1, h2⟩ := h.1 y hy; exact ⟨k, by omega, h2⟩
    · simp at hy; subst hy; exact ⟨j, by omega, hj, rfl, hs⟩
  · rw [List.pairwise_append]
    refine ⟨h.2.1, List.pairwise_singleton _ _, fun x hx y hy => ?_⟩
    simp at hy
    subst hy
    obtain ⟨k, h1, h2, h3, _⟩ := h.1 x hx
    show x.1 < secs.getD j 0
    rw [h3]
    exact secs_mono h1 hj

theorem row_ne2 {w : World} {lo b : Nat} {cs : Array Value} {t e : TypeId} {size : Nat} {v : Value} {n : Nat} {xs : List Value} (h : w.ownsRow lo e size v n xs) (hb : w.heap[b]? = some (.cells cs t (0, 0))) (hne : e ≠ t) : some b ≠ v.ownBlock := by
  rcases h.2 with ⟨rfl, _⟩ | ⟨g, cap, cur, rfl, _, hg, _⟩
  · simp [Value.ownBlock]
  · intro he
    have hbg : b = g := by simpa [Value.ownBlock] using he
    subst hbg
    rw [hb] at hg
    cases hg
    exact hne rfl

set_option maxRecDepth 100000 in
set_option maxHeartbeats 4000000 in
theorem txn_any (w : World) (B g : Nat) (cv : Value) (ns : List Nat) (i : Nat) (h : Int) (hc : IsCur w B g cv ns i h) :
    Calls Try.prog 53 #[.pointer (some ⟨g, 0, none⟩)] w fun e w' => ∃ (v : Value) (l : List Wt), e = .returned v ∧ Part l 4 ∧ w'.ownsRow w.heap.size 39 2 v l.length (wcells l) ∧ w.grownBy w' (some g) := by
  obtain ⟨j0, hj, hy0, hy1, hy2⟩ := info_parts Wr.wrInfo
  have HJ := Lib.hid hj
  have HY0 := Lib.hid hy0
  have HY1 := Lib.hid hy1
  have HY2 := Lib.hid hy2
  clear hj hy0 hy1 hy2
  have hgl := cur_i64 hc
  have HC := Lib.hid (cur_alloc (cur_alloc hc (.cells #[] 39)) (.cells #[.int .i64 0, .int .i64 70, .int .i64 71, .int .i64 72] 3))
  have HO := Lib.hid (World.ownsRow.alloc (own_fresh2 w 39 2) (.cells #[.int .i64 0, .int .i64 70, .int .i64 71, .int .i64 72] 3))
  have HG := Lib.hid (grown_trans (World.grownBy_alloc w (.cells #[] 39) (some g)) (World.grownBy_alloc _ (.cells #[.int .i64 0, .int .i64 70, .int .i64 71, .int .i64 72] 3) (some g)))
  have SB := Lib.hid (show ((w.alloc (.cells #[] 39)).alloc (.cells #[.int .i64 0, .int .i64 70, .int .i64 71, .int .i64 72] 3)).heap[w.heap.size + 1]? = some (.cells #[.int .i64 0, .int .i64 70, .int .i64 71, .int .i64 72] 3 (0, 0)) from Copy.blk_at (by simp))
  have hsz : w.heap.size + 1 < ((w.alloc (.cells #[] 39)).alloc (.cells #[.int .i64 0, .int .i64 70, .int .i64 71, .int .i64 72] 3)).heap.size := by simp
  clear hc
  go_enter Try.func53, Try.ntmps53
  go_wp2_with fail
  generalize (w.alloc (.cells #[] 39)).alloc (.cells #[.int .i64 0, .int .i64 70, .int .i64 71, .int .i64 72] 3) = w0 at HC HO HG SB hsz ⊢
  go_loopw [3, 9] (fun v iv wr => ∃ (j : Nat) (l : List Wt) (i : Nat) (h : Int), j ≤ 4 ∧ iv = .int .i64 j ∧ Part l j ∧ wr.ownsRow w.heap.size 39 2 v l.length (wcells l) ∧ wr.heap[w.heap.size + 1]? = some (.cells #[.int .i64 0, .int .i64 70, .int .i64 71, .int .i64 72] 3 (0, 0)) ∧ IsCur wr B g cv ns i h ∧ w.grownBy wr (some g) ∧ w.heap.size + 1 < wr.heap.size) (fun _ iv _ => 4 - (intOf iv).toNat)
  case atStart => exact ⟨0, [], _, _, Nat.zero_le _, rfl, ⟨by simp, List.Pairwise.nil, by simp, by omega⟩, HO.out, SB.out, HC.out, HG.out, hsz⟩
  case round =>
    clear HC HO HG SB
    obtain ⟨j, l, i, h, hj4, rfl, hp, hown, hse, hc, hg, hs1⟩ := hrel
    have HP := Lib.hid hp
    have SB := Lib.hid hse
    have HC := Lib.hid hc
    have HG := Lib.hid hg
    obtain ⟨va, vc, rfl⟩ := Dk.slice_of hown
    obtain ⟨N, hN⟩ : ∃ N, N = l.length := ⟨_, rfl⟩
    have hN4 : N ≤ 4 := by have := hp.2.2.1; omega
    rw [← hN] at hown
    rw [← hN]
    have HO := Lib.hid hown
    have HN := Lib.hid hN
    clear hp hown hse hc hg hN
    by_cases hlt : j < 4
    · have hcell := secs_at SB.out j hlt
      have hsj : secs.getD j 0 = 70 ↔ j = 1 := by
        rcases (show j = 0 ∨ j = 1 ∨ j = 2 ∨ j = 3 by omega) with rfl | rfl | rfl | rfl <;> decide
      obtain ⟨sc, hsc⟩ : ∃ sc, sc = secs.getD j 0 := ⟨_, rfl⟩
      rw [← hsc] at hcell hsj
      have HSJ := Lib.hid hsj
      have HSC := Lib.hid hsc
      clear hsj hsc
      go_wp2_with fail
      refine (once_any _ _ _ _ _ _ _ 2 (by omega) (by omega) HC.out).mono ?_
      rintro e w1 ⟨bb, rfl, hc1, hg1⟩
      have s1 := hg1.size
      have HC1 := Lib.hid hc1
      have HO1 := Lib.hid (own_grown HO.out hgl hg1)
      have SB1 := Lib.hid ((hg1.block (w.heap.size + 1) hs1 (by simp; omega)).trans SB.out)
      have HG1 := Lib.hid (grown_trans HG.out hg1)
      clear hc1 hg1 hcell
      cases bb with
      | true =>
        go_wp2_with fail
        refine (sector_any _ _ _ _ _ _ _ HC1.out).mono ?_
        rintro e w2 ⟨s, i', h', rfl, hss, hc2, hg2⟩
        have s2 := hg2.size
        have HC2 := Lib.hid hc2
        have HO2 := Lib.hid (own_grown HO1.out hgl hg2)
        have SB2 := Lib.hid ((hg2.block (w.heap.size + 1) (by omega) (by simp; omega)).trans SB1.out)
        have HG2 := Lib.hid (grown_trans HG1.out hg2)
        clear hc2 hg2
        go_wp2_with (first | (at_builtin; refine wpList_append_own _ rfl _ _ 24 rfl w.heap.size 39 j0 (.agg #[.int .i64 0, .string ⟨#[]⟩]) 2 24 Try.underlying24 HJ.out HY0.out HY1.out HY2.out rfl (by decide) _ _ _ rfl (World.ownsRow.alloc HO2.out _) ⟨w2.heap.size, 0, none⟩ 1 1 [.int .i64 sc, .string s] rfl rfl (Dk.cell_two_new _ _ _ _) (by simp [Value.oneCell']) ?c1 ?c2 ?c3 ?_))
        case c1 => unfold maxLen; omega
        case c2 => omega
        case c3 => simp only [World.size_alloc]; omega
        intro v9 w9 hown9 hg9 _
        have s9 := hg9.size
        simp only [World.size_alloc] at s9
        have HC9 := Lib.hid (cur_row (cur_alloc HC2.out _) hg9 (fun k hk => by have := (HO2.out.lt k hk).1; omega))
        have HG9 := Lib.hid (grown_row (grown_trans HG2.out (World.grownBy_alloc w2 _ (some g))) hg9 (fun k hk => (HO2.out.lt k hk).1))
        have SB9 := Lib.hid ((hg9.block (w.heap.size + 1) (by simp only [World.size_alloc]; omega) (row_ne2 HO2.out SB2.out (by decide))).trans (Dk.blk_alloc SB2.out _))
        have HO9 := Lib.hid (own_cong (n' := (l ++ [(sc, s)]).length) (xs' := wcells (l ++ [(sc, s)])) hown9 (by rw [List.length_append, ← HN.out]; rfl) (by rw [Txn.wcells_snoc]))
        have HP9 := Lib.hid (show Part (l ++ [(sc, s)]) (j + 1) by rw [HSC.out]; exact part_add HP.out hlt hss)
        clear hown9 hg9
        go_wp2_with fail
        go_roundw
        case rel => exact ⟨j + 1, l ++ [(sc, s)], _, _, by omega, by go_num, HP9.out, HO9.out, SB9.out, HC9.out, HG9.out, by omega⟩
        case measure => simp [intOf]; omega
      | false =>
        by_cases h70 : sc = 70
        · have HSE := Lib.hid h70
          obtain rfl := h70
          go_wp2_with fail
          refine (sector_any _ _ _ _ _ _ _ HC1.out).mono ?_
          rintro e w2 ⟨s, i', h', rfl, hss, hc2, hg2⟩
          have s2 := hg2.size
          have HC2 := Lib.hid hc2
          have HO2 := Lib.hid (own_grown HO1.out hgl hg2)
          have SB2 := Lib.hid ((hg2.block (w.heap.size + 1) (by omega) (by simp; omega)).trans SB1.out)
          have HG2 := Lib.hid (grown_trans HG1.out hg2)
          clear hc2 hg2
          go_wp2_with (first | (at_builtin; refine wpList_append_own _ rfl _ _ 24 rfl w.heap.size 39 j0 (.agg #[.int .i64 0, .string ⟨#[]⟩]) 2 24 Try.underlying24 HJ.out HY0.out HY1.out HY2.out rfl (by decide) _ _ _ rfl (World.ownsRow.alloc HO2.out _) ⟨w2.heap.size, 0, none⟩ 1 1 [.int .i64 70, .string s] rfl rfl (Dk.cell_two_new _ _ _ _) (by simp [Value.oneCell']) ?c1 ?c2 ?c3 ?_))
          case c1 => unfold maxLen; omega
          case c2 => omega
          case c3 => simp only [World.size_alloc]; omega
          intro v9 w9 hown9 hg9 _
          have s9 := hg9.size
          simp only [World.size_alloc] at s9
          have HC9 := Lib.hid (cur_row (cur_alloc HC2.out _) hg9 (fun k hk => by have := (HO2.out.lt k hk).1; omega))
          have HG9 := Lib.hid (grown_row (grown_trans HG2.out (World.grownBy_alloc w2 _ (some g))) hg9 (fun k hk => (HO2.out.lt k hk).1))
          have SB9 := Lib.hid ((hg9.block (w.heap.size + 1) (by simp only [World.size_alloc]; omega) (row_ne2 HO2.out SB2.out (by decide))).trans (Dk.blk_alloc SB2.out _))
          have HO9 := Lib.hid (own_cong (n' := (l ++ [(70, s)]).length) (xs' := wcells (l ++ [(70, s)])) hown9 (by rw [List.length_append, ← HN.out]; rfl) (by rw [Txn.wcells_snoc]))
          have HP9 := Lib.hid (show Part (l ++ [(70, s)]) (j + 1) by rw [HSC.out]; exact part_add HP.out hlt hss)
          clear hown9 hg9
          go_wp2_with fail
          go_roundw
          case rel => exact ⟨j + 1, l ++ [(70, s)], _, _, by omega, by go_num, HP9.out, HO9.out, SB9.out, HC9.out, HG9.out, by omega⟩
          case measure => simp [intOf]; omega
        · have hq : (sc == 70) = false := by simpa using h70
          have HPS := Lib.hid (part_skip HP.out (fun h1 => h70 (HSJ.out.2 h1)))
          clear h70
          go_wp2_with fail
          go_roundw
          case rel => exact ⟨j + 1, l, _, _, by omega, by go_num, HPS.out, by rw [← HN.out]; exact HO1.out, SB1.out, HC1.out, HG1.out, by omega⟩
          case measure => simp [intOf]; omega
    · obtain rfl : j = 4 := by omega
      go_wp2_with fail
      go_ret
      exact ⟨_, l, rfl, HP.out, by rw [← HN.out]; exact HO.out, HG.out⟩

set_option maxRecDepth 100000 in
set_option maxHeartbeats 2000000 in
theorem keep_any (w : World) (B g : Nat) (cv : Value) (ns : List Nat) (i : Nat) (h : Int) (hc : IsCur w B g cv ns i h) :
    Calls Try.prog 68 #[.pointer (some ⟨g, 0, none⟩)] w fun e w' => ∃ (v : Value) (bs : List Bool), e = .returned v ∧ bs.length ≤ 4 ∧ w'.ownsRow w.heap.size 4 1 v bs.length (bs.map Value.bool) ∧ w.grownBy w' (some g) := by
  obtain ⟨j0, hj, hy0, hy1, hy2⟩ := info_parts boolInfo
  have HJ := Lib.hid hj
  have HY0 := Lib.hid hy0
  have HY1 := Lib.hid hy1
  have HY2 := Lib.hid hy2
  clear hj hy0 hy1 hy2
  have hgl := cur_i64 hc
  have HC := Lib.hid (cur_alloc hc (.cells #[] 4))
  have HO := Lib.hid (own_fresh2 w 4 1)
  have HG := Lib.hid (World.grownBy_alloc w (.cells #[] 4) (some g))
  have hsz : w.heap.size < (w.alloc (.cells #[] 4)).heap.size := by simp
  clear hc
  go_enter Try.func68, Try.ntmps68
  go_wp2_with fail
  generalize w.alloc (.cells #[] 4) = w0 at HC HO HG hsz ⊢
  refine (below_any _ _ _ _ _ _ _ 5 (by omega) (by omega) HC.out).mono ?_
  rintro e w1 ⟨rfl, hc1, hg1⟩
  have hx4 : stepX ns i h % 5 < 5 := Nat.mod_lt _ (by omega)
  generalize stepX ns i h % 5 = m at hx4 ⊢
  have s1 := hg1.size
  replace HO := Lib.hid (own_grown HO.out hgl hg1)
  replace HC := Lib.hid hc1
  replace HG := Lib.hid (grown_trans HG.out hg1)
  clear hc1 hg1
  go_wp2_with fail
  go_loopw [3, 4] (fun v nv wr => ∃ (n : Nat) (bs : List Bool) (i : Nat) (h : Int), nv = .int .i64 n ∧ bs.length + n ≤ 4 ∧ wr.ownsRow w.heap.size 4 1 v bs.length (bs.map Value.bool) ∧ IsCur wr B g cv ns i h ∧ w.grownBy wr (some g) ∧ w.heap.size < wr.heap.size) (fun _ nv _ => (intOf nv).toNat)
  case atStart => exact ⟨m, [], _, _, rfl, by simp; omega, HO.out, HC.out, HG.out, by omega⟩
  case round =>
    clear HC HO HG
    obtain ⟨n, bs, i, h, rfl, hn, hown, hc, hg, hs⟩ := hrel
    have HC := Lib.hid hc
    have HG := Lib.hid hg
    obtain ⟨va, vc, rfl⟩ := Dk.slice_of hown
    obtain ⟨N, hN⟩ : ∃ N, N = bs.length := ⟨_, rfl⟩
    rw [← hN] at hown hn
    rw [← hN]
    have HO := Lib.hid hown
    have HN := Lib.hid hN
    clear hown hc hg hN
    by_cases h0 : 0 < n
    · go_wp2_with fail
      refine (once_any _ _ _ _ _ _ _ 2 (by omega) (by omega) HC.out).mono ?_
      rintro e w2 ⟨bb, rfl, hc2, hg2⟩
      have s2 := hg2.size
      have HC2 := Lib.hid hc2
      have HO2 := Lib.hid (own_grown HO.out hgl hg2)
      have HG2 := Lib.hid (grown_trans HG.out hg2)
      clear hc2 hg2
      go_wp2_with (first | (at_builtin; refine wpList_append_own _ rfl _ _ 36 rfl w.heap.size 4 j0 (.bool false) 1 1 Try.underlying36 HJ.out HY0.out HY1.out HY2.out rfl (by decide) _ _ _ rfl (World.ownsRow.alloc HO2.out _) ⟨w2.heap.size, 0, none⟩ 1 1 [.bool bb] rfl rfl (cell_one_new _ _ _) (by simp [Value.oneCell']) ?c1 ?c2 ?c3 ?_))
      case c1 => unfold maxLen; omega
      case c2 => omega
      case c3 => simp only [World.size_alloc]; omega
      intro v9 w9 hown9 hg9 _
      have s9 := hg9.size
      simp only [World.size_alloc] at s9
      have HC9 := Lib.hid (cur_row (cur_alloc HC2.out _) hg9 (fun k hk => by have := (HO2.out.lt k hk).1; omega))
      have HG9 := Lib.hid (grown_row (grown_trans HG2.out (World.grownBy_alloc w2 _ (some g))) hg9 (fun k hk => (HO2.out.lt k hk).1))
      have HO9 := Lib.hid (own_cong (n' := (bs ++ [bb]).length) (xs' := (bs ++ [bb]).map Value.bool) hown9 (by rw [List.length_append, ← HN.out]; rfl) (by simp))
      have hl9 : (bs ++ [bb]).length + (n - 1) ≤ 4 := by rw [List.length_append, ← HN.out]; simp; omega
      clear hown9 hg9
      have HL9 := Lib.hid hl9
      clear hl9
      go_wp2_with fail
      go_roundw
      case rel => exact ⟨n - 1, bs ++ [bb], _, _, by go_num, HL9.out, HO9.out, HC9.out, HG9.out, by omega⟩
      case measure => simp [intOf]; omega
    · obtain rfl : n = 0 := by omega
      go_wp2_with fail
      go_ret
      exact ⟨_, bs, rfl, by rw [← HN.out]; omega, by rw [← HN.out]; exact HO.out, HG.out⟩

set_option maxRecDepth 100000 in
set_option maxHeartbeats 1000000 in
theorem makeDisk_any (w : World) (cv : Value) (ns : List Nat) (hc : CodeIn w w.heap.size cv ns) :
    Calls Try.prog 13 #[cv] w fun e w' => ∃ (us up : Value) (ss : List ByteArray), e = .returned (.agg #[us, up]) ∧ (ss.length = 73 ∧ (∀ y ∈ ss, y.size = 32) ∧ (∀ j, j < 70 → ss.getD j ⟨#[]⟩ = NewD.zs)) ∧ Own w' w.heap.size w'.heap.size us up (ss, []) ∧ Below w.heap.size w w' := by
  have HC := Lib.hid hc
  have hb1 := Joins.below_alloc1 w (.cells #[.slice none 0 0, .slice none 0 0] 26)
  have bR := Lib.hid (show Box (w.alloc (.cells #[.slice none 0 0, .slice none 0 0] 26)) w.heap.size (.slice none 0 0) (.slice none 0 0) 26 from Dk.blk_new w _)
  have HSZ := Lib.hid (show (w.alloc (.cells #[.slice none 0 0, .slice none 0 0] 26)).heap.size = w.heap.size + 1 by simp)
  have HC1 := Lib.hid (code_at hc hb1)
  have HB := Lib.hid hb1
  clear hc hb1
  go_enter Try.func13, Try.ntmps13
  go_wp2_with fail
  generalize w.alloc (.cells #[.slice none 0 0, .slice none 0 0] 26) = w0 at HC1 bR HB HSZ ⊢
  refine (new_any _ cv ns HC1.out).mono ?_
  rintro e w1 ⟨rfl, hcur, hb, _⟩
  have HCU := Lib.hid hcur
  have S1 := Lib.hid hb.size
  replace bR := Lib.hid (Box.below bR.out hb)
  replace HB := Lib.hid (HB.out.trans (hb.mono HB.out.size))
  clear hcur hb
  go_wp2_with fail
  refine (disk_any _ _ _ _ _ _ _ HCU.out).mono ?_
  rintro e w2 ⟨us, up, ss, rfl, hl, hz, hq, hown, hg⟩
  have s2 := hg.size
  have s1 := S1.out
  have hsz := HSZ.out
  replace bR := Lib.hid (box_grown bR.out hg (by omega))
  replace HB := Lib.hid (HB.out.grown hg HB.out.size (fun k hk => by cases hk; omega))
  have HO := Lib.hid hown
  have HF := Lib.hid (And.intro hl (And.intro hz hq))
  clear hown hg hl hz hq
  obtain ⟨⟨ua, un, uc, rfl⟩, ⟨ub, um, ud, rfl⟩⟩ := HO.out.forms
  obtain ⟨t0, t1, t2, t3⟩ := Box.four bR.out
  go_wp2
  obtain ⟨hO', hF, hS⟩ := Dk.Own.into HO.out bR.out
  have hBB := Dk.below_into (b := w.heap.size) HB.out (Nat.le_refl _) (.slice ua un uc) (.slice ub um ud)
  generalize (w2.setCell ⟨w.heap.size, 0, none⟩ (.slice ua un uc)).setCell ⟨w.heap.size, 1, none⟩ (.slice ub um ud) = wf at hO' hF hS hBB ⊢
  obtain ⟨c0, c1, _, _⟩ := Dk.Box.four hF
  exact bodyPost_ret (v := .agg #[.slice ua un uc, .slice ub um ud]) (by simp [results, Try.results13, go_sem, c0, c1]) rfl ⟨_, _, ss, rfl, HF.out, hO'.wide (by omega) (by rw [hS]; exact Nat.le_refl _), hBB⟩

set_option maxRecDepth 100000 in
set_option maxHeartbeats 1000000 in
theorem makeTxn_any (w : World) (cv : Value) (ns : List Nat) (hc : CodeIn w w.heap.size cv ns) :
    Calls Try.prog 14 #[cv] w fun e w' => ∃ (v : Value) (l : List Wt), e = .returned v ∧ Part l 4 ∧ w'.ownsRow w.heap.size 39 2 v l.length (wcells l) ∧ Below w.heap.size w w' := by
  have H1 := Lib.hid (moved_any w cv ns 9 (by omega) hc)
  clear hc
  go_enter Try.func14, Try.ntmps14
  go_wp2_with fail
  refine H1.out.mono ?_
  rintro e w1 ⟨rfl, hc1, hb1⟩
  have HC1 := Lib.hid hc1
  have HB1 := Lib.hid hb1
  have s1 := cur_i64 hc1
  clear hc1 hb1
  generalize (after ns 0 (newH ns) 9).1 = i at HC1
  generalize (after ns 0 (newH ns) 9).2 = h at HC1
  go_wp2_with fail
  refine (txn_any _ _ _ _ _ _ _ HC1.out).mono ?_
  rintro e w2 ⟨v, l, rfl, hp, hown, hg⟩
  have HP := Lib.hid hp
  have HO := Lib.hid (own_wide hown (show w.heap.size ≤ w1.heap.size by omega))
  have HB2 := Lib.hid (below_at HB1.out (Nat.le_refl _) hg)
  clear hp hown hg
  go_wp2
  go_ret
  exact ⟨_, l, rfl, HP.out, HO.out, HB2.out⟩

set_option maxRecDepth 100000 in
set_option maxHeartbeats 1000000 in
theorem makeKeep_any (w : World) (cv : Value) (ns : List Nat) (m : Nat) (hm : m ≤ 1000000) (hc : CodeIn w w.heap.size cv ns) :
    Calls Try.prog 21 #[cv, .int .i64 m] w fun e w' => ∃ (v : Value) (bs : List Bool), e = .returned v ∧ bs.length ≤ 4 ∧ w'.ownsRow w.heap.size 4 1 v bs.length (bs.map Value.bool) ∧ Below w.heap.size w w' := by
  have H1 := Lib.hid (moved_any w cv ns m hm hc)
  clear hc
  go_enter Try.func21, Try.ntmps21
  go_wp2_with fail
  refine H1.out.mono ?_
  rintro e w1 ⟨rfl, hc1, hb1⟩
  have HC1 := Lib.hid hc1
  have HB1 := Lib.hid hb1
  have s1 := cur_i64 hc1
  clear hc1 hb1
  generalize (after ns 0 (newH ns) m).1 = i at HC1
  generalize (after ns 0 (newH ns) m).2 = h at HC1
  go_wp2_with fail
  refine (keep_any _ _ _ _ _ _ _ HC1.out).mono ?_
  rintro e w2 ⟨v, bs, rfl, hl, hown, hg⟩
  have HO := Lib.hid (own_wide hown (show w.heap.size ≤ w1.heap.size by omega))
  have HB2 := Lib.hid (below_at HB1.out (Nat.le_refl _) hg)
  clear hown hg
  go_wp2
  go_ret
  exact ⟨_, bs, rfl, hl, HO.out, HB2.out⟩
end Go.Proofs.Ytgapjdkelkmdgaa.JDraw

-- YtgapjdkelkmdgaaJourP
/- Plain facts: what was written to a journal is read back. Conditions: as each theorem types them. -/
namespace Go.Proofs.Ytgapjdkelkmdgaa.Txn
open Wr (Wt d0 datas)
open Dk (D Ok Fits)
open ReadS (readF readV Has lastTo)
open Strs (total)
set_option linter.unusedVariables false

theorem foldl_low (n : Nat) : ∀ (j a : Nat), (Nums.lowL n j).foldl (fun a b => a * 256 + b.toNat) a = a * 256 ^ j + n % 256 ^ j := by
  intro j
  induction j with
  | zero => intro a; simp [Nums.lowL, Nat.mod_one]
  | succ j ih =>
    intro a
    rw [Nums.lowL, List.foldl_cons, ih, Nums.byteN_toNat, Nat.pow_succ, Nat.mod_mul, Nat.add_mul, Nat.mul_assoc, Nat.mul_comm 256 (256 ^ j), Nat.add_assoc, Nat.mul_comm (n / 256 ^ j % 256)]
    omega
theorem getL_low (n j : Nat) (h : n < 256 ^ j) : Nums.getL (Nums.lowL n j) = n := by
  have := foldl_low n j 0
  rw [Nat.mod_eq_of_lt h] at this
  simpa [Nums.getL] using this
theorem num_of {s : ByteArray} {a w n : Nat} (h1 : 1 ≤ w) (h2 : w ≤ 6) (h3 : a + w ≤ s.size) (h4 : GetNumber.seg s a w = Nums.lowL n w) (h5 : n < 256 ^ w) : num s a w = n := by
  unfold num
  rw [if_pos, h4, getL_low n w h5]
  simp only [GetNumber.liesB, Bool.and_eq_true, decide_eq_true_eq]
  omega
theorem seg_mid (A B R : List UInt8) : ((A ++ (B ++ R)).drop A.length).take B.length = B := by simp
theorem putB_data (n w : Nat) (h1 : 1 ≤ w) (h2 : w ≤ 6) (h : n < 256 ^ w) : (Nums.putB n w).data.toList = Nums.lowL n w := by
  have hf : Nums.fitsB n w = true := (PutNumber.fits_nat n w).2 ⟨h1, h2, h⟩
  rw [Nums.putB_yes n w hf]
theorem padB_data (s : ByteArray) (h : s.size ≤ 32) : (PadTo.padB s 32).data.toList = s.data.toList ++ List.replicate (32 - s.size) 0 := by
  rw [PadTo.padB, if_neg (by decide)]
  rfl
theorem commit_data (seq : Nat) (l : List Wt) (hs : seq ≤ 1000000000) (ht : Tgt l) :
    ∃ R, (commitV seq l).data.toList = mark.data.toList ++ (Nums.lowL seq 4 ++ (Nums.lowL l.length 2 ++ R)) := by
  have h1 := putB_data seq 4 (by decide) (by decide) (by omega)
  have h2 := putB_data l.length 2 (by decide) (by decide) (by have := ht.1.2; omega)
  have hc : (cat (fields seq l)).size ≤ 32 := by rw [cat_size]; exact Nat.le_trans (fields_total seq l) (by decide)
  refine ⟨(Nums.putB (sumOf l) 4).data.toList ++ List.replicate (32 - (cat (fields seq l)).size) 0, ?_⟩
  have hv : commitV seq l = PadTo.padB (cat (fields seq l)) 32 := if_pos ⟨⟨by omega, by omega⟩, ht⟩
  rw [hv, padB_data _ hc, cat_data]
  rw [show ((4 : Nat) : Int) = 4 from rfl] at h1
  rw [show ((2 : Nat) : Int) = 2 from rfl] at h2
  simp only [fields, List.flatMap_cons, List.flatMap_nil, List.append_nil, h1, h2, List.append_assoc]
theorem commit_size (seq : Nat) (l : List Wt) (hs : seq ≤ 1000000000) (ht : Tgt l) : (commitV seq l).size = 32 := by
  have hv : commitV seq l = PadTo.padB (cat (fields seq l)) 32 := if_pos ⟨⟨by omega, by omega⟩, ht⟩
  rw [hv]
  exact pad32 _ (by rw [cat_size]; exact Nat.le_trans (fields_total seq l) (by decide))
theorem commit_seq (seq : Nat) (l : List Wt) (hs : seq ≤ 1000000000) (ht : Tgt l) : num (commitV seq l) 4 4 = seq := by
  obtain ⟨R, hR⟩ := commit_data seq l hs ht
  refine num_of (by decide) (by decide) (by rw [commit_size seq l hs ht]; decide) ?_ (by omega)
  rw [GetNumber.seg, hR]
  have := seg_mid mark.data.toList (Nums.lowL seq 4) (Nums.lowL l.length 2 ++ R)
  rw [Nums.lowL_length] at this
  exact this
theorem commit_cnt (seq : Nat) (l : List Wt) (hs : seq ≤ 1000000000) (ht : Tgt l) : num (commitV seq l) 8 2 = l.length := by
  obtain ⟨R, hR⟩ := commit_data seq l hs ht
  refine num_of (by decide) (by decide) (by rw [commit_size seq l hs ht]; decide) ?_ (by have := ht.1.2; omega)
  rw [GetNumber.seg, hR]
  have := seg_mid (mark.data.toList ++ Nums.lowL seq 4) (Nums.lowL l.length 2) R
  rw [Nums.lowL_length, List.length_append, Nums.lowL_length, List.append_assoc] at this
  exact this
theorem flat_at {f : Wt → List UInt8} : ∀ (l : List Wt) (k : Nat), k < l.length → (∀ x ∈ l, (f x).length = 2) → ((l.flatMap f).drop (2 * k)).take 2 = f (l.getD k d0) := by
  intro l
  induction l with
  | nil => intro k hk; simp at hk
  | cons a l ih =>
    intro k hk h
    have ha : (f a).length = 2 := h a (by simp)
    cases k with
    | zero =>
      rw [List.flatMap_cons, Nat.mul_zero, List.drop_zero, ← ha, List.take_left]
      rfl
    | succ k =>
      rw [List.flatMap_cons, show 2 * (k + 1) = (f a).length + 2 * k from by omega, ← List.drop_drop, List.drop_left, ih k (by simpa using hk) (fun x hx => h x (by simp [hx]))]
      rfl
theorem tgts_data (l : List Wt) : (tgts l).data.toList = l.flatMap fun x => (Nums.putB x.1 2).data.toList := by
  unfold tgts
  rw [cat_data, List.flatMap_map]
theorem mem_of_getD {l : List Wt} {x : Wt} (h : x ∈ l) : ∃ k, k < l.length ∧ l.getD k d0 = x := by
  obtain ⟨k, hk, e⟩ := List.getElem_of_mem h
  exact ⟨k, hk, by rw [List.getD_eq_getElem?_getD, List.getElem?_eq_getElem hk]; exact e⟩
theorem tgt_two {l : List Wt} (ht : Tgt l) : ∀ x ∈ l, (Nums.putB x.1 2).data.toList = Nums.lowL x.1.toNat 2 ∧ x.1.toNat < 65536 ∧ (x.1.toNat : Int) = x.1 := by
  intro x hx
  obtain ⟨k, hk, rfl⟩ := mem_of_getD hx
  have h := ht.2 k hk
  have e : ((l.getD k d0).1.toNat : Int) = (l.getD k d0).1 := Int.toNat_of_nonneg h.1
  refine ⟨?_, by omega, e⟩
  have := putB_data (l.getD k d0).1.toNat 2 (by decide) (by decide) (by omega)
  rw [e, show ((2 : Nat) : Int) = 2 from rfl] at this
  exact this
theorem tgts_len {l : List Wt} (ht : Tgt l) : (tgts l).size = 2 * l.length := by
  have h := tgt_two ht
  have e : (tgts l).data.toList.length = 2 * l.length := by
    rw [tgts_data]
    clear ht
    induction l with
    | nil => rfl
    | cons a l ih =>
      rw [List.flatMap_cons, List.length_append, ih (fun x hx => h x (by simp [hx])), (h a (by simp)).1, Nums.lowL_length, List.length_cons]
      omega
  exact e
theorem cut_len {l : List Wt} (ht : Tgt l) : (CutAll.cutAll (tgts l) 32).length = (2 * l.length + 31) / 32 := by
  unfold CutAll.cutAll
  rw [if_pos (by decide), CutAll.cut_length, tgts_len ht]
  rfl
theorem win (xs zs : List UInt8) (a m b : Nat) (h : b + 2 ≤ m) (h2 : a + b + 2 ≤ xs.length) : ((((xs.drop a).take m) ++ zs).drop b).take 2 = (xs.drop (a + b)).take 2 := by
  have hl : ((xs.drop a).take m).length = min m (xs.length - a) := by simp
  rw [List.drop_append_of_le_length (by omega), List.take_append_of_le_length (by rw [List.length_drop]; omega), List.drop_take, List.take_take, Nat.min_eq_left (by omega), List.drop_drop]
theorem target_at {l : List Wt} (ht : Tgt l) (k : Nat) (hk : k < l.length) : (num (PadTo.padB ((CutAll.cutAll (tgts l) 32).getD (k / 16) ⟨#[]⟩) 32) (k % 16 * 2) 2 : Nat) = (l.getD k d0).1.toNat := by
  have hT := tgts_len ht
  have hj : k / 16 < (2 * l.length + 31) / 32 := by omega
  have hcut : (CutAll.cutAll (tgts l) 32).getD (k / 16) ⟨#[]⟩ = (tgts l).extract (k / 16 * 32) (min (k / 16 * 32 + 32) (tgts l).size) := by
    unfold CutAll.cutAll
    rw [if_pos (by decide), List.getD_eq_getElem?_getD]
    unfold CutAll.cut
    rw [List.getElem?_map, List.getElem?_range (by rw [hT]; exact hj)]
    rfl
  have hx : (l.getD k d0) ∈ l := by
    rw [List.getD_eq_getElem?_getD, List.getElem?_eq_getElem hk]; exact List.getElem_mem _
  have h2 := tgt_two ht _ hx
  have hps : ((CutAll.cutAll (tgts l) 32).getD (k / 16) ⟨#[]⟩).size ≤ 32 := by
    rw [hcut, ByteArray.size_extract]; omega
  refine num_of (by decide) (by decide) ?_ ?_ (by omega)
  · rw [pad32 _ hps]; omega
  · rw [GetNumber.seg, padB_data _ hps, hcut, Lib.extract_data]
    have hflat := flat_at (f := fun x => (Nums.putB x.1 2).data.toList) l k hk (fun x hx => by rw [(tgt_two ht x hx).1, Nums.lowL_length])
    rw [← tgts_data, h2.1] at hflat
    have hTl : (tgts l).data.toList.length = 2 * l.length := hT
    rw [← hflat, win _ _ _ _ _ (show k % 16 * 2 + 2 ≤ min (k / 16 * 32 + 32) (tgts l).size - k / 16 * 32 by omega) (by omega), show k / 16 * 32 + k % 16 * 2 = 2 * k by omega]
/-- What the journal was given is what is read. -/
theorem read_back {c : D} {l : List Wt} {seq : Nat} (hok : Okay c l) (hs : seq ≤ 1000000000) (h1 : readF c 1 = commitV seq l)
    (h2 : ∀ j : Nat, j < (CutAll.cutAll (tgts l) 32).length → readF c ((2 + j : Nat) : Int) = PadTo.padB ((CutAll.cutAll (tgts l) 32).getD j ⟨#[]⟩) 32)
    (h3 : ∀ k : Nat, k < l.length → readF c ((6 + k : Nat) : Int) = (l.getD k d0).2) : Busy c ∧ listV c = l := by
  have ht : Tgt l := ⟨hok.2.1, fun k hk => by
    have := (hok.2.2 k hk).1.1
    have := hok.1.1.1.1
    omega⟩
  have hseq : seqOf c = seq := by unfold seqOf; rw [h1]; exact commit_seq seq l hs ht
  have hcnt : cntOf c = l.length := by unfold cntOf; rw [h1]; exact commit_cnt seq l hs ht
  have hit : items c l.length = l := by
    apply List.ext_getElem?
    intro k
    by_cases hk : k < l.length
    · unfold items
      rw [List.getElem?_map, List.getElem?_range hk, List.getElem?_eq_getElem hk]
      have e : l.getD k d0 = l[k] := by rw [List.getD_eq_getElem?_getD, List.getElem?_eq_getElem hk]; rfl
      have hj : k / 16 < (CutAll.cutAll (tgts l) 32).length := by rw [cut_len ht]; omega
      have h0 := (ht.2 k hk).1
      show some (item c k) = some l[k]
      rw [← e]
      unfold item
      rw [h2 _ hj, h3 k hk, target_at ht k hk]
      have : ((l.getD k d0).1.toNat : Int) = (l.getD k d0).1 := Int.toNat_of_nonneg h0
      rw [this]
    · rw [List.getElem?_eq_none (by rw [items_len]; omega), List.getElem?_eq_none (by omega)]
  have hb : Busy c := by
    unfold Busy
    rw [hseq, hcnt, hit]
    exact ⟨hok.2.1, h1, hok⟩
  refine ⟨hb, ?_⟩
  rw [(busy_yes hb).2.2, hcnt, hit]
theorem zero_num (a w : Nat) (h1 : 1 ≤ w) (h2 : w ≤ 6) (h3 : a + w ≤ 32) : num zero a w = 0 := by
  have hz : zero.data.toList = List.replicate 32 0 := by
    show (PadTo.padB ⟨#[]⟩ 32).data.toList = _
    rw [padB_data _ (by decide)]
    rfl
  have hsz : zero.size = 32 := pad32 ⟨#[]⟩ (by decide)
  refine num_of h1 h2 (by rw [hsz]; exact h3) ?_ (Nat.pos_of_ne_zero (by simp))
  rw [GetNumber.seg, hz]
  have hl : ∀ w : Nat, Nums.lowL 0 w = List.replicate w 0 := by
    intro w
    induction w with
    | zero => rfl
    | succ w ih => rw [Nums.lowL, ih, List.replicate_succ]; simp [Nums.byteN]
  rw [hl, List.drop_replicate, List.take_replicate, Nat.min_eq_left (by omega)]
theorem zero_free {c : D} (h : readF c 1 = zero) : ¬ Busy c := by
  intro hb
  have := hb.1.1
  unfold cntOf at this
  rw [h, zero_num 8 2 (by decide) (by decide) (by decide)] at this
  omega
end Go.Proofs.Ytgapjdkelkmdgaa.Txn

-- YtgapjdkelkmdgaaDiskFacts
/- Plain facts of disks: what a flush and a crash leave, what is read behind them; a copy of a string's head into a row of bytes. Conditions: as each theorem types them. -/
namespace Go.Proofs.Ytgapjdkelkmdgaa.DiskF
open Go.ChangeShapes Go.WideShapes Go.ChangeAt Go.RowKit
open Wr (Wt wcells d0)
open Dk (D Holds Ok Own RowIn Box Turned Fits)
open ReadS (lastTo readV Has readF)
open Store (storeF storeV keepP allP stored_len)
open WriteS (writeF)
open RowG
set_option linter.unusedVariables false

theorem stored_size (ss : List ByteArray) (ws : List Wt) (p : Nat → Bool) (h : ∀ y ∈ ss, y.size = 32) : ∀ k, k ≤ ws.length → (∀ y ∈ ws, y.2.size = 32) → ∀ y ∈ Store.stored ss ws p k, y.size = 32
  | 0, _, _ => h
  | k + 1, hk, hw => by
    rw [Store.stored]
    split
    · intro y hy
      rcases List.mem_or_eq_of_mem_set hy with h' | h'
      · exact stored_size ss ws p h k (by omega) hw y h'
      · rw [h', List.getD_eq_getElem?_getD, List.getElem?_eq_getElem (by omega)]
        exact hw _ (List.getElem_mem _)
    · exact stored_size ss ws p h k (by omega) hw
theorem stored_none (ss : List ByteArray) (ws : List Wt) : ∀ k, Store.stored ss ws (keepP []) k = ss
  | 0 => rfl
  | k + 1 => by
    rw [Store.stored, if_neg (by simp [keepP])]
    exact stored_none ss ws k
theorem stored_every (ss : List ByteArray) (ws : List Wt) (n : Nat) : ∀ k, k ≤ n → Store.stored ss ws (keepP (List.replicate n true)) k = Store.stored ss ws allP k
  | 0, _ => rfl
  | k + 1, hk => by
    have h1 : keepP (List.replicate n true) k = true := by
      unfold keepP
      rw [List.length_replicate, decide_eq_true (by omega), Bool.true_and, List.getD_eq_getElem?_getD, List.getElem?_replicate, if_pos (by omega)]
      rfl
    rw [Store.stored, if_pos h1, Store.stored, if_pos (show allP k = true from rfl), stored_every ss ws n k (by omega)]
theorem stored_reads (ss : List ByteArray) (ws : List Wt) (i : Nat) (hi : i < ss.length) : ∀ k, k ≤ ws.length → (∀ y ∈ ws, 0 ≤ y.1) → (Store.stored ss ws allP k).getD i ⟨#[]⟩ = (lastTo ws i k).getD (ss.getD i ⟨#[]⟩)
  | 0, _, _ => rfl
  | k + 1, hk, hw => by
    have ih := stored_reads ss ws i hi k (by omega) hw
    have h0 : 0 ≤ (ws.getD k d0).1 := by
      rw [List.getD_eq_getElem?_getD, List.getElem?_eq_getElem (by omega)]
      exact hw _ (List.getElem_mem _)
    rw [Store.stored, if_pos (show allP k = true from rfl), lastTo]
    generalize ws.getD k d0 = y at h0 ⊢
    by_cases he : y.1 = i
    · rw [if_pos he, he, Int.toNat_natCast, List.getD_eq_getElem?_getD, List.getElem?_set_self (by rw [stored_len]; exact hi)]
      rfl
    · rw [if_neg he, ← ih, List.getD_eq_getElem?_getD, List.getElem?_set_ne (by omega), List.getD_eq_getElem?_getD]
theorem ok_sizes {d : D} (h : Ok d) : (∀ y ∈ d.1, y.size = 32) ∧ ∀ y ∈ d.2, Fits d.1.length y := by
  refine ⟨fun y hy => ?_, fun y hy => ?_⟩
  · obtain ⟨j, hj, rfl⟩ := List.getElem_of_mem hy
    have := h.2.1 j hj
    rwa [List.getD_eq_getElem?_getD, List.getElem?_eq_getElem hj] at this
  · obtain ⟨j, hj, rfl⟩ := List.getElem_of_mem hy
    have := h.2.2 j hj
    rwa [List.getD_eq_getElem?_getD, List.getElem?_eq_getElem hj] at this
theorem ok_of {d : D} (h1 : d.1.length ≤ 400) (h2 : d.2.length ≤ 400) (h3 : ∀ y ∈ d.1, y.size = 32) (h4 : ∀ y ∈ d.2, Fits d.1.length y) : Ok d :=
  ⟨⟨h1, h2⟩, fun j hj => by rw [List.getD_eq_getElem?_getD, List.getElem?_eq_getElem hj]; exact h3 _ (List.getElem_mem _), fun j hj => by rw [List.getD_eq_getElem?_getD, List.getElem?_eq_getElem hj]; exact h4 _ (List.getElem_mem _)⟩

/-- All that the law leans on, of a drawn disk, a string of a sector's size. -/
structure Facts (d x f c : D) (data : ByteArray) : Prop where
  write : writeF d 0 data = (x, true)
  okd : decide (Ok d) = true
  flush : storeV allP x = f
  crash : storeV (keepP []) x = c
  every : storeV (keepP (List.replicate x.2.length true)) x = f
  lx1 : x.1.length = d.1.length
  lx2 : x.2.length = d.2.length + 1
  lf1 : f.1.length = d.1.length
  lf2 : f.2.length = 0
  lc1 : c.1.length = d.1.length
  lc2 : c.2.length = 0
  same : ∀ i : Nat, i < d.1.length → readF f i = readF x i
  gone : ∀ i : Nat, i < d.1.length → readF c i = d.1.getD i ⟨#[]⟩
  last : readF x 0 = data

theorem facts (d : D) (data : ByteArray) (hok : Ok d) (h1 : 1 ≤ d.1.length) (h2 : d.2.length ≤ 3) (h32 : data.size = 32) : ∃ x f c, Facts d x f c data := by
  obtain ⟨hz, hf⟩ := ok_sizes hok
  have hL := hok.1.1
  have hx : Ok (d.1, d.2 ++ [((0 : Int), data)]) := ok_of hL (by simp; omega) hz (fun y hy => by
    rcases List.mem_append.1 hy with h | h
    · exact hf y h
    · simp at h; subst h; exact ⟨⟨Int.le_refl _, by dsimp only; omega⟩, h32⟩)
  have hz2 : ∀ y ∈ d.2 ++ [((0 : Int), data)], y.2.size = 32 := fun y hy => ((ok_sizes hx).2 y hy).2
  have h02 : ∀ y ∈ d.2 ++ [((0 : Int), data)], 0 ≤ y.1 := fun y hy => ((ok_sizes hx).2 y hy).1.1
  have hfk : Ok (Store.stored d.1 (d.2 ++ [((0 : Int), data)]) allP (d.2 ++ [((0 : Int), data)]).length, []) := ok_of (by dsimp only; rw [stored_len]; exact hL) (by simp) (stored_size _ _ _ hz _ (Nat.le_refl _) hz2) (by simp)
  have hck : Ok (d.1, []) := ok_of hL (by simp) hz (by simp)
  refine ⟨(d.1, d.2 ++ [((0 : Int), data)]), (Store.stored d.1 (d.2 ++ [((0 : Int), data)]) allP (d.2 ++ [((0 : Int), data)]).length, []), (d.1, []), ?_, decide_eq_true hok, ?_, ?_, ?_, rfl, by simp, by dsimp only; rw [stored_len], rfl, rfl, rfl, ?_, ?_, ?_⟩
  · exact if_pos ⟨hok, ⟨Int.le_refl _, by omega⟩, h32, by omega⟩
  · rw [storeV, if_pos hx]; rfl
  · rw [storeV, if_pos hx, storeF, stored_none]
  · rw [storeV, if_pos hx, storeF]
    dsimp only
    rw [stored_every _ _ _ _ (Nat.le_refl _)]
  · intro i hi
    rw [readF, if_pos ⟨hfk, by omega, by dsimp only; rw [stored_len]; omega⟩, readF, if_pos ⟨hx, by omega, by dsimp only; omega⟩, readV, readV]
    dsimp only [List.length_nil]
    rw [lastTo, Int.toNat_natCast, Option.getD_none, stored_reads _ _ i hi _ (Nat.le_refl _) h02]
  · intro i hi
    rw [readF, if_pos ⟨hck, by omega, by dsimp only; omega⟩, readV]
    dsimp only [List.length_nil]
    rw [lastTo, Int.toNat_natCast, Option.getD_none]
  · rw [readF, if_pos ⟨hx, Int.le_refl _, by dsimp only; omega⟩, readV]
    dsimp only
    rw [List.length_append, List.length_singleton, lastTo]
    have e : (d.2 ++ [((0 : Int), data)]).getD d.2.length d0 = ((0 : Int), data) := by
      rw [List.getD_eq_getElem?_getD, List.getElem?_append_right (Nat.le_refl _), Nat.sub_self]; rfl
    rw [e, if_pos rfl]
    rfl

theorem bytes_eq (s : ByteArray) : Lib.byteCells s.data.toList = cellsB s.data.toList := rfl
/-- copy of a string into a row of bytes that it fills or not: the row still holds as many bytes. -/
theorem run_copy_head {P : Program} (w : World) (dT sT ty e : TypeId) (g n : Nat) (s : ByteArray) (l : List UInt8) (base : Nat)
    (hu : P.underlying dT = some (.slice e)) (hs : (P.info? e).map (·.size) = some 1) (h : w.ownsRow base e 1 (.slice (some ⟨g, 0, none⟩) n n) n (cellsB l)) :
    ∃ (l' : List UInt8) (v : Value) (w' : World), (Builtin.copy_ #[dT, sT] ty #[.slice (some ⟨g, 0, none⟩) n n, .string s]).run P w = .ok v w' ∧ l'.length = n ∧ w'.ownsRow base e 1 (.slice (some ⟨g, 0, none⟩) n n) n (cellsB l') ∧ w.grownBy w' (some g) := by
  have hln : (cellsB l).length = n := by have := h.1; omega
  rcases h.2 with ⟨hv, _⟩ | ⟨g', cap, cur, hv, hb, hg, hc1, hc2, hc3, htk⟩
  · cases hv
  cases hv
  have hcur : cur.toList = cellsB l := by
    rw [← htk, List.take_of_length_le (by simp; omega)]
  obtain ⟨m, hm⟩ : ∃ m, m = Nat.min s.size n := ⟨_, rfl⟩
  have hmn : m ≤ n := by rw [hm]; exact Nat.min_le_right _ _
  have hms : m ≤ s.data.toList.length := by rw [hm]; have := Nat.min_le_left s.size n; rw [← Lib.size_eq]; exact this
  have hk : ((cellsB s.data.toList).take m).length = m := by rw [List.length_take, cellsB_length]; omega
  have hst := run_storeCells_at P g 0 e ((cellsB s.data.toList).take m) 0 cur w hg (by rw [hk]; omega) (fun v hv => Lib.byteCells_one s.data.toList v (List.mem_of_mem_take hv))
  simp only [Nat.zero_add, List.take_zero, List.nil_append, hk] at hst
  refine ⟨s.data.toList.take m ++ l.drop m, goInt m, w.setRow g ((cellsB s.data.toList).take m ++ cur.toList.drop m).toArray, ?_, ?_, ?_, ?_⟩
  · cases hq : P.info? e with
    | none => simp [hq] at hs
    | some i =>
      simp [Builtin.copy_, run_underlying hu, Builtin.lenOf, Builtin.firstCells, sizeOf, typeInfo, hq, ← hm]
      have e1 : List.map (fun b : UInt8 => Value.int IntKind.u8 (b.toNat : Int)) s.data.toList = cellsB s.data.toList := rfl
      first
        | rw [e1, hst]; simp [Result.andThen]
        | (rw [List.map_take, e1, hst]; simp [Result.andThen])
  · rw [List.length_append, List.length_take, List.length_drop]
    rw [cellsB_length] at hln
    omega
  · rw [cellsB_append]
    have e2 : cellsB (s.data.toList.take m) = (cellsB s.data.toList).take m := by simp [cellsB]
    have e3 : cellsB (l.drop m) = cur.toList.drop m := by rw [hcur]; simp [cellsB]
    rw [e2, e3]
    refine ⟨by rw [List.length_append, hk, List.length_drop, hcur, hln]; omega, .inr ⟨g, n, _, rfl, hb, setRow_heap w g cur _ e _ hg, Nat.le_refl _, hc2, ?_, ?_⟩⟩
    · simp only [List.size_toArray, List.length_append, hk, List.length_drop, hcur, hln]; omega
    · rw [List.take_of_length_le]
      simp only [List.length_append, hk, List.length_drop, hcur, hln]; omega
  · exact ⟨rfl, rfl, rfl, by simp [World.setRow], fun k hk hne => setRow_other w g k _ (fun e => hne (by rw [e]))⟩
end Go.Proofs.Ytgapjdkelkmdgaa.DiskF

-- YtgapjdkelkmdgaaJF
/- Plain facts: a crash at any step of a transaction, then recovery, leaves all of its writes or none. Conditions: as each theorem types them. -/
namespace Go.Proofs.Ytgapjdkelkmdgaa.JF
open Wr (Wt d0)
open Dk (D Ok Fits)
open ReadS (readF readV Has lastTo)
open Txn (St fl zero endV jourV commitV stepsV stepV runL recV recoverV listV Busy Okay OkAt Tgt Full)
open Store (storeV storeF keepP allP)
open Txn (tgts tgtW payW tgtTo)
set_option linter.unusedVariables false

def e0 : ByteArray := ⟨#[]⟩
/-- The sectors behind the writes. -/
def apply (ss : List ByteArray) (ws : List Wt) : List ByteArray := ws.foldl (fun s x => s.set x.1.toNat x.2) ss
theorem apply_append (ss : List ByteArray) (a b : List Wt) : apply ss (a ++ b) = apply (apply ss a) b := List.foldl_append
theorem apply_cons (ss : List ByteArray) (a : Wt) (b : List Wt) : apply ss (a :: b) = apply (ss.set a.1.toNat a.2) b := rfl
theorem apply_len (ss : List ByteArray) (ws : List Wt) : (apply ss ws).length = ss.length := by
  induction ws generalizing ss with
  | nil => rfl
  | cons a l ih => rw [apply_cons, ih, List.length_set]
theorem apply_size (ss : List ByteArray) (ws : List Wt) (h : ∀ y ∈ ss, y.size = 32) (hw : ∀ x ∈ ws, x.2.size = 32) : ∀ y ∈ apply ss ws, y.size = 32 := by
  induction ws generalizing ss with
  | nil => exact h
  | cons a l ih =>
    rw [apply_cons]
    refine ih _ (fun y hy => ?_) (fun x hx => hw x (by simp [hx]))
    rcases List.mem_or_eq_of_mem_set hy with h' | h'
    · exact h y h'
    · rw [h']; exact hw a (by simp)
theorem set_ne {ss : List ByteArray} {i j : Nat} {v : ByteArray} (h : i ≠ j) : (ss.set i v).getD j e0 = ss.getD j e0 := by
  rw [List.getD_eq_getElem?_getD, List.getElem?_set_ne h, List.getD_eq_getElem?_getD]
theorem set_eq {ss : List ByteArray} {i : Nat} {v : ByteArray} (h : i < ss.length) : (ss.set i v).getD i e0 = v := by
  rw [List.getD_eq_getElem?_getD, List.getElem?_set_self h]; rfl
theorem apply_ne (ss : List ByteArray) (ws : List Wt) (i : Nat) (h : ∀ x ∈ ws, x.1.toNat ≠ i) : (apply ss ws).getD i e0 = ss.getD i e0 := by
  induction ws generalizing ss with
  | nil => rfl
  | cons a l ih => rw [apply_cons, ih _ (fun x hx => h x (by simp [hx])), set_ne (h a (by simp))]
theorem apply_mem (ss : List ByteArray) (ws : List Wt) (hp : ws.Pairwise (fun x y => x.1 < y.1)) (h0 : ∀ x ∈ ws, 0 ≤ x.1) (x : Wt) (hx : x ∈ ws) (hl : x.1.toNat < ss.length) : (apply ss ws).getD x.1.toNat e0 = x.2 := by
  induction ws generalizing ss with
  | nil => cases hx
  | cons a l ih =>
    rw [apply_cons]
    rw [List.pairwise_cons] at hp
    rcases List.mem_cons.1 hx with rfl | hx
    · rw [apply_ne _ _ _ (fun y hy => by have := hp.1 y hy; have := h0 x (by simp); have := h0 y (by simp [hy]); omega), set_eq hl]
    · exact ih _ hp.2 (fun y hy => h0 y (by simp [hy])) hx (by rw [List.length_set]; exact hl)
/-- What the law's loop wants. -/
def wantF (v : ByteArray) (l : List Wt) (i : Int) : ByteArray := l.foldl (fun v x => if x.1 = i then x.2 else v) v
theorem apply_want (ss : List ByteArray) (ws : List Wt) (i : Nat) (hi : i < ss.length) (h0 : ∀ x ∈ ws, 0 ≤ x.1) : (apply ss ws).getD i e0 = wantF (ss.getD i e0) ws i := by
  induction ws generalizing ss with
  | nil => rfl
  | cons a l ih =>
    have ha := h0 a (by simp)
    rw [apply_cons, ih _ (by rw [List.length_set]; exact hi) (fun x hx => h0 x (by simp [hx]))]
    show _ = wantF (if a.1 = (i : Int) then a.2 else ss.getD i e0) l i
    by_cases he : a.1 = (i : Int)
    · rw [if_pos he, he, Int.toNat_natCast, set_eq hi]
    · rw [if_neg he, set_ne (by omega)]
theorem stored_sub (ss : List ByteArray) (ws : List Wt) (p : Nat → Bool) : ∀ k, k ≤ ws.length → ∃ sub, sub.Sublist (ws.take k) ∧ Store.stored ss ws p k = apply ss sub := by
  intro k
  induction k with
  | zero => intro _; exact ⟨[], by simp, rfl⟩
  | succ k ih =>
    intro hk
    obtain ⟨sub, h1, h2⟩ := ih (by omega)
    have ht : ws.take (k + 1) = ws.take k ++ [ws.getD k d0] := Txn.take_snoc ws k (by omega)
    rw [Store.stored, h2]
    split
    · refine ⟨sub ++ [ws.getD k d0], by rw [ht]; exact List.Sublist.append h1 (List.Sublist.refl _), ?_⟩
      rw [apply_append]; rfl
    · exact ⟨sub, by rw [ht]; exact h1.trans (List.sublist_append_left _ _), rfl⟩
theorem stored_all (ss : List ByteArray) (ws : List Wt) : ∀ k, k ≤ ws.length → Store.stored ss ws allP k = apply ss (ws.take k) := by
  intro k
  induction k with
  | zero => intro _; rfl
  | succ k ih =>
    intro hk
    rw [Store.stored, if_pos (show allP k = true from rfl), ih (by omega), Txn.take_snoc ws k (by omega), apply_append]
    rfl
theorem crash_sub {xs : List ByteArray} {ps : List Wt} (h : Ok (xs, ps)) (bs : List Bool) : ∃ sub, sub.Sublist ps ∧ storeV (keepP bs) (xs, ps) = (apply xs sub, []) := by
  obtain ⟨sub, h1, h2⟩ := stored_sub xs ps (keepP bs) ps.length (Nat.le_refl _)
  rw [List.take_of_length_le (Nat.le_refl _)] at h1
  refine ⟨sub, h1, ?_⟩
  unfold storeV
  rw [if_pos h]
  show (Store.stored xs ps (keepP bs) ps.length, []) = _
  rw [h2]
theorem flush_eq {xs : List ByteArray} {ps : List Wt} (h : Ok (xs, ps)) : stepV (xs, ps) fl = (apply xs ps, []) := by
  show storeV allP (xs, ps) = _
  unfold storeV
  rw [if_pos h]
  show (Store.stored xs ps allP ps.length, []) = _
  rw [stored_all xs ps ps.length (Nat.le_refl _), List.take_of_length_le (Nat.le_refl _)]
/-- Sectors of a disk: at most 400 of 32 bytes. -/
def Sec (n : Nat) (xs : List ByteArray) : Prop := xs.length = n ∧ ∀ y ∈ xs, y.size = 32
theorem ok_sec {n : Nat} {xs : List ByteArray} {ps : List Wt} (hn : n ≤ 400) (h : Sec n xs) (hp : ps.length ≤ 400) (hf : ∀ x ∈ ps, Fits n x) : Ok (xs, ps) :=
  DiskF.ok_of (by rw [h.1]; exact hn) hp h.2 (fun y hy => by rw [h.1]; exact hf y hy)
theorem Sec.apply {n : Nat} {xs : List ByteArray} {ws : List Wt} (h : Sec n xs) (hw : ∀ x ∈ ws, x.2.size = 32) : Sec n (apply xs ws) := ⟨by rw [apply_len]; exact h.1, apply_size _ _ h.2 hw⟩
theorem writes_eq {n : Nat} {xs : List ByteArray} (hn : n ≤ 400) (h : Sec n xs) : ∀ (ws ps : List Wt), ps.length + ws.length ≤ 400 → (∀ x ∈ ps, Fits n x) → (∀ x ∈ ws, Fits n x) → runL (xs, ps) (ws.map Txn.wr) = (xs, ps ++ ws) := by
  intro ws
  induction ws with
  | nil => intro ps _ _ _; simp [runL]
  | cons a l ih =>
    intro ps hl hp hw
    have ha := hw a (by simp)
    simp only [List.length_cons] at hl
    have hok : Ok (xs, ps) := ok_sec hn h (by omega) hp
    have h1 : stepV (xs, ps) (Txn.wr a) = (xs, ps ++ [a]) := by
      show (WriteS.writeF (xs, ps) a.1 a.2).1 = _
      unfold WriteS.writeF
      have hh : Has (xs, ps) a.1 := ⟨ha.1.1, by show a.1 < (xs.length : Int); rw [h.1]; exact ha.1.2⟩
      rw [if_pos ⟨hok, hh, ha.2, by show ps.length ≠ 400; omega⟩]
    show runL (stepV (xs, ps) (Txn.wr a)) (l.map Txn.wr) = _
    rw [h1, ih (ps ++ [a]) (by rw [List.length_append]; simp; omega) (fun x hx => by
      rcases List.mem_append.1 hx with hx | hx
      · exact hp x hx
      · simp at hx; subst hx; exact ha) (fun x hx => hw x (by simp [hx]))]
    simp
theorem runL_append (d : D) (a b : List St) : runL d (a ++ b) = runL (runL d a) b := List.foldl_append
theorem runL_cons (d : D) (a : St) (b : List St) : runL d (a :: b) = runL (stepV d a) b := rfl
theorem read_sec {n : Nat} {xs : List ByteArray} {ps : List Wt} (hn : n ≤ 400) (h : Sec n xs) (hp : ps.length ≤ 400) (hf : ∀ x ∈ ps, Fits n x) (i : Nat) (hi : i < n) : readF (xs, ps) (i : Int) = (apply xs ps).getD i e0 := by
  have hok := ok_sec hn h hp hf
  have hh : Has (xs, ps) (i : Int) := ⟨by omega, by show (i : Int) < (xs.length : Int); rw [h.1]; omega⟩
  rw [Txn.readF_yes hok hh]
  have := DiskF.stored_reads xs ps i (by rw [h.1]; exact hi) ps.length (Nat.le_refl _) (fun y hy => (hf y hy).1.1)
  rw [stored_all xs ps ps.length (Nat.le_refl _), List.take_of_length_le (Nat.le_refl _)] at this
  show (lastTo ps (i : Int) ps.length).getD (xs.getD (i : Int).toNat ⟨#[]⟩) = _
  rw [Int.toNat_natCast]
  exact this.symm

/-- A disk of n sectors with an empty journal, and a transaction for it. -/
structure Base (n : Nat) (ss : List ByteArray) (l : List Wt) : Prop where
  n1 : 70 ≤ n
  n2 : n ≤ 400
  sec : Sec n ss
  z : ss.getD 1 e0 = zero
  l1 : 1 ≤ l.length
  l2 : l.length ≤ 64
  asc : l.Pairwise (fun x y => x.1 < y.1)
  fit : ∀ x ∈ l, Fits n x
  out : ∀ x ∈ l, ¬ (1 ≤ x.1 ∧ x.1 < 70)
variable {n : Nat} {ss : List ByteArray} {l : List Wt}
theorem getD_mem {l : List Wt} {k : Nat} (hk : k < l.length) : l.getD k d0 ∈ l := by
  rw [List.getD_eq_getElem?_getD, List.getElem?_eq_getElem hk]; exact List.getElem_mem _
theorem Base.okay (h : Base n ss l) {cs : List ByteArray} {ps : List Wt} (hc : Ok (cs, ps)) (hl : cs.length = n) : Okay (cs, ps) l := by
  refine ⟨⟨hc, by show 70 ≤ cs.length; rw [hl]; exact h.n1⟩, ⟨h.l1, h.l2⟩, fun k hk => ⟨?_, h.out _ (getD_mem hk), fun h0 => ?_⟩⟩
  · show Fits cs.length _
    rw [hl]; exact h.fit _ (getD_mem hk)
  · have := List.pairwise_iff_getElem.1 h.asc (k - 1) k (by omega) hk (by omega)
    rw [List.getD_eq_getElem?_getD, List.getElem?_eq_getElem (show k - 1 < l.length by omega), List.getD_eq_getElem?_getD, List.getElem?_eq_getElem hk]
    exact this
theorem Base.tgt (h : Base n ss l) : Tgt l := ⟨⟨h.l1, h.l2⟩, fun k hk => by
  have := (h.fit _ (getD_mem hk)).1
  have := h.n2
  omega⟩
theorem Base.full (h : Base n ss l) : Full l := fun k hk => (h.fit _ (getD_mem hk)).2
theorem cut_sz (h : Base n ss l) (j : Nat) : ((CutAll.cutAll (tgts l) 32).getD j ⟨#[]⟩).size ≤ 32 := by
  rw [List.getD_eq_getElem?_getD]
  cases hj : (CutAll.cutAll (tgts l) 32)[j]? with
  | none => exact Nat.zero_le _
  | some x =>
    unfold CutAll.cutAll at hj
    rw [if_pos (by decide)] at hj
    unfold CutAll.cut at hj
    rw [List.getElem?_map] at hj
    obtain ⟨i, hi, rfl⟩ := Option.map_eq_some_iff.1 hj
    show (ByteArray.extract _ _ _).size ≤ 32
    rw [ByteArray.size_extract]
    have : (32 : Int).toNat = 32 := rfl
    rw [this]
    omega
theorem cnt4 (h : Base n ss l) : (CutAll.cutAll (tgts l) 32).length ≤ 4 := by
  rw [Txn.cut_len h.tgt]; have := h.l2; omega
theorem Base.jour (h : Base n ss l) : jourV l = tgtW l ++ payW l := Txn.jour_yes h.tgt h.full
theorem Base.jfit (h : Base n ss l) : ∀ x ∈ jourV l, (2 ≤ x.1 ∧ x.1 < 70) ∧ x.2.size = 32 := by
  intro x hx
  rw [h.jour] at hx
  rcases List.mem_append.1 hx with hx | hx
  · obtain ⟨k, hk, rfl⟩ := List.mem_map.1 hx
    have := cnt4 h
    have hk' : k < (CutAll.cutAll (tgts l) 32).length := by simpa using hk
    exact ⟨⟨by show (2 : Int) ≤ ((2 + k : Nat) : Int); omega, by show ((2 + k : Nat) : Int) < 70; omega⟩, Txn.pad32 _ (cut_sz h k)⟩
  · obtain ⟨k, hk, rfl⟩ := List.mem_map.1 hx
    have hk' : k < l.length := by simpa using hk
    have := h.l2
    exact ⟨⟨by show (2 : Int) ≤ ((6 + k : Nat) : Int); omega, by show ((6 + k : Nat) : Int) < 70; omega⟩, h.full k hk'⟩
theorem Base.jfits (h : Base n ss l) : ∀ x ∈ jourV l, Fits n x := fun x hx => by
  have h1 := h.jfit x hx
  have := h.n1
  exact ⟨⟨by omega, by omega⟩, h1.2⟩
theorem range_asc (f : Nat → Wt) (c m : Nat) (h : ∀ k, (f k).1 = ((c + k : Nat) : Int)) : ((List.range m).map f).Pairwise (fun x y => x.1 < y.1) := by
  rw [List.pairwise_map]
  refine List.Pairwise.imp ?_ (List.pairwise_lt_range)
  intro a b hab
  rw [h a, h b]
  omega
theorem Base.jasc (h : Base n ss l) : (jourV l).Pairwise (fun x y => x.1 < y.1) := by
  rw [h.jour, List.pairwise_append]
  refine ⟨range_asc _ 2 _ (fun k => rfl), range_asc _ 6 _ (fun k => rfl), fun x hx y hy => ?_⟩
  obtain ⟨k, hk, rfl⟩ := List.mem_map.1 hx
  obtain ⟨k', hk', rfl⟩ := List.mem_map.1 hy
  have := cnt4 h
  have hk2 : k < (CutAll.cutAll (tgts l) 32).length := by simpa using hk
  show ((2 + k : Nat) : Int) < ((6 + k' : Nat) : Int)
  omega
theorem Base.jlen (h : Base n ss l) : (jourV l).length ≤ 68 := by
  rw [h.jour, List.length_append, Txn.tgtW_len, Txn.payW_len]
  have := cnt4 h
  have := h.l2
  omega
theorem Base.zero32 : zero.size = 32 := Txn.pad32 ⟨#[]⟩ (by decide)
end Go.Proofs.Ytgapjdkelkmdgaa.JF

-- YtgapjdkelkmdgaaJFTwo
/- Plain facts: a crash at any step of a transaction, then recovery, leaves all of its writes or none; what a journal was given is read. Conditions: as each theorem types them. -/
namespace Go.Proofs.Ytgapjdkelkmdgaa.JF
open Wr (Wt d0)
open Dk (D Ok Fits)
open ReadS (readF)
open Txn (St fl zero endV jourV commitV stepsV stepV runL recV recoverV listV Busy Tgt)
open Store (storeV keepP allP)
open Txn (tgts tgtW payW)
set_option linter.unusedVariables false
variable {n : Nat} {ss : List ByteArray} {l : List Wt} {q : Nat}

/-- The commit sector of l with the number q. -/
def cm (q : Nat) (l : List Wt) : Wt := (1, commitV q l)
def zw : Wt := (1, zero)
theorem Base.cm32 (h : Base n ss l) (hq : q ≤ 1000000000) : (commitV q l).size = 32 := Txn.commit_size q l hq h.tgt
theorem Base.cmfit (h : Base n ss l) (hq : q ≤ 1000000000) : Fits n (cm q l) := ⟨⟨by show (0 : Int) ≤ 1; omega, by show (1 : Int) < (n : Int); have := h.n1; omega⟩, h.cm32 hq⟩
theorem Base.zfit (h : Base n ss l) : Fits n zw := ⟨⟨by show (0 : Int) ≤ 1; omega, by show (1 : Int) < (n : Int); have := h.n1; omega⟩, Base.zero32⟩
/-- A sector of the disk outside of the journal. -/
def Out (n i : Nat) : Prop := i < n ∧ ¬ (1 ≤ i ∧ i < 70)
/-- The journal holds l. -/
def Jrn (l : List Wt) (cs : List ByteArray) : Prop := ∀ x ∈ jourV l, cs.getD x.1.toNat e0 = x.2
def StO (n : Nat) (ss cs : List ByteArray) : Prop := cs.getD 1 e0 = zero ∧ ∀ i, Out n i → cs.getD i e0 = ss.getD i e0
def StC (n q : Nat) (ss : List ByteArray) (l : List Wt) (cs : List ByteArray) : Prop := cs.getD 1 e0 = commitV q l ∧ Jrn l cs ∧ ∀ i, Out n i → cs.getD i e0 = ss.getD i e0 ∨ cs.getD i e0 = (apply ss l).getD i e0
def StD (n : Nat) (ss : List ByteArray) (l : List Wt) (cs : List ByteArray) : Prop := cs.getD 1 e0 = zero ∧ ∀ i, Out n i → cs.getD i e0 = (apply ss l).getD i e0
/-- What a crash leaves. -/
def Good (n q : Nat) (ss : List ByteArray) (l : List Wt) (cs : List ByteArray) : Prop := Sec n cs ∧ (StO n ss cs ∨ StC n q ss l cs ∨ StD n ss l cs)
theorem crash_of {xs : List ByteArray} {ps : List Wt} (hn : n ≤ 400) (h : Sec n xs) (hp : ps.length ≤ 400) (hf : ∀ x ∈ ps, Fits n x) (bs : List Bool) (P : List ByteArray → Prop) (hP : ∀ sub, sub.Sublist ps → P (apply xs sub)) : ∃ cs, storeV (keepP bs) (xs, ps) = (cs, []) ∧ Sec n cs ∧ P cs := by
  obtain ⟨sub, h1, h2⟩ := crash_sub (ok_sec hn h hp hf) bs
  exact ⟨_, h2, h.apply (fun x hx => (hf x (h1.subset hx)).2), hP sub h1⟩
theorem one_sub {x : Wt} {sub : List Wt} (h : sub.Sublist [x]) : sub = [] ∨ sub = [x] := by
  rcases List.sublist_cons_iff.1 h with h1 | ⟨r, rfl, h1⟩
  · exact .inl (List.sublist_nil.1 h1)
  · right; rw [List.sublist_nil.1 h1]
/-- The journal's writes, applied in part. -/
theorem Base.sub_o (h : Base n ss l) {sub : List Wt} (hs : sub.Sublist (jourV l)) : StO n ss (apply ss sub) := by
  refine ⟨?_, fun i hi => ?_⟩
  · rw [apply_ne _ _ _ (fun x hx => by have := (h.jfit x (hs.subset hx)).1; omega)]; exact h.z
  · exact apply_ne _ _ _ (fun x hx => by have := (h.jfit x (hs.subset hx)).1; have := hi.2; omega)
theorem Base.jrn (h : Base n ss l) : Jrn l (apply ss (jourV l)) := fun x hx => apply_mem _ _ h.jasc (fun y hy => by have := (h.jfit y hy).1; omega) x hx (by rw [h.sec.1]; have := (h.jfit x hx).1; have := h.n1; omega)
theorem jrn_out {cs : List ByteArray} {ws : List Wt} (h : Base n ss l) (hj : Jrn l cs) (hw : ∀ x ∈ ws, 0 ≤ x.1 ∧ ¬ (2 ≤ x.1 ∧ x.1 < 70)) : Jrn l (apply cs ws) := fun x hx => by
  rw [apply_ne _ _ _ (fun y hy => by have := (h.jfit x hx).1; have := hw y hy; omega)]
  exact hj x hx
theorem get1 {cs : List ByteArray} {v : ByteArray} (hl : 1 < cs.length) : (apply cs [((1 : Int), v)]).getD 1 e0 = v := set_eq hl
theorem get1_ne {cs : List ByteArray} {v : ByteArray} {i : Nat} (hi : i ≠ 1) : (apply cs [((1 : Int), v)]).getD i e0 = cs.getD i e0 := set_ne (by show (1 : Int).toNat ≠ i; omega)
/-- Some of the writes of l, applied to a disk whose journal holds it. -/
theorem Base.sub_c (h : Base n ss l) {cs : List ByteArray} (hs : Sec n cs) (hc : StC n q ss l cs) {sub : List Wt} (hb : sub.Sublist l) : StC n q ss l (apply cs sub) := by
  refine ⟨?_, jrn_out h hc.2.1 (fun x hx => ?_), fun i hi => ?_⟩
  · rw [apply_ne _ _ _ (fun x hx => by have := h.out x (hb.subset hx); have := (h.fit x (hb.subset hx)).1; omega)]; exact hc.1
  · have := h.out x (hb.subset hx); have := (h.fit x (hb.subset hx)).1; omega
  · by_cases he : ∃ x ∈ sub, x.1.toNat = i
    · obtain ⟨x, hx, rfl⟩ := he
      right
      have hxl := hb.subset hx
      have hlt := (h.fit x hxl).1
      rw [apply_mem cs sub (h.asc.sublist hb) (fun y hy => (h.fit y (hb.subset hy)).1.1) x hx (by rw [hs.1]; omega), apply_mem ss l h.asc (fun y hy => (h.fit y hy).1.1) x hxl (by rw [h.sec.1]; omega)]
    · rw [apply_ne _ _ _ (fun x hx e => he ⟨x, hx, e⟩)]
      exact hc.2.2 i hi
/-- All of them. -/
theorem Base.all_c (h : Base n ss l) {cs : List ByteArray} (hs : Sec n cs) (hc : StC n q ss l cs) (i : Nat) (hi : Out n i) : (apply cs l).getD i e0 = (apply ss l).getD i e0 := by
  by_cases he : ∃ x ∈ l, x.1.toNat = i
  · obtain ⟨x, hx, rfl⟩ := he
    have hlt := (h.fit x hx).1
    rw [apply_mem cs l h.asc (fun y hy => (h.fit y hy).1.1) x hx (by rw [hs.1]; omega), apply_mem ss l h.asc (fun y hy => (h.fit y hy).1.1) x hx (by rw [h.sec.1]; omega)]
  · have hne : ∀ x ∈ l, x.1.toNat ≠ i := fun x hx e => he ⟨x, hx, e⟩
    rcases hc.2.2 i hi with h1 | h1
    · rw [apply_ne _ _ _ hne, apply_ne _ _ _ hne, h1]
    · rw [apply_ne cs _ _ hne, h1]
theorem Base.done (h : Base n ss l) {cs : List ByteArray} (hs : Sec n cs) (hc : StC n q ss l cs) : StD n ss l (apply (apply cs l) [zw]) := by
  refine ⟨get1 (by rw [apply_len, hs.1]; have := h.n1; omega), fun i hi => ?_⟩
  rw [show zw = ((1 : Int), zero) from rfl, get1_ne (by have := hi.2; omega)]
  exact h.all_c hs hc i hi
theorem take_app {α : Type} (a : α) (A B : List α) (k : Nat) : (k ≤ A.length ∧ (A ++ a :: B).take k = A.take k) ∨ ∃ m, k = A.length + 1 + m ∧ (A ++ a :: B).take k = A ++ a :: B.take m := by
  rcases Nat.lt_or_ge A.length k with hk | hk
  · right
    refine ⟨k - A.length - 1, by omega, ?_⟩
    rw [List.take_append, List.take_of_length_le (by omega), show k - A.length = (k - A.length - 1) + 1 by omega, List.take_succ_cons]
    simp
  · left
    exact ⟨hk, List.take_append_of_le_length hk⟩
theorem take_two {α : Type} (a b : α) (B : List α) (k : Nat) : k = 0 ∨ k = 1 ∨ ∃ m, k = 2 + m ∧ (a :: b :: B).take k = a :: b :: B.take m := by
  match k with
  | 0 => exact .inl rfl
  | 1 => exact .inr (.inl rfl)
  | m + 2 => exact .inr (.inr ⟨m, by omega, rfl⟩)
/-- The state behind the journal's writes and their flush. -/
def X1 (ss : List ByteArray) (l : List Wt) : List ByteArray := apply ss (jourV l)
def X2 (q : Nat) (ss : List ByteArray) (l : List Wt) : List ByteArray := apply (X1 ss l) [cm q l]
theorem Base.s1 (h : Base n ss l) : Sec n (X1 ss l) := h.sec.apply (fun x hx => (h.jfit x hx).2)
theorem Base.s2 (h : Base n ss l) (hq : q ≤ 1000000000) : Sec n (X2 q ss l) := h.s1.apply (fun x hx => by simp at hx; subst hx; exact h.cm32 hq)
theorem Base.c2 (h : Base n ss l) : StC n q ss l (X2 q ss l) := by
  refine ⟨get1 (by rw [show (X1 ss l).length = n from (h.s1).1]; have := h.n1; omega), jrn_out h h.jrn (fun x hx => by simp at hx; subst hx; exact ⟨by show (0 : Int) ≤ 1; omega, by show ¬ ((2 : Int) ≤ 1 ∧ _); omega⟩), fun i hi => .inl ?_⟩
  show (apply (X1 ss l) [((1 : Int), commitV q l)]).getD i e0 = _
  rw [get1_ne (by have := hi.2; omega)]
  exact (h.sub_o (List.Sublist.refl _)).2 i hi
theorem Base.s3 (h : Base n ss l) (hq : q ≤ 1000000000) : Sec n (apply (X2 q ss l) l) := (h.s2 hq).apply (fun x hx => (h.fit x hx).2)
theorem Base.jour_r (h : Base n ss l) : runL (ss, []) ((jourV l).map Txn.wr) = (ss, jourV l) := by
  have := writes_eq h.n2 h.sec (jourV l) [] (by have := h.jlen; simp; omega) (by simp) h.jfits
  simpa using this
/-- The steps, as they fall apart. -/
theorem steps_eq (h : Base n ss l) (hq : q ≤ 1000000000) : stepsV q l = (jourV l).map Txn.wr ++ fl :: Txn.wr (cm q l) :: fl :: (l.map Txn.wr ++ fl :: Txn.wr zw :: fl :: []) := by
  unfold stepsV
  rw [if_neg]
  · unfold endV cm zw
    simp
  · intro hh
    rcases hh with hh | hh
    · exact Txn.jour_ne h.tgt h.full hh
    · have := h.cm32 hq
      rw [hh] at this
      cases this
theorem run_write {xs : List ByteArray} (hn : n ≤ 400) (h : Sec n xs) (x : Wt) (hx : Fits n x) : stepV (xs, []) (Txn.wr x) = (xs, [x]) := by
  have := writes_eq hn h [x] [] (by simp) (by simp) (by simpa using hx)
  simpa [runL] using this
theorem run_flush {xs : List ByteArray} {ps : List Wt} (hn : n ≤ 400) (h : Sec n xs) (hp : ps.length ≤ 400) (hf : ∀ x ∈ ps, Fits n x) : stepV (xs, ps) fl = (apply xs ps, []) := flush_eq (ok_sec hn h hp hf)
theorem pair_flush {xs : List ByteArray} (hn : n ≤ 400) (h : Sec n xs) (x : Wt) (hx : Fits n x) (B : List St) : runL (xs, []) (Txn.wr x :: fl :: B) = runL (apply xs [x], []) B := by
  rw [runL_cons, run_write hn h x hx, runL_cons, run_flush hn h (by simp) (by simpa using hx)]
theorem Base.crash (h : Base n ss l) (hq : q ≤ 1000000000) (k : Nat) (bs : List Bool) :
    ∃ cs, storeV (keepP bs) (runL (ss, []) ((stepsV q l).take k)) = (cs, []) ∧ Good n q ss l cs ∧ ((stepsV q l).length ≤ k → StD n ss l cs) := by
  have e1 := steps_eq h hq
  have hlen : (stepsV q l).length = (jourV l).length + l.length + 6 := by rw [e1]; simp; omega
  rw [e1]
  rcases take_app fl ((jourV l).map Txn.wr) (Txn.wr (cm q l) :: fl :: (l.map Txn.wr ++ fl :: Txn.wr zw :: fl :: [])) k with ⟨hk, e⟩ | ⟨m, hm, e⟩
  · rw [e, ← List.map_take]
    have hjt : ((jourV l).take k).Sublist (jourV l) := List.take_sublist _ _
    have hr := writes_eq h.n2 h.sec ((jourV l).take k) [] (by have := h.jlen; rw [List.length_take]; simp; omega) (by simp) (fun x hx => h.jfits x (hjt.subset hx))
    rw [hr]
    obtain ⟨cs, h1, h2, h3⟩ := crash_of h.n2 h.sec (ps := [] ++ (jourV l).take k) (by have := h.jlen; simp; omega) (fun x hx => h.jfits x (hjt.subset (by simpa using hx))) bs (StO n ss) (fun sub hs => h.sub_o (List.Sublist.trans (by simpa using hs) hjt))
    rw [List.length_map] at hk
    exact ⟨cs, h1, ⟨h2, .inl h3⟩, fun hh => by rw [← e1, hlen] at hh; omega⟩
  · rw [e, runL_append, h.jour_r, runL_cons, run_flush h.n2 h.sec (by have := h.jlen; omega) h.jfits]
    rw [List.length_map] at hm
    show ∃ cs, storeV (keepP bs) (runL (X1 ss l, []) _) = _ ∧ _
    rcases take_two (Txn.wr (cm q l)) fl (l.map Txn.wr ++ fl :: Txn.wr zw :: fl :: []) m with rfl | rfl | ⟨m2, hm2, e2⟩
    · obtain ⟨cs, h1, h2, h3⟩ := crash_of h.n2 h.s1 (ps := []) (by simp) (by simp) bs (StO n ss) (fun sub hs => by rw [List.sublist_nil.1 hs]; exact h.sub_o (List.Sublist.refl _))
      exact ⟨cs, h1, ⟨h2, .inl h3⟩, fun hh => by rw [← e1, hlen] at hh; omega⟩
    · show ∃ cs, storeV (keepP bs) (stepV (X1 ss l, []) (Txn.wr (cm q l))) = _ ∧ _
      rw [run_write h.n2 h.s1 _ (h.cmfit hq)]
      obtain ⟨cs, h1, h2, h3⟩ := crash_of h.n2 h.s1 (ps := [cm q l]) (by simp) (by simpa using h.cmfit hq) bs (fun cs => StO n ss cs ∨ StC n q ss l cs) (fun sub hs => by
        rcases one_sub hs with rfl | rfl
        · exact .inl (h.sub_o (List.Sublist.refl _))
        · exact .inr h.c2)
      exact ⟨cs, h1, ⟨h2, h3.elim .inl (fun hc => .inr (.inl hc))⟩, fun hh => by rw [← e1, hlen] at hh; omega⟩
    · rw [e2, pair_flush h.n2 h.s1 _ (h.cmfit hq)]
      show ∃ cs, storeV (keepP bs) (runL (X2 q ss l, []) _) = _ ∧ _
      rcases take_app fl (l.map Txn.wr) (Txn.wr zw :: fl :: []) m2 with ⟨hk3, e3⟩ | ⟨m3, hm3, e3⟩
      · rw [e3, ← List.map_take]
        have hlt : (l.take m2).Sublist l := List.take_sublist _ _
        have hr := writes_eq h.n2 (h.s2 hq) (l.take m2) [] (by have := h.l2; rw [List.length_take]; simp; omega) (by simp) (fun x hx => h.fit x (hlt.subset hx))
        rw [hr]
        obtain ⟨cs, h1, h2, h3⟩ := crash_of h.n2 (h.s2 hq) (ps := [] ++ l.take m2) (by have := h.l2; simp; omega) (fun x hx => h.fit x (hlt.subset (by simpa using hx))) bs (StC n q ss l) (fun sub hs => h.sub_c (h.s2 hq) h.c2 (List.Sublist.trans (by simpa using hs) hlt))
        rw [List.length_map] at hk3
        exact ⟨cs, h1, ⟨h2, .inr (.inl h3)⟩, fun hh => by rw [← e1, hlen] at hh; omega⟩
      · have hr := writes_eq h.n2 (h.s2 hq) l [] (by have := h.l2; simp; omega) (by simp) h.fit
        rw [e3, runL_append, hr, List.nil_append, runL_cons, run_flush h.n2 (h.s2 hq) (by have := h.l2; omega) h.fit]
        rw [List.length_map] at hm3
        have hc3 : StC n q ss l (apply (X2 q ss l) l) := h.sub_c (h.s2 hq) h.c2 (List.Sublist.refl _)
        have hd3 : StD n ss l (apply (apply (X2 q ss l) l) [zw]) := h.done (h.s2 hq) h.c2
        rcases take_two (Txn.wr zw) fl [] m3 with rfl | rfl | ⟨m4, hm4, e4⟩
        · obtain ⟨cs, h1, h2, h3⟩ := crash_of h.n2 (h.s3 hq) (ps := []) (by simp) (by simp) bs (StC n q ss l) (fun sub hs => by rw [List.sublist_nil.1 hs]; exact hc3)
          exact ⟨cs, h1, ⟨h2, .inr (.inl h3)⟩, fun hh => by rw [← e1, hlen] at hh; omega⟩
        · show ∃ cs, storeV (keepP bs) (stepV (apply (X2 q ss l) l, []) (Txn.wr zw)) = _ ∧ _
          rw [run_write h.n2 (h.s3 hq) _ h.zfit]
          obtain ⟨cs, h1, h2, h3⟩ := crash_of h.n2 (h.s3 hq) (ps := [zw]) (by simp) (by simpa using h.zfit) bs (fun cs => StC n q ss l cs ∨ StD n ss l cs) (fun sub hs => by
            rcases one_sub hs with rfl | rfl
            · exact .inl hc3
            · exact .inr hd3)
          exact ⟨cs, h1, ⟨h2, .inr h3⟩, fun hh => by rw [← e1, hlen] at hh; omega⟩
        · rw [e4, pair_flush h.n2 (h.s3 hq) _ h.zfit, List.take_nil]
          have hs4 : Sec n (apply (apply (X2 q ss l) l) [zw]) := (h.s3 hq).apply (fun x hx => by simp at hx; subst hx; exact Base.zero32)
          obtain ⟨cs, h1, h2, h3⟩ := crash_of h.n2 hs4 (ps := []) (by simp) (by simp) bs (StD n ss l) (fun sub hs => by rw [List.sublist_nil.1 hs]; exact hd3)
          exact ⟨cs, h1, ⟨h2, .inr (.inr h3)⟩, fun _ => h3⟩
theorem read_0 {cs : List ByteArray} (hn : n ≤ 400) (h : Sec n cs) (i : Nat) (hi : i < n) : readF (cs, []) (i : Int) = cs.getD i e0 := by
  have := read_sec hn h (ps := []) (by simp) (by simp) i hi
  simpa [apply] using this
/-- Whatever reads as the journal of l is found to hold it. -/
theorem Base.back (h : Base n ss l) (hq : q ≤ 1000000000) {c : D} (hok : Ok c) (hl : c.1.length = n) (cs : List ByteArray) (hr : ∀ i, i < n → readF c (i : Int) = cs.getD i e0) (h1 : cs.getD 1 e0 = commitV q l) (hj : Jrn l cs) : Busy c ∧ listV c = l := by
  have hn1 := h.n1
  refine Txn.read_back (seq := q) (h.okay hok hl) hq ?_ (fun j hj' => ?_) (fun k hk => ?_)
  · have := hr 1 (by omega); rw [h1] at this; exact this
  · have h4 := cnt4 h
    rw [hr (2 + j) (by omega)]
    have hm : (((2 + j : Nat) : Int), PadTo.padB ((CutAll.cutAll (tgts l) 32).getD j ⟨#[]⟩) 32) ∈ jourV l := by
      rw [h.jour]
      exact List.mem_append_left _ (List.mem_map.2 ⟨j, by simpa using hj', rfl⟩)
    exact hj _ hm
  · have hl2 := h.l2
    rw [hr (6 + k) (by omega)]
    have hm : (((6 + k : Nat) : Int), (l.getD k d0).2) ∈ jourV l := by
      rw [h.jour]
      exact List.mem_append_right _ (List.mem_map.2 ⟨k, by simpa using hk, rfl⟩)
    exact hj _ hm
/-- Recovery behind a crash. -/
theorem Base.recover (h : Base n ss l) (hq : q ≤ 1000000000) {cs : List ByteArray} (hg : Good n q ss l cs) :
    ∃ rs, recoverV (cs, []) = (rs, []) ∧ Sec n rs ∧ ¬ Busy (rs, []) ∧ ((∀ i, Out n i → rs.getD i e0 = ss.getD i e0) ∨ ∀ i, Out n i → rs.getD i e0 = (apply ss l).getD i e0) ∧ (StD n ss l cs → ∀ i, Out n i → rs.getD i e0 = (apply ss l).getD i e0) := by
  have hn1 := h.n1
  have free : ∀ rs : List ByteArray, Sec n rs → rs.getD 1 e0 = zero → ¬ Busy (rs, []) := fun rs hs hz => Txn.zero_free (by
    have := read_0 h.n2 hs 1 (by omega)
    rw [hz] at this
    exact this)
  have keep : ∀ rs : List ByteArray, Sec n rs → rs.getD 1 e0 = zero → recoverV (rs, []) = (rs, []) := fun rs hs hz => by
    unfold recoverV
    rw [Txn.rec_no (free rs hs hz)]
    rfl
  rcases hg with ⟨hs, ho | hc | hd⟩
  · exact ⟨cs, keep cs hs ho.1, hs, free cs hs ho.1, .inl ho.2, fun hd => hd.2⟩
  · have hb := h.back hq (ok_sec h.n2 hs (ps := []) (by simp) (by simp)) hs.1 cs (fun i hi => read_0 h.n2 hs i hi) hc.1 hc.2.1
    have hs2 : Sec n (apply cs l) := hs.apply (fun x hx => (h.fit x hx).2)
    have hs3 : Sec n (apply (apply cs l) [zw]) := hs2.apply (fun x hx => by simp at hx; subst hx; exact Base.zero32)
    have hd := h.done hs hc
    have hr := writes_eq h.n2 hs l [] (by have := h.l2; simp; omega) (by simp) h.fit
    refine ⟨_, ?_, hs3, free _ hs3 hd.1, .inr hd.2, fun _ => hd.2⟩
    unfold recoverV
    rw [Txn.rec_yes hb.1, hb.2]
    show runL (cs, []) (l.map Txn.wr ++ fl :: Txn.wr zw :: fl :: []) = _
    rw [runL_append, hr, List.nil_append, runL_cons, run_flush h.n2 hs (by have := h.l2; omega) h.fit, pair_flush h.n2 hs2 _ h.zfit]
    rfl
  · exact ⟨cs, keep cs hs hd.1, hs, free cs hs hd.1, .inr hd.2, fun _ => hd.2⟩
end Go.Proofs.Ytgapjdkelkmdgaa.JF

-- YtgapjdkelkmdgaaJFThree
/- Plain facts: what a drawn disk and a drawn transaction offer to the laws on the journal. Conditions: as each theorem types them. -/
namespace Go.Proofs.Ytgapjdkelkmdgaa.JFThree
open Wr (Wt d0)
open Dk (D Ok Fits)
open ReadS (readF Has)
open Txn (zero jourV commitV Busy listV seqV busyB)
open JF (Base Sec e0 ok_sec read_sec apply apply_append)
open Strs (total)
set_option linter.unusedVariables false

theorem base_of {ss : List ByteArray} {l : List Wt} (h : ss.length = 73 ∧ (∀ y ∈ ss, y.size = 32) ∧ ∀ j, j < 70 → ss.getD j ⟨#[]⟩ = NewD.zs) (hp : JDraw.Part l 4) : Base 73 ss l := by
  have hk : ∀ k, k < 4 → JDraw.secs.getD k 0 = 0 ∨ (70 ≤ JDraw.secs.getD k 0 ∧ JDraw.secs.getD k 0 ≤ 72) := by
    intro k hk
    rcases (show k = 0 ∨ k = 1 ∨ k = 2 ∨ k = 3 by omega) with rfl | rfl | rfl | rfl <;> decide
  refine ⟨by decide, by decide, ⟨h.1, h.2.1⟩, h.2.2 1 (by decide), ?_, by have := hp.2.2.1; omega, hp.2.1, fun x hx => ?_, fun x hx => ?_⟩
  · cases l with
    | nil => exact absurd rfl (hp.2.2.2 (by decide))
    | cons a l => simp
  · obtain ⟨k, _, h4, e, hs⟩ := hp.1 x hx
    have := hk k h4
    exact ⟨⟨by omega, by omega⟩, hs⟩
  · obtain ⟨k, _, h4, e, hs⟩ := hp.1 x hx
    have := hk k h4
    omega
variable {ss : List ByteArray} {l : List Wt}
theorem write_step (h : Base 73 ss l) {k : Nat} (hk : k < (jourV l).length) : WriteS.writeF (ss, (jourV l).take k) ((jourV l).getD k d0).1 ((jourV l).getD k d0).2 = ((ss, (jourV l).take (k + 1)), true) := by
  have hm : (jourV l).getD k d0 ∈ jourV l := JF.getD_mem hk
  have hf := h.jfits _ hm
  have hlt : ((jourV l).take k).length ≤ 68 := by have := h.jlen; rw [List.length_take]; omega
  have hok : Ok (ss, (jourV l).take k) := ok_sec h.n2 h.sec (by omega) (fun x hx => h.jfits x (List.mem_of_mem_take hx))
  unfold WriteS.writeF
  rw [if_pos ⟨hok, ⟨hf.1.1, by show _ < (ss.length : Int); rw [h.sec.1]; exact hf.1.2⟩, hf.2, by show ((jourV l).take k).length ≠ 400; omega⟩, Txn.take_snoc (jourV l) k hk]
theorem write_commit (h : Base 73 ss l) : WriteS.writeF (ss, jourV l) 1 (commitV 9 l) = ((ss, jourV l ++ [(1, commitV 9 l)]), true) := by
  have hok : Ok (ss, jourV l) := ok_sec h.n2 h.sec (by have := h.jlen; omega) h.jfits
  unfold WriteS.writeF
  rw [if_pos ⟨hok, ⟨by omega, by show (1 : Int) < (ss.length : Int); rw [h.sec.1]; omega⟩, h.cm32 (by decide), by show (jourV l).length ≠ 400; have := h.jlen; omega⟩]
theorem total_of (h : Base 73 ss l) : total (Wr.datas l) ≤ 1048576 := by
  have hh : ∀ l : List Wt, (∀ x ∈ l, x.2.size = 32) → total (Wr.datas l) = 32 * l.length := by
    intro l
    induction l with
    | nil => intro _; rfl
    | cons a l ih =>
      intro hx
      have e : total (Wr.datas (a :: l)) = a.2.size + total (Wr.datas l) := by simp [total, Wr.datas]
      rw [e, ih (fun x h => hx x (by simp [h])), hx a (by simp), List.length_cons]
      omega
  rw [hh l (fun x hx => (h.fit x hx).2)]
  have := h.l2
  omega
theorem read_facts (h : Base 73 ss l) : listV (ss, jourV l ++ [(1, commitV 9 l)]) = l ∧ seqV (ss, jourV l ++ [(1, commitV 9 l)]) = 9 ∧ busyB (ss, jourV l ++ [(1, commitV 9 l)]) = true := by
  have hp : (jourV l ++ [((1 : Int), commitV 9 l)]).length ≤ 400 := by have := h.jlen; rw [List.length_append]; simp; omega
  have hf : ∀ x ∈ jourV l ++ [((1 : Int), commitV 9 l)], Fits 73 x := by
    intro x hx
    rcases List.mem_append.1 hx with hx | hx
    · exact h.jfits x hx
    · simp at hx; subst hx; exact h.cmfit (by decide)
  have hok : Ok (ss, jourV l ++ [((1 : Int), commitV 9 l)]) := ok_sec h.n2 h.sec hp hf
  have hr : ∀ i : Nat, i < 73 → readF (ss, jourV l ++ [((1 : Int), commitV 9 l)]) (i : Int) = (JF.X2 9 ss l).getD i e0 := fun i hi => by
    rw [read_sec h.n2 h.sec hp hf i hi, apply_append]; rfl
  have hc := h.c2 (q := 9)
  have hb := h.back (q := 9) (by decide) hok h.sec.1 (JF.X2 9 ss l) hr hc.1 hc.2.1
  refine ⟨hb.2, ?_, (Txn.busy_yes hb.1).1⟩
  rw [(Txn.busy_yes hb.1).2.1]
  have h1 := hr 1 (by decide)
  rw [hc.1] at h1
  have : Txn.seqOf (ss, jourV l ++ [((1 : Int), commitV 9 l)]) = 9 := by
    show Txn.num (readF _ 1) 4 4 = 9
    rw [show readF (ss, jourV l ++ [((1 : Int), commitV 9 l)]) 1 = commitV 9 l from h1]
    exact Txn.commit_seq 9 l (by decide) h.tgt
  rw [this]
  rfl
theorem own_lens {w : World} {lo hi n c m e : Nat} {a b : Option Addr} {d : D} (h : Dk.Own w lo hi (.slice a n c) (.slice b m e) d) : n = d.1.length ∧ m = d.2.length := by
  have h1 := h.1.1.2
  have h2 := h.2.1.2
  refine ⟨?_, ?_⟩
  · rcases h1 with ⟨hv, h0⟩ | ⟨g, cap, cur, hv, _⟩
    · cases hv; exact h0.symm
    · cases hv; rfl
  · rcases h2 with ⟨hv, h0⟩ | ⟨g, cap, cur, hv, _⟩
    · cases hv; exact h0.symm
    · cases hv; rfl
theorem steps_len (h : Base 73 ss l) : 1 ≤ (Txn.stepsV 7 l).length ∧ (Txn.stepsV 7 l).length ≤ 200 := by
  have e := JF.steps_eq h (q := 7) (by decide)
  rw [show ((7 : Nat) : Int) = 7 from rfl] at e
  have hl : (Txn.stepsV 7 l).length = (jourV l).length + l.length + 6 := by rw [e]; simp; omega
  have := h.jlen
  have := h.l2
  omega
theorem steps_sz (h : Base 73 ss l) : ∀ x ∈ Txn.stepsV 7 l, x.2.2.size ≤ 1073741824 := by
  intro x hx
  have e := JF.steps_eq h (q := 7) (by decide)
  rw [show ((7 : Nat) : Int) = 7 from rfl] at e
  rw [e] at hx
  have hz := Base.zero32
  have hc := h.cm32 (q := 7) (by decide)
  rw [show ((7 : Nat) : Int) = 7 from rfl] at hc
  have h0 : (⟨#[]⟩ : ByteArray).size = 0 := rfl
  simp only [List.mem_append, List.mem_cons, List.mem_map, List.not_mem_nil, or_false] at hx
  rcases hx with ⟨y, hy, rfl⟩ | rfl | rfl | rfl | ⟨y, hy, rfl⟩ | rfl | rfl | rfl
  · have := (h.jfit y hy).2; show y.2.size ≤ _; omega
  · show (⟨#[]⟩ : ByteArray).size ≤ _; omega
  · show (commitV 7 l).size ≤ _; omega
  · show (⟨#[]⟩ : ByteArray).size ≤ _; omega
  · have := (h.fit y hy).2; show y.2.size ≤ _; omega
  · show (⟨#[]⟩ : ByteArray).size ≤ _; omega
  · show zero.size ≤ _; omega
  · show (⟨#[]⟩ : ByteArray).size ≤ _; omega
theorem txn_ok (h : Base 73 ss l) : Txn.Okay (ss, []) l := h.okay (ok_sec h.n2 h.sec (ps := []) (by simp) (by simp)) h.sec.1
/-- The sectors outside of the journal are the old ones; those of all writes. -/
def PO (ss rs : List ByteArray) : Prop := ∀ i : Nat, JF.Out 73 i → readF (rs, []) (i : Int) = ss.getD i e0
def PA (ss : List ByteArray) (l : List Wt) (rs : List ByteArray) : Prop := ∀ i : Nat, JF.Out 73 i → readF (rs, []) (i : Int) = JF.wantF (ss.getD i e0) l i
theorem journal_facts (h : Base 73 ss l) (k : Nat) (bs : List Bool) :
    ∃ rs, Txn.recoverV (Store.storeV (Store.keepP bs) (Txn.runV (ss, []) (Txn.stepsV 7 l) (k : Int))) = (rs, []) ∧ rs.length = 73 ∧ busyB (rs, []) = false ∧ (PO ss rs ∨ PA ss l rs) ∧ ((Txn.stepsV 7 l).length ≤ k → PA ss l rs) := by
  obtain ⟨cs, e1, hg, hd⟩ := h.crash (q := 7) (by decide) k bs
  rw [show ((7 : Nat) : Int) = 7 from rfl] at e1 hd
  obtain ⟨rs, e2, hs, hb, ho, ha⟩ := h.recover (q := 7) (by decide) hg
  have hw : ∀ i, JF.Out 73 i → (apply ss l).getD i e0 = JF.wantF (ss.getD i e0) l i := fun i hi => JF.apply_want ss l i (by rw [h.sec.1]; exact hi.1) (fun x hx => (h.fit x hx).1.1)
  refine ⟨rs, ?_, hs.1, (Txn.busy_no hb).1, ho.elim (fun q => .inl ?_) (fun q => .inr ?_), fun hk i hi => ?_⟩
  · unfold Txn.runV
    rw [Int.toNat_natCast, e1, e2]
  · intro i hi
    rw [JF.read_0 h.n2 hs i hi.1, q i hi]
  · intro i hi
    rw [JF.read_0 h.n2 hs i hi.1, q i hi, hw i hi]
  · rw [JF.read_0 h.n2 hs i hi.1, ha (hd hk) i hi, hw i hi]
theorem want_succ (v : ByteArray) (l : List Wt) (i : Int) (j : Nat) (hj : j < l.length) : JF.wantF v (l.take (j + 1)) i = if (l.getD j d0).1 = i then (l.getD j d0).2 else JF.wantF v (l.take j) i := by
  unfold JF.wantF
  rw [Txn.take_snoc l j hj, List.foldl_append]
  rfl
end Go.Proofs.Ytgapjdkelkmdgaa.JFThree

-- YtgapjdkelkmdgaaFlushLaw
/- Contracts and plain facts that a law of this seat leans on. Conditions: as each theorem types them. -/
namespace Go.Proofs.Ytgapjdkelkmdgaa.FlushLaw
open Go.ChangeShapes Go.WideShapes Go.ChangeAt Go.RowKit
open Go.ChangeMaps (open_string shut_string)
open Dk (D Holds Ok In Own cost costOf cost_pos cost_neg cost_len sz_any to_any eq_any mark_all held_all)
set_option linter.unusedVariables false

theorem store_len (p : Nat → Bool) (d : D) : (Store.storeV p d).1.length = d.1.length ∧ (Store.storeV p d).2.length ≤ d.2.length := by
  unfold Store.storeV
  split
  · exact ⟨Store.stored_len _ _ _ _, Nat.zero_le _⟩
  · exact ⟨rfl, Nat.le_refl _⟩

end Go.Proofs.Ytgapjdkelkmdgaa.FlushLaw

-- YtgapjdkelkmdgaaCode
/- A drawn code that came in as a slice of bytes: what its reading gives the contracts of the laws' cursor. No condition of its own. -/
namespace Go.Proofs.Ytgapjdkelkmdgaa.Cur
open Go.ChangeShapes Go.WideShapes Go.ChangeAt Go.RowKit
set_option linter.unusedVariables false

theorem add_at (b o j : Nat) : (⟨b, o, none⟩ : Addr).add j = ⟨b, o + j, none⟩ := by
  simp only [Addr.add]
  split
  · rename_i h; subst h; rfl
  · rfl
theorem open_code {H : Type} {enc : TypeId × Value → H} {W : World} {a0 : Option Addr} {len0 cap0 : Nat} {d : DataW H} {p : List MemPlace}
    (h0 : DataW.Trod enc Try.prog W 0 (fun _ => true) true 22 (.slice a0 len0 cap0) d p) (hlen : len0 ≤ 1048576) :
    ∃ ns : List Nat, ns.length = len0 ∧ CodeIn W W.heap.size (.slice a0 len0 cap0) ns := by
  obtain ⟨fuel, hf⟩ := h0
  rcases open_ints Try.underlying22 Try.underlying5 (by kernel_rfl) hf with ⟨hcs, _⟩ | ⟨x, l, c, zs, hcs, _, hl, hm, hz, _, hcell, hwz⟩
  · simp [Value.cells] at hcs
    obtain ⟨rfl, rfl, rfl⟩ := hcs
    exact ⟨[], rfl, none, 0, rfl, by simp, by simp, fun h => by simp at h⟩
  · simp [Value.cells] at hcs
    obtain ⟨rfl, rfl, rfl⟩ := hcs
    have hz' : zs.length = cap0 := by simpa using hz
    have hlen2 : ((zs.take len0).map Int.toNat).length = len0 := by simp; omega
    refine ⟨(zs.take len0).map Int.toNat, hlen2, some x, cap0, by rw [hlen2], by rw [hlen2]; exact hlen, ?_, fun hp => ?_⟩
    · intro y hy
      obtain ⟨z, hz1, rfl⟩ := List.mem_map.1 hy
      have := hwz z (List.mem_of_mem_take hz1)
      simp [Lit.wf, IntKind.min, IntKind.max, IntKind.signed, IntKind.bits] at this
      omega
    · rw [hlen2] at hp
      obtain ⟨bk, off, spot⟩ := x
      have hc0 := hcell 0 (by omega)
      have hspot : spot = none := by simpa [Addr.add] using World.cell?_spot hc0
      subst hspot
      refine ⟨bk, off, rfl, ?_, fun j hj => ?_⟩
      · have := hc0
        simp only [World.cell?, Addr.add] at this
        split at this
        · rename_i heq; exact (Array.getElem?_eq_some_iff.1 heq).1
        · cases this
      · rw [hlen2] at hj
        have := hcell j (by omega)
        rw [add_at bk off j] at this
        rw [this]
        have hjl : j < zs.length := by omega
        have hw := hwz zs[j] (List.getElem_mem hjl)
        simp [Lit.wf, IntKind.min, IntKind.max, IntKind.signed, IntKind.bits] at hw
        have e : ((zs.take len0).map Int.toNat).getD j 0 = zs[j].toNat := by
          rw [List.getD_eq_getElem?_getD, List.getElem?_map, List.getElem?_take_of_lt hj, List.getElem?_eq_getElem hjl]; rfl
        rw [e, List.getD_eq_getElem?_getD, List.getElem?_eq_getElem hjl]
        simp only [Option.getD_some]
        congr 2
        omega
end Go.Proofs.Ytgapjdkelkmdgaa.Cur
