/- Helper texts joined, one behind another (a claim has at most 60 files): what each proves, its own head says: YthobdeidjagnhaaDoorCur, YthobdeidjagnhaaDoorCurTwo, YthobdeidjagnhaaDoorMake, YthobdeidjagnhaaDoorMakeBytes, YthobdeidjagnhaaDoorCode, YthobdeidjagnhaaDoorAclU, YthobdeidjagnhaaDoorADraw, YthobdeidjagnhaaDoorCDraw, YthobdeidjagnhaaDoorFlK, YthobdeidjagnhaaDoorInSp, YthobdeidjagnhaaDoorInP, YthobdeidjagnhaaDoorInPi, YthobdeidjagnhaaDoorInUp, YthobdeidjagnhaaDoorInUi, YthobdeidjagnhaaDoorInDr, YthobdeidjagnhaaDoorInMk, YthobdeidjagnhaaDoorLaidN, YthobdeidjagnhaaDoorKitV. -/
import Derived.Test.YthobdeidjagnhaaDoorKit
import Derived.BigQuiet
import Derived.Deep.QuietTactic
import Derived.Laws.Bits128
import Derived.Test.YthobdeidjagnhaaDoorRowG
import Derived.Test.YthobdeidjagnhaaDoorSplitAnyLaw
import Derived.OpenShut
import Derived.Test.YthobdeidjagnhaaDoorAclK
import Derived.Test.YthobdeidjagnhaaDoorGetNumber
import Derived.Test.YthobdeidjagnhaaDoorAclQ
import Derived.Test.YthobdeidjagnhaaDoorAclQ
import Derived.Test.YthobdeidjagnhaaDoorCrI
import Derived.Test.YthobdeidjagnhaaDoorBx
import Derived.Test.YthobdeidjagnhaaDoorFoot
import Derived.Test.YthobdeidjagnhaaDoorInSm
import Derived.Test.YthobdeidjagnhaaDoorInOk
import Derived.Test.YthobdeidjagnhaaDoorInoV
import Derived.LaidMore
import Derived.MakeChecks
import Derived.Lib.LaidTab
import Derived.Stop.LaidErr
import Derived.Stop.Joined
import Derived.OpenVars

-- YthobdeidjagnhaaDoorCur
/- Contracts of the laws' cursor over the drawn code: a new cursor, the next byte, a number below n, one of a list of strings. Conditions: as each theorem types them. -/
namespace Go.Proofs.YthobdeidjagnhaaDoor.Cur
open Go.ChangeShapes Go.WideShapes Go.ChangeAt Go.RowKit
set_option linter.unusedVariables false

theorem i64_and255 (n : Int) : bits .and .i64 n 255 = n % 256 := by
  have h255 : (BitVec.ofInt 64 255).toNat = 2 ^ 8 - 1 := by decide
  have key : (BitVec.ofInt 64 n &&& BitVec.ofInt 64 255).toNat = (n % ((2 ^ 64 : Nat) : Int)).toNat % 2 ^ 8 := by
    rw [BitVec.toNat_and, BitVec.toNat_ofInt, h255, Nat.and_two_pow_sub_one_eq_mod]
  show IntKind.i64.wrap ((BitVec.ofInt 64 n &&& BitVec.ofInt 64 255).toNat : Nat) = n % 256
  rw [key, IntKind.wrap_i64]
  omega
/-- The cursor's next state, and the byte that it gives. -/
def nextH (h : Int) : Int := wrap64 (wrap64 (h * 6364136223846793005) + 1442695040888963407)
def mixB (H : Int) : Nat := (bits BinOp.and IntKind.i64 (bits BinOp.xor IntKind.i64 (H / 8589934592) (H / 35184372088832)) 255).toNat
theorem mix_eq (H : Int) : bits BinOp.and IntKind.i64 (bits BinOp.xor IntKind.i64 (H / 8589934592) (H / 35184372088832)) 255 = (mixB H : Int) ∧ mixB H ≤ 255 := by
  unfold mixB
  rw [i64_and255]
  omega
def stepX (ns : List Nat) (i : Nat) (h : Int) : Nat := if i < ns.length then (mixB (nextH h) + ns.getD i 0) % 256 else mixB (nextH h)
def stepI (ns : List Nat) (i : Nat) : Nat := if i < ns.length then i + 1 else i
theorem stepX_le (ns : List Nat) (i : Nat) (h : Int) : stepX ns i h ≤ 255 := by
  unfold stepX; split
  · omega
  · exact (mix_eq _).2
theorem stepI_le (ns : List Nat) (i : Nat) (h : i ≤ ns.length) : stepI ns i ≤ ns.length := by unfold stepI; split <;> omega

/-- A slice of bytes that came in: its cells hold the bytes ns, in a block below B. -/
def CodeIn (w : World) (B : Nat) (cv : Value) (ns : List Nat) : Prop :=
  ∃ (a : Option Addr) (cap : Nat), cv = .slice a ns.length cap ∧ ns.length ≤ 1048576 ∧ (∀ x ∈ ns, x ≤ 255) ∧ (0 < ns.length → ∃ b o, a = some ⟨b, o, none⟩ ∧ b < B ∧ ∀ j, j < ns.length → w.cell? ⟨b, o + j, none⟩ = some (.int .u8 (ns.getD j 0 : Nat)))
/-- Block g, not below B, is a cursor over the code, at place i with the number h. -/
def IsCur (w : World) (B g : Nat) (cv : Value) (ns : List Nat) (i : Nat) (h : Int) : Prop :=
  B ≤ g ∧ CodeIn w B cv ns ∧ i ≤ ns.length ∧ w.heap[g]? = some (.cells #[cv, .int .i64 i, .int .i64 h] 87 (0, 0))
theorem cell_of {w : World} {g : Nat} {cs : Array Value} {T : TypeId} (h : w.heap[g]? = some (.cells cs T (0, 0))) (j : Nat) : w.cell? ⟨g, j, none⟩ = cs[j]? := by simp [World.cell?, h]
theorem free_of {w : World} {g : Nat} {cs : Array Value} {T : TypeId} (h : w.heap[g]? = some (.cells cs T (0, 0))) (j : Nat) : w.frozen? ⟨g, j, none⟩ = false := by simp [World.frozen?, h]
/-- The code stands where only blocks from B on may have turned. -/
theorem code_kept {w w' : World} {B : Nat} {cv : Value} {ns : List Nat} (h : CodeIn w B cv ns) (hk : ∀ k, k < B → w'.heap[k]? = w.heap[k]?) : CodeIn w' B cv ns := by
  obtain ⟨a, cap, rfl, hn, hx, hc⟩ := h
  refine ⟨a, cap, rfl, hn, hx, fun hp => ?_⟩
  obtain ⟨b, o, rfl, hb, hcell⟩ := hc hp
  refine ⟨b, o, rfl, hb, fun j hj => ?_⟩
  rw [World.cell?_of_block (w := w) (hk b hb)]
  exact hcell j hj
theorem cur_a {w : World} {B g : Nat} {cv : Value} {ns : List Nat} {i : Nat} {h H : Int} (hc : IsCur w B g cv ns i h) (hj : i + 1 ≤ ns.length) (m : Nat) :
    IsCur (((w.setCell ⟨g, 2, none⟩ (.int .i64 H)).drewN m).setCell ⟨g, 1, none⟩ (.int .i64 ((i : Int) + 1))) B g cv ns (i + 1) H ∧ w.grownBy (((w.setCell ⟨g, 2, none⟩ (.int .i64 H)).drewN m).setCell ⟨g, 1, none⟩ (.int .i64 ((i : Int) + 1))) (some g) := by
  obtain ⟨hB, hcode, hi, hb⟩ := hc
  have hb2 := heap_setCell_same w g 2 _ _ (.int .i64 H) hb
  have hb3 := heap_setCell_same ((w.setCell ⟨g, 2, none⟩ (.int .i64 H)).drewN m) g 1 _ _ (.int .i64 ((i : Int) + 1)) hb2
  have hoth : ∀ k, k ≠ g → (((w.setCell ⟨g, 2, none⟩ (.int .i64 H)).drewN m).setCell ⟨g, 1, none⟩ (.int .i64 ((i : Int) + 1))).heap[k]? = w.heap[k]? := fun k hk => by
    rw [heap_setCell_other _ _ _ _ (by simpa using hk)]
    exact heap_setCell_other w _ _ _ (by simpa using hk)
  refine ⟨⟨hB, code_kept hcode (fun k hk => hoth k (by omega)), hj, hb3⟩, rfl, rfl, rfl, by simp [World.setCell], fun k _ hk => hoth k (fun e => hk (by rw [e]))⟩
theorem cur_b {w : World} {B g : Nat} {cv : Value} {ns : List Nat} {i : Nat} {h H : Int} (hc : IsCur w B g cv ns i h) (m m' : Nat) :
    IsCur (((w.setCell ⟨g, 2, none⟩ (.int .i64 H)).drewN m).drewN m') B g cv ns i H ∧ w.grownBy (((w.setCell ⟨g, 2, none⟩ (.int .i64 H)).drewN m).drewN m') (some g) := by
  obtain ⟨hB, hcode, hi, hb⟩ := hc
  have hb2 := heap_setCell_same w g 2 _ _ (.int .i64 H) hb
  have hoth : ∀ k, k ≠ g → (w.setCell ⟨g, 2, none⟩ (.int .i64 H)).heap[k]? = w.heap[k]? := fun k hk => heap_setCell_other w _ _ _ (by simpa using hk)
  exact ⟨⟨hB, code_kept hcode (fun k hk => hoth k (by omega)), hi, hb2⟩, rfl, rfl, rfl, by simp [World.setCell], fun k _ hk => hoth k (fun e => hk (by rw [e]))⟩

theorem ret_byte (X x : Nat) (h1 : X ≤ 255) (h2 : x ≤ 255) : Ending.returned (.int .i64 (bits .and .i64 ((X : Int) + (x : Int)) 255)) = .returned (.int .i64 (((X + x) % 256 : Nat) : Int)) := by
  rw [i64_and255]
  congr 2

set_option maxRecDepth 100000 in
set_option maxHeartbeats 400000 in
theorem byte_any (w : World) (B g : Nat) (cv : Value) (ns : List Nat) (i : Nat) (h : Int) (hc : IsCur w B g cv ns i h) :
    Calls Tryd.prog 77 #[.pointer (some ⟨g, 0, none⟩)] w fun e w' => e = .returned (.int .i64 (stepX ns i h)) ∧ IsCur w' B g cv ns (stepI ns i) (nextH h) ∧ w.grownBy w' (some g) := by
  have HIC := Lib.hid hc
  obtain ⟨hB, hcode, hi, hb⟩ := hc
  obtain ⟨a, cap, rfl, hn, hx, hcells⟩ := hcode
  have c0 := cell_of hb 0
  have c1 := cell_of hb 1
  have c2 := cell_of hb 2
  have f1 := free_of hb 1
  have f2 := free_of hb 2
  simp at c0 c1 c2
  have HC := Lib.hid hcells
  have HXS := Lib.hid hx
  clear hb hcells hx
  obtain ⟨n, hN⟩ : ∃ n, n = ns.length := ⟨_, rfl⟩
  rw [← hN] at c0 hn hi
  rw [← hN]
  have HN := Lib.hid hN
  clear hN
  by_cases hlt : i < n
  · obtain ⟨b, o, rfl, hbB, hcl⟩ := HC.out (by rw [← HN.out]; omega)
    have hcx := hcl i (by rw [← HN.out]; exact hlt)
    have hxx : ns.getD i 0 ≤ 255 := by
      have hl : i < ns.length := by rw [← HN.out]; exact hlt
      rw [List.getD_eq_getElem?_getD, List.getElem?_eq_getElem hl]
      exact HXS.out _ (List.getElem_mem hl)
    have HSX := Lib.hid (show stepX ns i h = (mixB (nextH h) + ns.getD i 0) % 256 by rw [stepX, if_pos (by rw [← HN.out]; exact hlt)])
    have HSI := Lib.hid (show stepI ns i = i + 1 by rw [stepI, if_pos (by rw [← HN.out]; exact hlt)])
    clear hcl
    generalize ns.getD i 0 = x at hcx hxx HSX
    go_enter Tryd.func77, Tryd.ntmps77
    go_wp2
    generalize hH : wrap64 (wrap64 (h * 6364136223846793005) + 1442695040888963407) = H
    have HH := Lib.hid (show nextH h = H from hH)
    clear hH
    go_quiet (fail)
    rw [(mix_eq H).1]
    have hm := (mix_eq H).2
    rw [HH.out] at HSX
    generalize mixB H = X at hm HSX
    go_wp2
    go_quiet (fail)
    go_wp2
    go_quiet (fail)
    go_wp2
    go_ret
    rw [HSX.out, HSI.out, HH.out]
    obtain rfl := HN.out
    exact ⟨ret_byte X x hm hxx, cur_a HIC.out hlt _⟩
  · have HSX := Lib.hid (show stepX ns i h = mixB (nextH h) by rw [stepX, if_neg (by rw [← HN.out]; exact hlt)])
    have HSI := Lib.hid (show stepI ns i = i by rw [stepI, if_neg (by rw [← HN.out]; exact hlt)])
    go_enter Tryd.func77, Tryd.ntmps77
    go_wp2
    generalize hH : wrap64 (wrap64 (h * 6364136223846793005) + 1442695040888963407) = H
    have HH := Lib.hid (show nextH h = H from hH)
    clear hH
    go_quiet (fail)
    rw [(mix_eq H).1]
    have hm := (mix_eq H).2
    rw [HH.out] at HSX
    generalize mixB H = X at hm HSX
    go_wp2
    go_quiet (fail)
    go_wp2
    go_ret
    rw [HSX.out, HSI.out, HH.out]
    obtain rfl := HN.out
    exact ⟨rfl, cur_b HIC.out _ _⟩
end Go.Proofs.YthobdeidjagnhaaDoor.Cur

-- YthobdeidjagnhaaDoorCurTwo
/- Contracts and plain facts that a law of this seat leans on. Conditions: as each theorem types them. -/
namespace Go.Proofs.YthobdeidjagnhaaDoor.Cur
open Go.ChangeShapes Go.WideShapes Go.ChangeAt Go.RowKit
set_option linter.unusedVariables false

theorem i64_and30 (n : Int) : bits .and .i64 n 1073741823 = n % 1073741824 := by
  have h30 : (BitVec.ofInt 64 1073741823).toNat = 2 ^ 30 - 1 := by decide
  have key : (BitVec.ofInt 64 n &&& BitVec.ofInt 64 1073741823).toNat = (n % ((2 ^ 64 : Nat) : Int)).toNat % 2 ^ 30 := by
    rw [BitVec.toNat_and, BitVec.toNat_ofInt, h30, Nat.and_two_pow_sub_one_eq_mod]
  show IntKind.i64.wrap ((BitVec.ofInt 64 n &&& BitVec.ofInt 64 1073741823).toNat : Nat) = n % 1073741824
  rw [key, IntKind.wrap_i64]
  omega
/-- The seed number behind k bytes. -/
def seedH (ns : List Nat) : Nat → Nat
  | 0 => 1263 + ns.length
  | k + 1 => (seedH ns k * 73 + ns.getD k 0 + 7) % 1073741824
def newH (ns : List Nat) : Nat := seedH ns (min ns.length 4000)
theorem seedH_le (ns : List Nat) (h : ns.length ≤ 1048576) (k : Nat) : seedH ns k ≤ 1073741824 := by
  cases k with
  | zero => simp only [seedH]; omega
  | succ k => simp only [seedH]; omega
theorem cur_new {w : World} {cv : Value} {ns : List Nat} (hc : CodeIn w w.heap.size cv ns) (h : Int) : IsCur (w.alloc (.cells #[cv, .int .i64 0, .int .i64 h] 87)) w.heap.size w.heap.size cv ns 0 h := by
  refine ⟨Nat.le_refl _, code_kept hc (fun k hk => Below.heap_alloc _ _ _ hk), Nat.zero_le _, ?_⟩
  exact (MapKept.heap_alloc w _).1

set_option maxHeartbeats 400000 in
set_option maxRecDepth 100000 in
theorem new_any (w : World) (cv : Value) (ns : List Nat) (hc : CodeIn w w.heap.size cv ns) :
    Calls Tryd.prog 23 #[cv] w fun e w' => e = .returned (.pointer (some ⟨w.heap.size, 0, none⟩)) ∧ IsCur w' w.heap.size w.heap.size cv ns 0 (newH ns) ∧ Below w.heap.size w w' ∧ w.heap.size < w'.heap.size := by
  have HCC := Lib.hid hc
  obtain ⟨a, cap, rfl, hn, hx, hcells⟩ := hc
  have HX := Lib.hid hx
  have HC := Lib.hid hcells
  have HS := Lib.hid (seedH_le ns hn)
  clear hx hcells
  obtain ⟨n, hN⟩ : ∃ n, n = ns.length := ⟨_, rfl⟩
  rw [← hN] at hn ⊢
  have HN := Lib.hid hN
  clear hN
  have hcase : n = 0 ∨ ∃ b o, a = some ⟨b, o, none⟩ ∧ ∀ j, j < n → w.cell? ⟨b, o + j, none⟩ = some (.int .u8 (ns.getD j 0 : Nat)) := by
    by_cases h0 : n = 0
    · exact .inl h0
    · obtain ⟨b, o, h1, _, h2⟩ := HC.out (by rw [← HN.out]; omega)
      exact .inr ⟨b, o, h1, fun j hj => h2 j (by rw [← HN.out]; exact hj)⟩
  rcases hcase with h0 | ⟨b, o, rfl, hcl⟩
  · subst h0
    go_enter Tryd.func23, Tryd.ntmps23
    go_wp2
    refine wp_loop_rounds 1 ?_
    rw [rounds_succ]
    go_wp2
    go_ret
    have hz : ns.length = 0 := HN.out.symm
    have e : (newH ns : Int) = 1263 := by rw [newH, hz]; simp [seedH, hz]
    have hcn := cur_new HCC.out 1263
    rw [e]
    rw [hz] at hcn
    exact ⟨rfl, hcn, (Below.refl _ _).alloc (Nat.le_refl _) _, by simp⟩
  · have HCL := Lib.hid hcl
    clear hcl
    go_enter Tryd.func23, Tryd.ntmps23
    go_wp2
    go_loop [3, 4] (fun hv iv => ∃ k s : Nat, k ≤ n ∧ k ≤ 4000 ∧ iv = .int .i64 k ∧ hv = .int .i64 s ∧ s = seedH ns k) (fun _ iv => n - (intOf iv).toNat)
    case atStart => exact ⟨0, 1263 + n, Nat.zero_le _, Nat.zero_le _, rfl, by go_num, by rw [seedH, HN.out]⟩
    case round =>
      obtain ⟨k, s, hk, hk4, rfl, rfl, hs⟩ := hrel
      have hsl := HS.out k
      rw [← hs] at hsl
      have HSD := Lib.hid hs
      clear hs
      by_cases hlt : k < n
      · by_cases h4 : k < 4000
        · have g1 := HCL.out k hlt
          have hxx : ns.getD k 0 ≤ 255 := by
            have hl : k < ns.length := by rw [← HN.out]; exact hlt
            rw [List.getD_eq_getElem?_getD, List.getElem?_eq_getElem hl]
            exact HX.out _ (List.getElem_mem hl)
          have HSN := Lib.hid (show seedH ns (k + 1) = (s * 73 + ns.getD k 0 + 7) % 1073741824 by rw [seedH, ← HSD.out])
          generalize ns.getD k 0 = x at g1 hxx HSN
          go_wp2
          rw [i64_and30]
          go_round
          case rel => exact ⟨k + 1, (s * 73 + x + 7) % 1073741824, by omega, by omega, by go_num, by go_num, HSN.out.symm⟩
          case measure => simp [intOf]; omega
        · have hnh := Lib.hid (show s = newH ns by rw [newH, ← HN.out, show min n 4000 = k by omega]; exact HSD.out)
          go_wp2
          go_ret
          have hcn := cur_new HCC.out s
          rw [← hnh.out]
          rw [← HN.out] at hcn
          exact ⟨rfl, hcn, (Below.refl _ _).alloc (Nat.le_refl _) _, by simp⟩
      · have hnh := Lib.hid (show s = newH ns by rw [newH, ← HN.out, show min n 4000 = k by omega]; exact HSD.out)
        go_wp2
        go_ret
        have hcn := cur_new HCC.out s
        rw [← hnh.out]
        rw [← HN.out] at hcn
        exact ⟨rfl, hcn, (Below.refl _ _).alloc (Nat.le_refl _) _, by simp⟩

/-- The state behind m steps. -/
def after (ns : List Nat) (i : Nat) (h : Int) : Nat → Nat × Int
  | 0 => (i, h)
  | m + 1 => (stepI ns (after ns i h m).1, nextH (after ns i h m).2)
theorem below_at {w W w' : World} {g : Nat} (hb : Below w.heap.size w W) (hlt : w.heap.size ≤ g) (hg : W.grownBy w' (some g)) : Below w.heap.size w w' :=
  hb.grown hg hb.size (fun k hk => by cases hk; exact hlt)
theorem cur_i64 {w : World} {B g : Nat} {cv : Value} {ns : List Nat} {i : Nat} {h : Int} (hc : IsCur w B g cv ns i h) : g < w.heap.size := (Array.getElem?_eq_some_iff.1 hc.2.2.2).1

set_option maxRecDepth 100000 in
set_option maxHeartbeats 400000 in
/-- A number from 0 up to n (1 to 256). -/
theorem below_any (w : World) (B g : Nat) (cv : Value) (ns : List Nat) (i : Nat) (h : Int) (m : Nat) (hm1 : 1 ≤ m) (hm2 : m ≤ 256) (hc : IsCur w B g cv ns i h) :
    Calls Tryd.prog 61 #[.pointer (some ⟨g, 0, none⟩), .int .i64 m] w fun e w' => e = .returned (.int .i64 (stepX ns i h % m : Nat)) ∧ IsCur w' B g cv ns (stepI ns i) (nextH h) ∧ w.grownBy w' (some g) := by
  have H1 := Lib.hid (byte_any w B g cv ns i h hc)
  clear hc
  have hx := stepX_le ns i h
  generalize stepX ns i h = x at H1 hx ⊢
  have hm0 : ¬ m = 0 := by omega
  go_enter Tryd.func61, Tryd.ntmps61
  go_wp2_with fail
  refine H1.out.mono ?_
  rintro e w1 ⟨rfl, hc1, hg1⟩
  go_wp2
  go_ret
  exact ⟨by congr 1, hc1, hg1⟩

end Go.Proofs.YthobdeidjagnhaaDoor.Cur

-- YthobdeidjagnhaaDoorMake
/- Contracts and plain facts that a law of this seat leans on. Conditions: as each theorem types them. -/
namespace Go.Proofs.YthobdeidjagnhaaDoor.Make
open Go.ChangeShapes Go.WideShapes Go.ChangeAt Go.RowKit
open Cur (CodeIn IsCur stepX stepX_le stepI nextH after newH byte_any below_at new_any below_any cur_i64 code_kept)
set_option linter.unusedVariables false

theorem cur_alloc {w : World} {B g : Nat} {cv : Value} {ns : List Nat} {i : Nat} {h : Int} (hc : IsCur w B g cv ns i h) (o : Obj) : IsCur (w.alloc o) B g cv ns i h := by
  have hlt := cur_i64 hc
  obtain ⟨hB, hcode, hi, hb⟩ := hc
  exact ⟨hB, code_kept hcode (fun k hk => Below.heap_alloc _ _ _ (by omega)), hi, (Below.heap_alloc w o g hlt).trans hb⟩
def words : List ByteArray := [⟨#[97]⟩, ⟨#[98, 99]⟩, ⟨#[32]⟩, ⟨#[44]⟩, ⟨#[120, 49]⟩]
theorem words_cell (w : World) (T : TypeId) (j : Nat) (hj : j < 5) : (w.alloc (.cells #[.string ⟨#[97]⟩, .string ⟨#[98, 99]⟩, .string ⟨#[32]⟩, .string ⟨#[44]⟩, .string ⟨#[120, 49]⟩] T)).cell? ⟨w.heap.size, j, none⟩ = some (.string (words.getD j ⟨#[]⟩)) := by
  rw [World.cell?_alloc_at _ _ _ _ rfl]
  match j, hj with
  | 0, _ => rfl
  | 1, _ => rfl
  | 2, _ => rfl
  | 3, _ => rfl
  | 4, _ => rfl
theorem words_size (j : Nat) (hj : j < 5) : (words.getD j ⟨#[]⟩).size ≤ 2 := by
  match j, hj with
  | 0, _ => decide
  | 1, _ => decide
  | 2, _ => decide
  | 3, _ => decide
  | 4, _ => decide

end Go.Proofs.YthobdeidjagnhaaDoor.Make

-- YthobdeidjagnhaaDoorMakeBytes
/- Contracts and plain facts that a law of this seat leans on. Conditions: as each theorem types them. -/
namespace Go.Proofs.YthobdeidjagnhaaDoor.MakeBytes
open Go.ChangeShapes Go.WideShapes Go.ChangeAt Go.RowKit
open Cur (CodeIn IsCur stepX stepX_le stepI nextH after newH byte_any below_at new_any below_any cur_i64 code_kept)
open RowG (cellsB cellsB_append cellsB_length back_own byteInfo)
open SplitAny (own_fresh own_nil)
set_option linter.unusedVariables false

set_option maxRecDepth 100000 in
set_option maxHeartbeats 400000 in
/-- One of a list of ints. -/
theorem pick_any (w : World) (B g : Nat) (cv : Value) (ns : List Nat) (i : Nat) (h : Int) (b cap : Nat) (xs : List Int) (hm1 : 1 ≤ xs.length) (hm2 : xs.length ≤ 256) (hbg : b ≠ g)
    (hcell : ∀ j, j < xs.length → w.cell? ⟨b, j, none⟩ = some (.int .i64 (xs.getD j 0))) (hc : IsCur w B g cv ns i h) :
    Calls Tryd.prog 79 #[.pointer (some ⟨g, 0, none⟩), .slice (some ⟨b, 0, none⟩) xs.length cap] w fun e w' => e = .returned (.int .i64 (xs.getD (stepX ns i h % xs.length) 0)) ∧ IsCur w' B g cv ns (stepI ns i) (nextH h) ∧ w.grownBy w' (some g) := by
  have H1 := Lib.hid (below_any w B g cv ns i h xs.length hm1 hm2 hc)
  have hr : stepX ns i h % xs.length < xs.length := Nat.mod_lt _ (by omega)
  have hcx := hcell _ hr
  have hbw : b < w.heap.size := by
    simp only [World.cell?] at hcx
    split at hcx
    · rename_i heq; exact (Array.getElem?_eq_some_iff.1 heq).1
    · cases hcx
  have HCX := Lib.hid hcx
  clear hc hcell hcx
  generalize xs.getD (stepX ns i h % xs.length) 0 = s at HCX ⊢
  generalize stepX ns i h % xs.length = r at hr H1 HCX
  generalize xs.length = m at hr hm1 hm2 H1 ⊢
  go_enter Tryd.func79, Tryd.ntmps79
  go_wp2_with fail
  refine H1.out.mono ?_
  rintro e w1 ⟨rfl, hc1, hg1⟩
  have g1 : w1.cell? ⟨b, r, none⟩ = some (.int .i64 s) := hg1.cell HCX.out (by simpa using hbg)
  have HC1 := Lib.hid hc1
  have HG1 := Lib.hid hg1
  clear hc1 hg1
  go_wp2
  go_ret
  exact ⟨rfl, HC1.out, HG1.out⟩

theorem cur_kept {w w' : World} {B g : Nat} {cv : Value} {ns : List Nat} {i : Nat} {h : Int} (hc : IsCur w B g cv ns i h) (hk : ∀ k, k ≤ g → w'.heap[k]? = w.heap[k]?) : IsCur w' B g cv ns i h := by
  obtain ⟨hB, hcode, hi, hb⟩ := hc
  exact ⟨hB, code_kept hcode (fun k hlt => hk k (by omega)), hi, (hk g (Nat.le_refl _)).trans hb⟩
def six (x : Nat) : List Int := [0, 1, 65, 97, 255, (x : Int)]
theorem six_bd (x : Nat) (hx : x ≤ 255) (j : Nat) (hj : j < 6) : ∃ m : Nat, m ≤ 255 ∧ (six x).getD j 0 = (m : Int) := by
  rcases (show j = 0 ∨ j = 1 ∨ j = 2 ∨ j = 3 ∨ j = 4 ∨ j = 5 from by omega) with rfl | rfl | rfl | rfl | rfl | rfl
  · exact ⟨0, by omega, rfl⟩
  · exact ⟨1, by omega, rfl⟩
  · exact ⟨65, by omega, rfl⟩
  · exact ⟨97, by omega, rfl⟩
  · exact ⟨255, by omega, rfl⟩
  · exact ⟨x, hx, rfl⟩
theorem six_cell (w : World) (T : TypeId) (x : Nat) (j : Nat) (hj : j < 6) : (w.alloc (.cells #[.int .i64 0, .int .i64 1, .int .i64 65, .int .i64 97, .int .i64 255, .int .i64 x] T)).cell? ⟨w.heap.size, j, none⟩ = some (.int .i64 ((six x).getD j 0)) := by
  rw [World.cell?_alloc_at _ _ _ _ rfl]
  rcases (show j = 0 ∨ j = 1 ∨ j = 2 ∨ j = 3 ∨ j = 4 ∨ j = 5 from by omega) with rfl | rfl | rfl | rfl | rfl | rfl
  all_goals rfl
theorem byte_cell (m : Nat) (h : m ≤ 255) : Value.int .u8 (m : Int) = .int .u8 ((UInt8.ofNat m).toNat : Int) := by
  rw [UInt8.toNat_ofNat', Nat.mod_eq_of_lt (by omega)]
/-- What a round leaves: the row one byte longer, the cursor where it was, nothing else turned. -/
theorem round_next {w w2 w1 : World} {B g : Nat} {cv : Value} {ns : List Nat} {i : Nat} {h : Int} {v v' : Value} {xs : List UInt8} {m : Nat} {o : Obj} (hlt : g < w.heap.size) (hm : m ≤ 255)
    (hown : w2.ownsRow w.heap.size 5 1 v xs.length (cellsB xs)) (hc : IsCur w2 B g cv ns i h) (hg : w.grownBy w2 (some g)) (hown1 : w1.ownsRow w.heap.size 5 1 v' (xs.length + 1) (cellsB xs ++ [.int .u8 (m : Int)])) (hg1 : (w2.alloc o).grownBy w1 v.ownBlock) :
    w1.ownsRow w.heap.size 5 1 v' (xs ++ [UInt8.ofNat m]).length (cellsB (xs ++ [UInt8.ofNat m])) ∧ IsCur w1 B g cv ns i h ∧ w.grownBy w1 (some g) := by
  have hgl := cur_i64 hc
  have hsz := hg.size
  have hne : ∀ k, k < w.heap.size → some k ≠ v.ownBlock := fun k hk e => by have := (hown.lt k e.symm).1; omega
  have hblk : ∀ k, k < w.heap.size → w1.heap[k]? = w2.heap[k]? := fun k hk => by
    rw [hg1.block k (by simp; omega) (hne k hk)]
    exact Below.heap_alloc _ _ _ (by omega)
  refine ⟨?_, cur_kept hc (fun k hk => hblk k (by omega)), ?_⟩
  · rw [cellsB_append, List.length_append]
    rw [byte_cell m hm] at hown1
    exact hown1
  · exact ⟨hg1.os.trans hg.os, hg1.tape.trans hg.tape, hg1.output.trans hg.output, by have := hg1.size; simp at this; omega, fun k hk hk2 => (hblk k hk).trans (hg.block k hk hk2)⟩
theorem grow_two {w a b : World} {g : Nat} (h1 : w.grownBy a (some g)) (h2 : a.grownBy b (some g)) : w.grownBy b (some g) :=
  ⟨h2.os.trans h1.os, h2.tape.trans h1.tape, h2.output.trans h1.output, Nat.le_trans h1.size h2.size, fun k hk hne => (h2.block k (Nat.lt_of_lt_of_le hk h1.size) hne).trans (h1.block k hk hne)⟩
theorem grow_alloc {w a : World} {g : Nat} (h1 : w.grownBy a (some g)) (o : Obj) : w.grownBy (a.alloc o) (some g) :=
  ⟨h1.os, h1.tape, h1.output, by have := h1.size; simp; omega, fun k hk hne => (Below.heap_alloc _ _ _ (Nat.lt_of_lt_of_le hk h1.size)).trans (h1.block k hk hne)⟩
theorem own_cur {w a : World} {base g n : Nat} {v : Value} {xs : List Value} {e : TypeId} (h : w.ownsRow base e 1 v n xs) (hlt : g < base) (hg : w.grownBy a (some g)) : a.ownsRow base e 1 v n xs := by
  refine h.kept hg (.inr fun e => ?_)
  have := (h.lt g e).1
  omega

end Go.Proofs.YthobdeidjagnhaaDoor.MakeBytes

-- YthobdeidjagnhaaDoorCode
/- A drawn code that came in as a slice of bytes: what its reading gives the contracts of the laws' cursor. No condition of its own. -/
namespace Go.Proofs.YthobdeidjagnhaaDoor.Cur
open Go.ChangeShapes Go.WideShapes Go.ChangeAt Go.RowKit
set_option linter.unusedVariables false

theorem add_at (b o j : Nat) : (⟨b, o, none⟩ : Addr).add j = ⟨b, o + j, none⟩ := by
  simp only [Addr.add]
  split
  · rename_i h; subst h; rfl
  · rfl
theorem open_code {H : Type} {enc : TypeId × Value → H} {W : World} {a0 : Option Addr} {len0 cap0 : Nat} {d : DataW H} {p : List MemPlace}
    (h0 : DataW.Trod enc Tryd.prog W 0 (fun _ => true) true 22 (.slice a0 len0 cap0) d p) (hlen : len0 ≤ 1048576) :
    ∃ ns : List Nat, ns.length = len0 ∧ CodeIn W W.heap.size (.slice a0 len0 cap0) ns := by
  obtain ⟨fuel, hf⟩ := h0
  rcases open_ints Tryd.underlying22 Tryd.underlying5 (by kernel_rfl) hf with ⟨hcs, _⟩ | ⟨x, l, c, zs, hcs, _, hl, hm, hz, _, hcell, hwz⟩
  · simp [Value.cells] at hcs
    obtain ⟨rfl, rfl, rfl⟩ := hcs
    exact ⟨[], rfl, none, 0, rfl, by simp, by simp, fun h => by simp at h⟩
  · simp [Value.cells] at hcs
    obtain ⟨rfl, rfl, rfl⟩ := hcs
    have hz' : zs.length = cap0 := by simpa using hz
    have hlen2 : ((zs.take len0).map Int.toNat).length = len0 := by simp; omega
    refine ⟨(zs.take len0).map Int.toNat, hlen2, some x, cap0, by rw [hlen2], by rw [hlen2]; exact hlen, ?_, fun hp => ?_⟩
    · intro y hy
      obtain ⟨z, hz1, rfl⟩ := List.mem_map.1 hy
      have := hwz z (List.mem_of_mem_take hz1)
      simp [Lit.wf, IntKind.min, IntKind.max, IntKind.signed, IntKind.bits] at this
      omega
    · rw [hlen2] at hp
      obtain ⟨bk, off, spot⟩ := x
      have hc0 := hcell 0 (by omega)
      have hspot : spot = none := by simpa [Addr.add] using World.cell?_spot hc0
      subst hspot
      refine ⟨bk, off, rfl, ?_, fun j hj => ?_⟩
      · have := hc0
        simp only [World.cell?, Addr.add] at this
        split at this
        · rename_i heq; exact (Array.getElem?_eq_some_iff.1 heq).1
        · cases this
      · rw [hlen2] at hj
        have := hcell j (by omega)
        rw [add_at bk off j] at this
        rw [this]
        have hjl : j < zs.length := by omega
        have hw := hwz zs[j] (List.getElem_mem hjl)
        simp [Lit.wf, IntKind.min, IntKind.max, IntKind.signed, IntKind.bits] at hw
        have e : ((zs.take len0).map Int.toNat).getD j 0 = zs[j].toNat := by
          rw [List.getD_eq_getElem?_getD, List.getElem?_map, List.getElem?_take_of_lt hj, List.getElem?_eq_getElem hjl]; rfl
        rw [e, List.getD_eq_getElem?_getD, List.getElem?_eq_getElem hjl]
        simp only [Option.getD_some]
        congr 2
        omega
end Go.Proofs.YthobdeidjagnhaaDoor.Cur

-- YthobdeidjagnhaaDoorAclU
/- Contracts: the program's UnpackAcl and the model's return, for every string of at most 2^20 bytes, the access list whose bytes it is. Condition: the string's length. -/
namespace Go.Proofs.YthobdeidjagnhaaDoor.AclU
open Go.ChangeShapes Go.WideShapes Go.ChangeAt Go.RowKit
open AclV AclB

open Strs (ret_int)
set_option linter.unusedVariables false

theorem seg_one (s : ByteArray) (a : Nat) (h : a < s.size) : Nums.getL (GetNumber.seg s a 1) = (s.data.toList.getD a 0).toNat := by
  rw [GetNumber.seg_succ s a 0 h, SplitAny.byte_at s a h]
  simp [GetNumber.seg, Nums.getL]
theorem got_one (s : ByteArray) (a : Nat) : ∃ b, GetNumber.gotV s a 1 = .returned (.tuple #[.int .i64 ((s.data.toList.getD a 0).toNat : Int), .bool b]) := by
  by_cases h : a < s.size
  · have := GetNumber.got_yes s a 1 (by omega) (by omega) (by omega)
    rw [seg_one s a h] at this
    exact ⟨true, this⟩
  · refine ⟨false, ?_⟩
    rw [GetNumber.got_no (by omega)]
    have : s.data.toList.getD a 0 = 0 := by
      rw [List.getD_eq_getElem?_getD, List.getElem?_eq_none (by rw [Array.length_toList]; exact Nat.le_of_not_lt h)]; rfl
    rw [this]; rfl
theorem byte_any (s : ByteArray) (a : Nat) (w : World) (hs : s.size ≤ 1048576) :
    Calls Tryd.prog 65 #[.string s, .int .i64 a] w fun e w' => e = .returned (.int .i64 ((s.data.toList.getD a 0).toNat : Int)) ∧ w = w' := by
  obtain ⟨b, hb⟩ := got_one s a
  have H := GetNumber.impl_any s a 1 w hs (by omega) (by omega)
  rw [hb] at H
  have HG := Lib.hid H
  clear H hb
  generalize (s.data.toList.getD a 0).toNat = c at HG ⊢
  go_enter Tryd.func65, Tryd.ntmps65
  go_wp2_with fail
  refine HG.out.mono ?_
  rintro e wq ⟨rfl, rfl⟩
  go_wp2
  go_ret
  exact ⟨rfl, rfl⟩
/-- What unpacking gives: a list and whether there is one. -/
def resR (x : Option (List At)) : List At × Bool := match x with
  | some l => (l, true)
  | none => ([], false)
theorem ok_of_pack {s : ByteArray} {n : Nat} (hn : n = (s.data.toList.getD 0 0).toNat ∨ 0 < s.size) (h : packV (tripV s n) = s) : okB (tripV s n) = true := by
  cases hok : okB (tripV s n)
  · have h2 := AclK.pack_no hok
    rw [h] at h2
    rcases hn with hn | hn
    · have h0 : n = 0 := by rw [hn, h2]; rfl
      rw [h0] at hok
      rw [AclI.ok_zero (by rw [tripV_length])] at hok
      cases hok
    · rw [h2] at hn; exact absurd hn (by decide)
  · rfl
theorem unp_yes {s : ByteArray} {n : Nat} (hn : n = (s.data.toList.getD 0 0).toNat ∨ (n = 6 ∧ 6 ≤ (s.data.toList.getD 0 0).toNat)) (hk : n = (s.data.toList.getD 0 0).toNat ∨ 0 < s.size) (h : packV (tripV s n) = s) : unpackV s = some (tripV s n) := by
  rw [unpack_eq s n hn, if_pos ⟨ok_of_pack hk h, h⟩]
theorem unp_no {s : ByteArray} {n : Nat} (hn : n = (s.data.toList.getD 0 0).toNat ∨ (n = 6 ∧ 6 ≤ (s.data.toList.getD 0 0).toNat)) (h : packV (tripV s n) ≠ s) : unpackV s = none := by
  rw [unpack_eq s n hn, if_neg (fun hh => h hh.2)]
theorem unp_short {s : ByteArray} (h : s.size ≠ 19) : unpackV s = none := unpack_none fun l hl e => h (by rw [← e]; exact pack_size hl)
theorem unp_len (s : ByteArray) : (resR (unpackV s)).1.length ≤ 6 := by
  by_cases h : ∃ l, okB l = true ∧ packV l = s
  · obtain ⟨l, hl, rfl⟩ := h
    rw [unpack_of hl]
    exact ok_len hl
  · rw [unpack_none (fun l hl e => h ⟨l, hl, e⟩)]
    exact Nat.zero_le _
theorem str_ne {a b : ByteArray} (h : a ≠ b) : (a.toList == b.toList) = false := by
  refine beq_eq_false_iff_ne.2 fun e => h ?_
  rw [ByteArray.toList_eq, ByteArray.toList_eq] at e
  exact AclP.ext e
theorem own_nil3 (w : World) (base : Nat) (e : TypeId) : w.ownsRow base e 3 (.slice none 0 0) 0 (Ae.cells []) := ⟨rfl, .inl ⟨rfl, rfl⟩⟩
theorem own_fresh3 (w : World) (e : TypeId) : (w.alloc (.cells #[] e)).ownsRow w.heap.size e 3 (.slice (some ⟨w.heap.size, 0, none⟩) 0 0) 0 (Ae.cells []) := by
  refine ⟨rfl, .inr ⟨w.heap.size, 0, #[], rfl, Nat.le_refl _, ?_, Nat.le_refl _, Nat.zero_le _, rfl, rfl⟩⟩
  exact (MapKept.heap_alloc w _).1
theorem trip_next {w1 : World} {base : Nat} {v : Value} {s : ByteArray} {k : Nat} (h : w1.ownsRow base 69 3 v (k + 1) (Ae.cells (tripV s k) ++ [.int .i64 ((s.data.toList.getD (3 * k + 1) 0).toNat : Int), .int .i64 ((s.data.toList.getD (3 * k + 2) 0).toNat : Int), .int .i64 ((s.data.toList.getD (3 * k + 3) 0).toNat : Int)])) :
    w1.ownsRow base 69 3 v (k + 1) (Ae.cells (tripV s (k + 1))) := by
  rw [tripV_succ, Ae.cells_snoc]; exact h
theorem cells3_at (w : World) (x y z : Value) (T : TypeId) : ∀ j u, [x, y, z][j]? = some u → (w.alloc (.cells #[x, y, z] T)).cell? ((⟨w.heap.size, 0, none⟩ : Addr).add j) = some u := AclK.cells3_new w x y z T

set_option maxRecDepth 100000 in
set_option maxHeartbeats 1600000 in
theorem impl_any (s : ByteArray) (w : World) (hs : s.size ≤ 1048576) :
    Calls Tryd.prog 28 #[.string s] w fun e w' => ∃ v, e = .returned (.tuple #[v, .bool (resR (unpackV s)).2]) ∧ w'.ownsRow w.heap.size 69 3 v (resR (unpackV s)).1.length (Ae.cells (resR (unpackV s)).1) ∧ Below w.heap.size w w' := by
  obtain ⟨i0, hi, hz0, hz1, hz2⟩ := info_parts Ae.info
  have HF0 := Lib.hid hi
  have HF1 := Lib.hid hz0
  have HF2 := Lib.hid hz1
  have HF3 := Lib.hid hz2
  clear hi hz0 hz1 hz2
  have hb : ∀ (a : Nat) (W : World), Calls Tryd.prog 65 #[.string s, .int .i64 a] W fun e w' => e = .returned (.int .i64 ((s.data.toList.getD a 0).toNat : Int)) ∧ W = w' := fun a W => byte_any s a W hs
  have HBY := Lib.hid hb
  clear hb
  obtain ⟨n, hn⟩ : ∃ n, n = (s.data.toList.getD 0 0).toNat := ⟨_, rfl⟩
  have hn5 : n ≤ 255 := by have := (s.data.toList.getD 0 0).toNat_lt; omega
  have H0 := Lib.hid (show ∀ W : World, Calls Tryd.prog 65 #[.string s, .int .i64 0] W fun e w' => e = .returned (.int .i64 (n : Int)) ∧ W = w' from fun W => by rw [hn]; exact HBY.out 0 W)
  have HYES := Lib.hid (fun h => unp_yes (.inl hn) (.inl hn) h)
  have HNO := Lib.hid (fun h => unp_no (.inl hn) h)
  clear hn
  go_enter Tryd.func28, Tryd.ntmps28
  go_wp2_with fail
  refine (H0.out _).mono ?_
  rintro e wq ⟨rfl, rfl⟩
  go_wp2_with fail
  go_loopw [4, 9] (fun sv iv wr => ∃ k : Nat, k ≤ n ∧ iv = .int .i64 k ∧ wr.ownsRow w.heap.size 69 3 sv k (Ae.cells (tripV s k)) ∧ Below w.heap.size w wr) (fun _ iv _ => n - (intOf iv).toNat)
  case atStart => exact ⟨0, Nat.zero_le _, rfl, own_nil3 _ _ _, Below.refl _ _⟩
  case round =>
    obtain ⟨k, hk, rfl, hown, hbel⟩ := hrel
    have HBEL := Lib.hid hbel
    have HOWN := Lib.hid hown
    have hsz := hbel.size
    clear hbel hown
    by_cases hlt : k < n
    · have h1 := HBY.out (3 * k + 1)
      have h2 := HBY.out (3 * k + 2)
      have h3 := HBY.out (3 * k + 3)
      have HT := Lib.hid (fun (w1 : World) (v : Value) => trip_next (w1 := w1) (base := w.heap.size) (v := v) (s := s) (k := k))
      rw [show (((3 * k + 1 : Nat)) : Int) = 1 + (k : Int) * 3 from by omega] at h1
      rw [show (((3 * k + 2 : Nat)) : Int) = 1 + (k : Int) * 3 + 1 from by omega] at h2
      rw [show (((3 * k + 3 : Nat)) : Int) = 1 + (k : Int) * 3 + 2 from by omega] at h3
      generalize (s.data.toList.getD (3 * k + 1) 0).toNat = c1 at h1 HT
      generalize (s.data.toList.getD (3 * k + 2) 0).toNat = c2 at h2 HT
      generalize (s.data.toList.getD (3 * k + 3) 0).toNat = c3 at h3 HT
      have H1 := Lib.hid h1
      have H2 := Lib.hid h2
      have H3 := Lib.hid h3
      clear h1 h2 h3
      go_wp2_with fail
      refine (H1.out _).mono ?_
      rintro e wq ⟨rfl, rfl⟩
      go_wp2_with fail
      refine (H2.out _).mono ?_
      rintro e wq ⟨rfl, rfl⟩
      go_wp2_with fail
      refine (H3.out _).mono ?_
      rintro e wq ⟨rfl, rfl⟩
      go_wp2_with (first | (at_builtin; refine wpList_append_own _ rfl _ _ 24 rfl w.heap.size 69 i0 (.agg #[.int .i64 0, .int .i64 0, .int .i64 0]) 3 24 Tryd.underlying24 HF0.out HF1.out HF2.out HF3.out rfl (by decide) _ _ _ rfl (HOWN.out.alloc _) ⟨wr.heap.size, 0, none⟩ 1 1 [.int .i64 c1, .int .i64 c2, .int .i64 c3] rfl rfl ?c1 ?c2 ?c3 ?c4 ?c5 ?_))
      case c1 => exact cells3_at _ _ _ _ _
      case c2 => simp [Value.oneCell']
      case c3 => unfold maxLen; omega
      case c4 => omega
      case c5 => simp; omega
      intro v' w1 hown1 hg1 _
      have HO1 := Lib.hid (HT.out _ _ hown1)
      have HB1 := Lib.hid ((HBEL.out.alloc hsz (.cells #[.int .i64 c1, .int .i64 c2, .int .i64 c3] 69)).grown hg1 (by simp; omega) (fun k hk => (HOWN.out.lt k hk).1))
      clear hown1 hg1
      go_wp2
      go_roundw
      case rel => exact ⟨k + 1, by omega, by go_num, HO1.out, HB1.out⟩
      case measure => simp [intOf]; omega
    · obtain rfl : k = n := by omega
      have hhold := Ae.holds_of_own HOWN.out
      have hlen := tripV_length s k
      have HHH := Lib.hid hhold
      clear hhold
      go_wp2_with fail
      refine (AclK.impl_any _ _ (tripV s k) (by rw [hlen]; omega) HHH.out).mono ?_
      rintro e w2 ⟨rfl, hb⟩
      have HB2 := Lib.hid (HBEL.out.trans (hb.mono HBEL.out.size))
      have HO2 := Lib.hid (Strs.own_below HOWN.out hb)
      clear hb
      by_cases he : packV (tripV s k) = s
      · have HE := Lib.hid he
        have HR := Lib.hid (HYES.out he)
        have hl := Lib.hid hlen
        rw [he]
        clear he hlen
        go_wp2
        go_ret2
        refine ⟨_, by rw [HR.out]; rfl, ?_, HB2.out⟩
        rw [HR.out]
        show World.ownsRow _ _ _ _ _ (tripV s k).length (Ae.cells (tripV s k))
        rw [hl.out]
        exact HO2.out
      · have hne := str_ne he
        have HR := Lib.hid (HNO.out he)
        clear he hlen
        generalize packV (tripV s k) = P at hne
        go_wp2
        go_ret2
        refine ⟨_, by rw [HR.out]; rfl, ?_, HB2.out⟩
        rw [HR.out]
        exact own_nil3 _ _ _

theorem index_at (s : ByteArray) (j : Nat) (h : j < s.size) (q : Int) (hq : q = (j : Int)) (W : World) : (Instr.index 9 (.string s) (.int .i64 q)).run Tryd.prog W = .ok (.int .u8 ((s.data.toList.getD j 0).toNat : Int)) W := by
  subst hq
  rw [SplitAny.byte_at s j h]
  simp [Instr.index, go_sem, h]
theorem own_drew3 {w : World} {base : Nat} {e : TypeId} {v : Value} {n : Nat} {xs : List Value} (h : w.ownsRow base e 3 v n xs) (o : Obj) : (w.alloc o).drew.ownsRow base e 3 v n xs :=
  Strs.own_below (w := w.alloc o) (World.ownsRow.alloc h o) (Below.refl _ _).drew
theorem cells3_drew (w : World) (x y z : Value) (T : TypeId) : ∀ j u, [x, y, z][j]? = some u → (w.alloc (.cells #[x, y, z] T)).drew.cell? ((⟨w.heap.size, 0, none⟩ : Addr).add j) = some u := AclK.cells3_new w x y z T

set_option maxRecDepth 100000 in
set_option maxHeartbeats 3200000 in
theorem spec_any (s : ByteArray) (w : World) (hs : s.size ≤ 1048576) :
    Calls Tryd.prog 55 #[.string s] w fun e w' => ∃ v, e = .returned (.tuple #[v, .bool (resR (unpackV s)).2]) ∧ w'.ownsRow w.heap.size 69 3 v (resR (unpackV s)).1.length (Ae.cells (resR (unpackV s)).1) ∧ Below w.heap.size w w' := by
  by_cases h19 : s.size = 19
  · obtain ⟨i0, hi, hz0, hz1, hz2⟩ := info_parts Ae.info
    have HF0 := Lib.hid hi
    have HF1 := Lib.hid hz0
    have HF2 := Lib.hid hz1
    have HF3 := Lib.hid hz2
    clear hi hz0 hz1 hz2 hs
    obtain ⟨c0, hc0⟩ : ∃ c0, c0 = (s.data.toList.getD 0 0).toNat := ⟨_, rfl⟩
    have hc5 : c0 ≤ 255 := by have := (s.data.toList.getD 0 0).toNat_lt; omega
    obtain ⟨n, hn⟩ : ∃ n, n = min c0 6 := ⟨_, rfl⟩
    have hn6 : n ≤ 6 := by omega
    have hnn : n = (s.data.toList.getD 0 0).toNat ∨ (n = 6 ∧ 6 ≤ (s.data.toList.getD 0 0).toNat) := by omega
    have HYES := Lib.hid (fun h => unp_yes hnn (.inr (by omega)) h)
    have HNO := Lib.hid (fun h => unp_no hnn h)
    have e0 : s[0].toNat = c0 := by rw [hc0, SplitAny.byte_at s 0 (by omega)]
    have HCN := Lib.hid hn
    clear hnn hn hc0
    go_enter Tryd.func55, Tryd.ntmps55
    go_wp2_with fail
    go_loopw [4, 5] (fun sv iv wr => ∃ k : Nat, k ≤ n ∧ iv = .int .i64 k ∧ wr.ownsRow w.heap.size 69 3 sv k (Ae.cells (tripV s k)) ∧ Below w.heap.size w wr) (fun _ iv _ => n - (intOf iv).toNat)
    case atStart => exact ⟨0, Nat.zero_le _, rfl, own_fresh3 _ _, (Below.refl _ _).alloc (Nat.le_refl _) _⟩
    case round =>
      obtain ⟨k, hk, rfl, hown, hbel⟩ := hrel
      have HBEL := Lib.hid hbel
      have HOWN := Lib.hid hown
      have hsz := hbel.size
      clear hbel hown
      by_cases hlt : k < n
      · have hk6 : k < 6 := by omega
        have hkc : k < c0 := by have := HCN.out; omega
        have hI1 := index_at s (3 * k + 1) (by omega) (3 * (k : Int) + 1) (by omega)
        have hI2 := index_at s (3 * k + 2) (by omega) (3 * (k : Int) + 2) (by omega)
        have hI3 := index_at s (3 * k + 3) (by omega) (3 * (k : Int) + 3) (by omega)
        have hw0 : IntKind.i64.wrap (3 * (k : Int)) = 3 * (k : Int) := IntWalk.i64_in _ (by omega)
        have hw1 : IntKind.i64.wrap (3 * (k : Int) + 1) = 3 * (k : Int) + 1 := IntWalk.i64_in _ (by omega)
        have hw2 : IntKind.i64.wrap (3 * (k : Int) + 2) = 3 * (k : Int) + 2 := IntWalk.i64_in _ (by omega)
        have hw3 : IntKind.i64.wrap (3 * (k : Int) + 3) = 3 * (k : Int) + 3 := IntWalk.i64_in _ (by omega)
        have HT := Lib.hid (fun (w1 : World) (v : Value) => trip_next (w1 := w1) (base := w.heap.size) (v := v) (s := s) (k := k))
        have h1t := (s.data.toList.getD (3 * k + 1) 0).toNat_lt
        have h2t := (s.data.toList.getD (3 * k + 2) 0).toNat_lt
        have h3t := (s.data.toList.getD (3 * k + 3) 0).toNat_lt
        generalize (s.data.toList.getD (3 * k + 1) 0).toNat = c1 at hI1 HT h1t
        generalize (s.data.toList.getD (3 * k + 2) 0).toNat = c2 at hI2 HT h2t
        generalize (s.data.toList.getD (3 * k + 3) 0).toNat = c3 at hI3 HT h3t
        have hv1 : IntKind.i64.wrap (c1 : Int) = (c1 : Int) := IntWalk.i64_in _ (by omega)
        have hv2 : IntKind.i64.wrap (c2 : Int) = (c2 : Int) := IntWalk.i64_in _ (by omega)
        have hv3 : IntKind.i64.wrap (c3 : Int) = (c3 : Int) := IntWalk.i64_in _ (by omega)
        go_wp2
        go_region_law (refine HexOf.step_append_own rfl _ _ 24 rfl w.heap.size 69 i0 (.agg #[.int .i64 0, .int .i64 0, .int .i64 0]) 3 24 Tryd.underlying24 HF0.out HF1.out HF2.out HF3.out rfl (by decide) _ _ _ rfl (own_drew3 HOWN.out _) ⟨wr.heap.size, 0, none⟩ 1 1 [.int .i64 c1, .int .i64 c2, .int .i64 c3] rfl rfl (cells3_drew _ _ _ _ _) (by simp [Value.oneCell']) (by unfold maxLen; omega) (by omega) (by simp; omega) ?_; intro v' w1 hown1 hg1 _; have HO1 := Lib.hid (HT.out _ _ hown1); have HB1 := Lib.hid ((HBEL.out.alloc hsz (.cells #[.int .i64 c1, .int .i64 c2, .int .i64 c3] 69)).drew.grown hg1 (by simp; omega) (fun k hk => (HOWN.out.lt k hk).1)); clear hown1 hg1)
        all_goals
          go_wp2
          go_roundw
          case rel => exact ⟨k + 1, by omega, by go_num, HO1.out, HB1.out⟩
          case measure => simp [intOf]; omega
      · obtain rfl : k = n := by omega
        have hhold := Ae.holds_of_own HOWN.out
        have hlen := tripV_length s k
        have HHH := Lib.hid hhold
        clear hhold
        by_cases hkc : k < c0
        · have hk6 : ¬ k < 6 := by have := HCN.out; omega
          have hd6 : decide (k < 6) = false := decide_eq_false hk6
          go_wp2_with fail
          refine (AclK.spec_any _ _ (tripV s k) (by rw [hlen]; omega) HHH.out).mono ?_
          rintro e w2 ⟨rfl, hb⟩
          have HB2 := Lib.hid (HBEL.out.trans (hb.mono HBEL.out.size))
          have HO2 := Lib.hid (Strs.own_below HOWN.out hb)
          clear hb
          by_cases he : packV (tripV s k) = s
          · have HE := Lib.hid he
            have HR := Lib.hid (HYES.out he)
            have hl := Lib.hid hlen
            rw [he]
            clear he hlen
            go_wp2
            go_ret2
            refine ⟨_, by rw [HR.out]; rfl, ?_, HB2.out⟩
            rw [HR.out]
            show World.ownsRow _ _ _ _ _ (tripV s k).length (Ae.cells (tripV s k))
            rw [hl.out]
            exact HO2.out
          · have hne := str_ne he
            have HR := Lib.hid (HNO.out he)
            clear he hlen
            generalize packV (tripV s k) = P at hne
            go_wp2
            go_ret2
            refine ⟨_, by rw [HR.out]; rfl, ?_, HB2.out⟩
            rw [HR.out]
            exact own_nil3 _ _ _
        · have hd0 : decide (k < c0) = false := decide_eq_false hkc
          go_wp2_with fail
          refine (AclK.spec_any _ _ (tripV s k) (by rw [hlen]; omega) HHH.out).mono ?_
          rintro e w2 ⟨rfl, hb⟩
          have HB2 := Lib.hid (HBEL.out.trans (hb.mono HBEL.out.size))
          have HO2 := Lib.hid (Strs.own_below HOWN.out hb)
          clear hb
          by_cases he : packV (tripV s k) = s
          · have HE := Lib.hid he
            have HR := Lib.hid (HYES.out he)
            have hl := Lib.hid hlen
            rw [he]
            clear he hlen
            go_wp2
            go_ret2
            refine ⟨_, by rw [HR.out]; rfl, ?_, HB2.out⟩
            rw [HR.out]
            show World.ownsRow _ _ _ _ _ (tripV s k).length (Ae.cells (tripV s k))
            rw [hl.out]
            exact HO2.out
          · have hne := str_ne he
            have HR := Lib.hid (HNO.out he)
            clear he hlen
            generalize packV (tripV s k) = P at hne
            go_wp2
            go_ret2
            refine ⟨_, by rw [HR.out]; rfl, ?_, HB2.out⟩
            rw [HR.out]
            exact own_nil3 _ _ _
  · have HV := Lib.hid (unp_short h19)
    have hne : ((s.size : Int) != 19) = true := by simp; omega
    go_enter Tryd.func55, Tryd.ntmps55
    go_wp2
    go_ret2
    refine ⟨_, by rw [HV.out]; rfl, ?_, Below.refl _ _⟩
    rw [HV.out]
    exact own_nil3 _ _ _

end Go.Proofs.YthobdeidjagnhaaDoor.AclU

-- YthobdeidjagnhaaDoorADraw
/- Contracts and plain facts that a law of this seat leans on. Conditions: as each theorem types them. -/
namespace Go.Proofs.YthobdeidjagnhaaDoor.ADraw
open Go.ChangeShapes Go.WideShapes Go.ChangeAt Go.RowKit
open Cur AclV
open Go.Proofs.YthobdeidjagnhaaDoor.Make (cur_alloc)
open Go.Proofs.YthobdeidjagnhaaDoor.MakeBytes (cur_kept pick_any)
open AclS (forB)
set_option linter.unusedVariables false

theorem cells3_at (w : World) (x y z : Value) (T : TypeId) : ∀ j u, [x, y, z][j]? = some u → (w.alloc (.cells #[x, y, z] T)).cell? ((⟨w.heap.size, 0, none⟩ : Addr).add j) = some u := by
  intro j u hj
  rw [Addr.add_lit, Nat.zero_add, World.cell?_alloc_at _ _ _ _ rfl]
  simpa using hj
theorem own_fresh3 (w : World) (e : TypeId) : (w.alloc (.cells #[] e)).ownsRow w.heap.size e 3 (.slice (some ⟨w.heap.size, 0, none⟩) 0 0) 0 (Ae.cells []) := by
  refine ⟨rfl, .inr ⟨w.heap.size, 0, #[], rfl, Nat.le_refl _, ?_, Nat.le_refl _, Nat.zero_le _, rfl, rfl⟩⟩
  exact (MapKept.heap_alloc w _).1
theorem grown_of {w w' : World} (h : Below w.heap.size w w') (row : Option Nat) : w.grownBy w' row := ⟨h.os, h.tape, h.output, h.size, fun k hk _ => h.block k hk⟩
theorem grown_trans {w a b : World} {row : Option Nat} (h1 : w.grownBy a row) (h2 : a.grownBy b row) : w.grownBy b row :=
  ⟨h2.os.trans h1.os, h2.tape.trans h1.tape, h2.output.trans h1.output, Nat.le_trans h1.size h2.size, fun k hk hn => (h2.block k (Nat.lt_of_lt_of_le hk h1.size) hn).trans (h1.block k hk hn)⟩
theorem cur_below {w w' : World} {B g : Nat} {cv : Value} {ns : List Nat} {i : Nat} {h : Int} (hc : IsCur w B g cv ns i h) (hb : Below w.heap.size w w') : IsCur w' B g cv ns i h := by
  have := cur_i64 hc
  exact cur_kept hc (fun k hk => hb.block k (by omega))
theorem grown_row {w a b : World} {g : Nat} {row : Option Nat} (h : w.grownBy a (some g)) (hr : a.grownBy b row) (hrow : ∀ k, row = some k → w.heap.size ≤ k) : w.grownBy b (some g) :=
  ⟨hr.os.trans h.os, hr.tape.trans h.tape, hr.output.trans h.output, Nat.le_trans h.size hr.size, fun k hk hn => (hr.block k (Nat.lt_of_lt_of_le hk h.size) (fun e => by have := hrow k e.symm; omega)).trans (h.block k hk hn)⟩
theorem cur_row {w b : World} {B g : Nat} {cv : Value} {ns : List Nat} {i : Nat} {h : Int} {row : Option Nat} (hc : IsCur w B g cv ns i h) (hr : w.grownBy b row) (hrow : ∀ k, row = some k → g < k) : IsCur b B g cv ns i h := by
  have := cur_i64 hc
  exact cur_kept hc (fun k hk => hr.block k (by omega) (fun e => by have := hrow k e.symm; omega))
theorem own_grown {w a : World} {base g n size : Nat} {v : Value} {xs : List Value} {e : TypeId} (h : w.ownsRow base e size v n xs) (hlt : g < base) (hg : w.grownBy a (some g)) : a.ownsRow base e size v n xs :=
  h.kept hg (.inr fun e => by have := (h.lt g e).1; omega)

/-- The last entry. -/
def lastA (l : List At) : At := l.getD (l.length - 1) a0
theorem last_snoc (l : List At) (x : At) : lastA (l ++ [x]) = x := by
  unfold lastA
  rw [List.length_append, List.length_singleton, Nat.add_sub_cancel]
  simp [List.getD]
theorem getD_app (l : List At) (x : At) (i : Nat) (h : i < l.length) : (l ++ [x]).getD i a0 = l.getD i a0 := by
  rw [List.getD_eq_getElem?_getD, List.getD_eq_getElem?_getD, List.getElem?_append_left h]
theorem getD_end (l : List At) (x : At) : (l ++ [x]).getD l.length a0 = x := by simp [List.getD]
theorem up_app (l : List At) (x : At) : ∀ k, k ≤ l.length → upB (l ++ [x]) k = upB l k
  | 0, _ => rfl
  | k + 1, h => by
    rw [upB_succ, upB_succ, up_app l x k (by omega), getD_app l x k (by omega)]
    by_cases hk : k = 0
    · subst hk; rfl
    · rw [getD_app l x (k - 1) (by omega)]
/-- Valid entries that ascend and stand before the entry of tag t and id i. -/
def Asc (l : List At) (t i : Int) : Prop := upB l l.length = true ∧ (l ≠ [] → (lastA l).1 < t ∨ ((lastA l).1 = t ∧ (lastA l).2.1 < i))
theorem asc_nil (t i : Int) : Asc [] t i := ⟨rfl, fun h => absurd rfl h⟩
theorem asc_mono {l : List At} {t i t' i' : Int} (h : Asc l t i) (hm : t < t' ∨ (t = t' ∧ i ≤ i')) : Asc l t' i' := ⟨h.1, fun hne => by
  have := h.2 hne
  omega⟩
theorem asc_snoc {l : List At} {t i p : Int} (h : Asc l t i) (he : entB (t, i, p) = true) : upB (l ++ [(t, i, p)]) (l.length + 1) = true := by
  rw [upB_succ, up_app l _ _ (Nat.le_refl _), h.1, getD_end, he]
  by_cases h0 : l.length = 0
  · simp [h0]
  · have hne : l ≠ [] := fun e => h0 (by rw [e]; rfl)
    rw [getD_app l _ _ (by omega)]
    have hl := h.2 hne
    unfold lastA at hl
    have : ltB (l.getD (l.length - 1) a0) (t, i, p) = true := by
      simp only [ltB, Bool.or_eq_true, Bool.and_eq_true, decide_eq_true_eq]
      exact hl
    rw [this]
    simp
theorem asc_next {l : List At} {t i p : Int} (h : Asc l t i) (he : entB (t, i, p) = true) : Asc (l ++ [(t, i, p)]) t (i + 1) := by
  refine ⟨by rw [List.length_append, List.length_singleton]; exact asc_snoc h he, fun _ => ?_⟩
  rw [last_snoc]
  exact .inr ⟨rfl, by show i < i + 1; omega⟩
/-- With the mask behind them they are a valid list. -/
theorem asc_mask {l : List At} {p : Int} (h : Asc l 3 0) (hl : l.length ≤ 5) (h0 : 0 ≤ p) (h7 : p ≤ 7) : okB (l ++ [(3, 0, p)]) = true := by
  have he : entB (3, 0, p) = true := by simp [entB, h0, h7]
  have hu := asc_snoc h he
  rw [AclI.ok_last (p := l.length) (by simp) hu, getD_end]
  simp; omega
/-- Before: a strict order on entries. -/
theorem lt_trans {x y z : At} (h1 : ltB x y = true) (h2 : ltB y z = true) : ltB x z = true := by
  simp only [ltB, Bool.or_eq_true, Bool.and_eq_true, decide_eq_true_eq] at *
  omega
theorem up_lt {l : List At} : ∀ (d i k : Nat), k = i + d + 1 → k < l.length → upB l l.length = true → ltB (l.getD i a0) (l.getD k a0) = true
  | 0, i, k, hk, hl, hu => by
    subst hk
    have := upB_mono hu (show i + 0 + 1 + 1 ≤ l.length by omega)
    rw [upB_succ] at this
    simp at this
    exact this.2.2
  | d + 1, i, k, hk, hl, hu => by
    have h1 := up_lt d i (i + d + 1) rfl (by omega) hu
    subst hk
    have := upB_mono hu (show i + (d + 1) + 1 + 1 ≤ l.length by omega)
    rw [upB_succ] at this
    simp at this
    exact lt_trans h1 this.2.2
theorem ok_lt {l : List At} (h : okB l = true) {i k : Nat} (hik : i < k) (hk : k < l.length) : ltB (l.getD i a0) (l.getD k a0) = true := up_lt (k - i - 1) i k (by omega) hk (ok_up h)
/-- An entry's perm is found by its tag and id. -/
theorem perm_ok {l : List At} (h : okB l = true) {k : Nat} (hk : k < l.length) : permV l (l.getD k a0).1 (l.getD k a0).2.1 = ((l.getD k a0).2.2, true) := by
  refine AclQ.perm_at hk (fun i hi => ?_) (by simp [forB])
  have := ok_lt h hi hk
  simp only [ltB, Bool.or_eq_true, Bool.and_eq_true, decide_eq_true_eq] at this
  simp only [forB]
  rcases this with h1 | ⟨h1, h2⟩
  · rw [decide_eq_false (by omega), Bool.false_and]
  · rw [decide_eq_false (show ¬ (l.getD i a0).2.1 = (l.getD k a0).2.1 by omega), Bool.and_false]
/-- The mask is the last entry. -/
theorem mask_ok {l : List At} (h : okB l = true) {p : Nat} (hl : l.length = p + 1) : maskV l = (l.getD p a0).2.2 := by
  have hu := ok_up h
  rw [hl] at hu
  have h3 := AclI.ok_last hl hu
  rw [h] at h3
  have h33 : (l.getD p a0).1 = 3 := by simpa using (Bool.and_eq_true_iff.1 h3.symm).2
  refine AclQ.mask_at (by omega) (fun i hi => ?_) (decide_eq_true h33)
  have := ok_lt h hi (by omega)
  have hei := up_ent (ok_up h) (show i < l.length by omega)
  have hep := up_ent (ok_up h) (show p < l.length by omega)
  simp only [ltB, entB, Bool.or_eq_true, Bool.and_eq_true, decide_eq_true_eq] at this hei hep
  exact decide_eq_false (by omega)

set_option maxRecDepth 100000 in
set_option maxHeartbeats 400000 in
theorem once_any (w : World) (B g : Nat) (cv : Value) (ns : List Nat) (i : Nat) (h : Int) (m : Nat) (hm1 : 1 ≤ m) (hm2 : m ≤ 256) (hc : IsCur w B g cv ns i h) :
    Calls Tryd.prog 60 #[.pointer (some ⟨g, 0, none⟩), .int .i64 m] w fun e w' => ∃ b : Bool, e = .returned (.bool b) ∧ IsCur w' B g cv ns (stepI ns i) (nextH h) ∧ w.grownBy w' (some g) := by
  have H1 := Lib.hid (below_any w B g cv ns i h m hm1 hm2 hc)
  clear hc
  go_enter Tryd.func60, Tryd.ntmps60
  go_wp2_with fail
  refine H1.out.mono ?_
  rintro e w1 ⟨rfl, hc1, hg1⟩
  go_wp2
  go_ret
  exact ⟨_, rfl, hc1, hg1⟩
def perms : List Int := [7, 7, 6, 5, 4, 0]
theorem perms_cell (w : World) (T : TypeId) (j : Nat) (hj : j < 6) : (w.alloc (.cells #[.int .i64 7, .int .i64 7, .int .i64 6, .int .i64 5, .int .i64 4, .int .i64 0] T)).cell? ⟨w.heap.size, j, none⟩ = some (.int .i64 (perms.getD j 0)) := by
  rw [World.cell?_alloc_at _ _ _ _ rfl]
  rcases (show j = 0 ∨ j = 1 ∨ j = 2 ∨ j = 3 ∨ j = 4 ∨ j = 5 by omega) with rfl | rfl | rfl | rfl | rfl | rfl <;> rfl
theorem perms_in (j : Nat) (hj : j < 6) : 0 ≤ perms.getD j 0 ∧ perms.getD j 0 ≤ 7 := by
  rcases (show j = 0 ∨ j = 1 ∨ j = 2 ∨ j = 3 ∨ j = 4 ∨ j = 5 by omega) with rfl | rfl | rfl | rfl | rfl | rfl <;> decide

set_option maxRecDepth 100000 in
set_option maxHeartbeats 4000000 in
theorem draw_any (w : World) (B g : Nat) (cv : Value) (ns : List Nat) (i : Nat) (h : Int) (hc : IsCur w B g cv ns i h) :
    Calls Tryd.prog 63 #[.pointer (some ⟨g, 0, none⟩)] w fun e w' => ∃ (v : Value) (l : List At), e = .returned v ∧ okB l = true ∧ w'.ownsRow w.heap.size 69 3 v l.length (Ae.cells l) ∧ w.grownBy w' (some g) := by
  obtain ⟨j0, hj, hy0, hy1, hy2⟩ := info_parts Ae.info
  have HJ := Lib.hid hj
  have HY0 := Lib.hid hy0
  have HY1 := Lib.hid hy1
  have HY2 := Lib.hid hy2
  clear hj hy0 hy1 hy2
  have hgl := cur_i64 hc
  have HC := Lib.hid (cur_alloc hc (.cells #[] 69))
  have HO := Lib.hid (own_fresh3 w 69)
  have HG := Lib.hid (World.grownBy_alloc w (.cells #[] 69) (some g))
  clear hc
  go_enter Tryd.func63, Tryd.ntmps63
  go_wp2_with fail
  generalize w.alloc (.cells #[] 69) = w0 at HC HO HG ⊢
  refine (once_any _ _ _ _ _ _ _ 3 (by omega) (by omega) HC.out).mono ?_
  rintro e w1 ⟨b, rfl, hc1, hg1⟩
  replace HC := Lib.hid hc1
  replace HO := Lib.hid (own_grown HO.out hgl hg1)
  replace HG := Lib.hid (grown_trans HG.out hg1)
  clear hc1 hg1
  generalize stepI ns i = i1 at HC
  generalize nextH h = h1 at HC
  cases b with
  | true =>
    go_wp2
    go_ret
    exact ⟨_, [], rfl, AclI.ok_zero rfl, HO.out, HG.out⟩
  | false =>
    go_wp2_with fail
    go_loopw [3, 4] (fun lv tv wr => ∃ (T : Nat) (l : List At) (i : Nat) (h : Int), 1 ≤ T ∧ T ≤ 3 ∧ tv = .int .i64 T ∧ Asc l T 0 ∧ l.length ≤ 4 ∧ wr.ownsRow w.heap.size 69 3 lv l.length (Ae.cells l) ∧ IsCur wr B g cv ns i h ∧ w.grownBy wr (some g)) (fun _ tv _ => 3 - (intOf tv).toNat)
    case atStart => exact ⟨1, [], _, _, by omega, by omega, rfl, asc_nil _ _, by simp, HO.out, HC.out, HG.out⟩
    case round =>
      clear HC HO HG
      obtain ⟨T, l, i, h, hT1, hT3, rfl, hasc, hl4, hown, hc, hg⟩ := hrel
      have HA := Lib.hid hasc
      have HO := Lib.hid hown
      have HC := Lib.hid hc
      have HG := Lib.hid hg
      clear hasc hown hc hg
      by_cases hlt : T ≤ 2
      · have hd2 : decide ((T : Int) ≤ 2) = true := decide_eq_true (by omega)
        go_wp2_with fail
        try rw [hd2]
        go_loopw [3, 5] (fun lv iv wr => ∃ (J : Nat) (l : List At) (i : Nat) (h : Int), 1 ≤ J ∧ J ≤ 4 ∧ iv = .int .i64 J ∧ Asc l T J ∧ l.length ≤ 4 ∧ wr.ownsRow w.heap.size 69 3 lv l.length (Ae.cells l) ∧ IsCur wr B g cv ns i h ∧ w.grownBy wr (some g)) (fun _ iv _ => 4 - (intOf iv).toNat)
        case atStart => exact ⟨1, l, _, _, by omega, by omega, rfl, asc_mono HA.out (.inr ⟨rfl, by omega⟩), hl4, HO.out, HC.out, HG.out⟩
        case round =>
          clear HC HO HG HA hl4
          obtain ⟨J, l, i, h, hJ1, hJ4, rfl, hasc, hl4, hown, hc, hg⟩ := hrel
          have HA := Lib.hid hasc
          have HO := Lib.hid hown
          have HC := Lib.hid hc
          have HG := Lib.hid hg
          obtain ⟨va, vc, rfl⟩ := Dk.slice_of hown
          clear hasc hown hc hg
          by_cases hj : J < 4
          · go_wp2_with fail
            refine (once_any _ _ _ _ _ _ _ 3 (by omega) (by omega) HC.out).mono ?_
            rintro e w2 ⟨b, rfl, hc1, hg1⟩
            replace HC := Lib.hid hc1
            replace HO := Lib.hid (own_grown HO.out hgl hg1)
            replace HG := Lib.hid (grown_trans HG.out hg1)
            clear hc1 hg1
            generalize stepI ns i = i2 at HC
            generalize nextH h = h2 at HC
            cases b with
            | false =>
              go_wp2
              go_roundw
              case rel => exact ⟨J + 1, l, _, _, by omega, by omega, by go_num, asc_mono HA.out (.inr ⟨rfl, by omega⟩), hl4, HO.out, HC.out, HG.out⟩
              case measure => simp [intOf]; omega
            | true =>
              by_cases hll : l.length < 4
              · go_wp2_with fail
                refine (below_any _ _ _ _ _ _ _ 8 (by omega) (by omega) HC.out).mono ?_
                rintro e w3 ⟨rfl, hc1, hg1⟩
                replace HC := Lib.hid hc1
                replace HO := Lib.hid (own_grown HO.out hgl hg1)
                replace HG := Lib.hid (grown_trans HG.out hg1)
                clear hc1 hg1
                have hp8 : stepX ns i2 h2 % 8 < 8 := Nat.mod_lt _ (by omega)
                generalize stepX ns i2 h2 % 8 = p at hp8 ⊢
                generalize stepI ns i2 = i3 at HC
                generalize nextH h2 = h3 at HC
                have he : entB ((T : Int), (J : Int), (p : Int)) = true := by
                  simp only [entB, Bool.and_eq_true, Bool.or_eq_true, decide_eq_true_eq]
                  omega
                have HN := Lib.hid (asc_next HA.out he)
                have hs3 := HG.out.size
                clear he
                have HO2 := Lib.hid (World.ownsRow.alloc HO.out (.cells #[.int .i64 T, .int .i64 J, .int .i64 p] 69))
                go_wp2_with (first | (at_builtin; refine wpList_append_own _ rfl _ _ 24 rfl w.heap.size 69 j0 (.agg #[.int .i64 0, .int .i64 0, .int .i64 0]) 3 24 Tryd.underlying24 HJ.out HY0.out HY1.out HY2.out rfl (by decide) _ _ _ rfl HO2.out ⟨w3.heap.size, 0, none⟩ 1 1 [.int .i64 T, .int .i64 J, .int .i64 p] rfl rfl (cells3_at _ _ _ _ _) (by simp [Value.oneCell']) (by unfold maxLen; omega) (by omega) (by simp only [World.size_alloc]; omega) ?_))
                intro v9 w9 hown9 hg9 _
                have HO9 := Lib.hid hown9
                have HC9 := Lib.hid (cur_row (cur_alloc HC.out (.cells #[.int .i64 T, .int .i64 J, .int .i64 p] 69)) hg9 (fun k hk => by have := (HO.out.lt k hk).1; omega))
                have HG9 := Lib.hid (grown_row (grown_trans HG.out (World.grownBy_alloc w3 (.cells #[.int .i64 T, .int .i64 J, .int .i64 p] 69) (some g))) hg9 (fun k hk => (HO.out.lt k hk).1))
                clear hown9 hg9
                go_wp2
                go_roundw
                case rel => exact ⟨J + 1, l ++ [((T : Int), (J : Int), (p : Int))], _, _, by omega, by omega, by go_num, by rw [show ((J + 1 : Nat) : Int) = (J : Int) + 1 from by omega]; exact HN.out, by simp; omega, by rw [List.length_append, List.length_singleton, Ae.cells_snoc]; exact HO9.out, HC9.out, HG9.out⟩
                case measure => simp [intOf]; omega
              · have hd : decide (l.length < 4) = false := decide_eq_false hll
                go_wp2
                go_roundw
                case rel => exact ⟨J + 1, l, _, _, by omega, by omega, by go_num, asc_mono HA.out (.inr ⟨rfl, by omega⟩), hl4, HO.out, HC.out, HG.out⟩
                case measure => simp [intOf]; omega
          · obtain rfl : J = 4 := by omega
            go_wp2
            go_roundw
            case rel => exact ⟨T + 1, l, _, _, by omega, by omega, by go_num, asc_mono HA.out (.inl (by omega)), hl4, HO.out, HC.out, HG.out⟩
            case measure => simp [intOf]; omega
      · obtain rfl : T = 3 := by omega
        obtain ⟨va, vc, rfl⟩ := Dk.slice_of HO.out
        have hcg := cur_i64 HC.out
        have hs3 := HG.out.size
        have HO1 := Lib.hid (World.ownsRow.alloc HO.out (.cells #[.int .i64 7, .int .i64 7, .int .i64 6, .int .i64 5, .int .i64 4, .int .i64 0] 3))
        have HC1 := Lib.hid (cur_alloc HC.out (.cells #[.int .i64 7, .int .i64 7, .int .i64 6, .int .i64 5, .int .i64 4, .int .i64 0] 3))
        have HG1 := Lib.hid (grown_trans HG.out (World.grownBy_alloc wr (.cells #[.int .i64 7, .int .i64 7, .int .i64 6, .int .i64 5, .int .i64 4, .int .i64 0] 3) (some g)))
        have hpc := fun j (hj : j < 6) => perms_cell wr 3 j hj
        have HPC := Lib.hid hpc
        clear hpc
        have hsa : (wr.alloc (.cells #[.int .i64 7, .int .i64 7, .int .i64 6, .int .i64 5, .int .i64 4, .int .i64 0] 3)).heap.size = wr.heap.size + 1 := by simp
        go_wp2_with fail
        generalize wr.alloc (.cells #[.int .i64 7, .int .i64 7, .int .i64 6, .int .i64 5, .int .i64 4, .int .i64 0] 3) = wa at HO1 HC1 HG1 HPC hsa ⊢
        refine (pick_any _ _ _ _ _ _ _ wr.heap.size 6 perms (by decide) (by decide) (by omega) HPC.out HC1.out).mono ?_
        rintro e w4 ⟨rfl, hc1, hg1⟩
        have HO4 := Lib.hid (own_grown HO1.out hgl hg1)
        have HG4 := Lib.hid (grown_trans HG1.out hg1)
        have hs4 := HG4.out.size
        clear hc1 hg1
        have hp := perms_in (stepX ns i h % perms.length) (Nat.mod_lt _ (by decide))
        generalize perms.getD (stepX ns i h % perms.length) 0 = p at hp ⊢
        have HOK := Lib.hid (asc_mask (show Asc l 3 0 from HA.out) (by omega) hp.1 hp.2)
        have HO5 := Lib.hid (World.ownsRow.alloc HO4.out (.cells #[.int .i64 3, .int .i64 0, .int .i64 p] 69))
        go_wp2_with (first | (at_builtin; refine wpList_append_own _ rfl _ _ 24 rfl w.heap.size 69 j0 (.agg #[.int .i64 0, .int .i64 0, .int .i64 0]) 3 24 Tryd.underlying24 HJ.out HY0.out HY1.out HY2.out rfl (by decide) _ _ _ rfl HO5.out ⟨w4.heap.size, 0, none⟩ 1 1 [.int .i64 3, .int .i64 0, .int .i64 p] rfl rfl (cells3_at _ _ _ _ _) (by simp [Value.oneCell']) (by unfold maxLen; omega) (by omega) (by simp only [World.size_alloc]; omega) ?_))
        intro v9 w9 hown9 hg9 _
        have HO9 := Lib.hid hown9
        have HG9 := Lib.hid (grown_row (grown_trans HG4.out (World.grownBy_alloc w4 (.cells #[.int .i64 3, .int .i64 0, .int .i64 p] 69) (some g))) hg9 (fun k hk => (HO4.out.lt k hk).1))
        clear hown9 hg9
        go_wp2
        go_ret
        exact ⟨_, l ++ [(3, 0, p)], rfl, HOK.out, by rw [List.length_append, List.length_singleton, Ae.cells_snoc]; exact HO9.out, HG9.out⟩

end Go.Proofs.YthobdeidjagnhaaDoor.ADraw

-- YthobdeidjagnhaaDoorCDraw
/- Contracts and plain facts that a law of this seat leans on. Conditions: as each theorem types them. -/
namespace Go.Proofs.YthobdeidjagnhaaDoor.CDraw
open Go.ChangeShapes Go.WideShapes Go.ChangeAt Go.RowKit
open Cur CredV Bx
open Go.Proofs.YthobdeidjagnhaaDoor.Make (cur_alloc)
open Go.Proofs.YthobdeidjagnhaaDoor.MakeBytes (cur_kept)
open ADraw (grown_of grown_trans cur_below grown_row cur_row own_grown once_any)
set_option linter.unusedVariables false

theorem one_new (w : World) (x : Value) (T : TypeId) : ∀ j u, [x][j]? = some u → (w.alloc (.cells #[x] T)).cell? ((⟨w.heap.size, 0, none⟩ : Addr).add j) = some u := by
  intro j u hj
  rw [Addr.add_lit, Nat.zero_add, World.cell?_alloc_at _ _ _ _ rfl]
  simpa using hj
theorem grown_set (w : World) (g j : Nat) (u : Value) : w.grownBy (w.setCell ⟨g, j, none⟩ u) (some g) :=
  ⟨rfl, rfl, rfl, by simp [World.setCell], fun k _ hk => Below.heap_setCell _ _ _ _ (fun e => hk (by simp [e]))⟩
/-- The code stands behind whatever lets the blocks before it lie. -/
theorem code_at {w w' : World} {cv : Value} {ns : List Nat} (h : CodeIn w w.heap.size cv ns) (hb : Below w.heap.size w w') : CodeIn w' w'.heap.size cv ns := by
  obtain ⟨a, cap, rfl, hn, hx, hc⟩ := code_kept h hb.block
  refine ⟨a, cap, rfl, hn, hx, fun hp => ?_⟩
  obtain ⟨b, o, h1, h2, h3⟩ := hc hp
  exact ⟨b, o, h1, Nat.lt_of_lt_of_le h2 hb.size, h3⟩
/-- Groups that are users' numbers, ascend and stand before n. -/
def Asc (l : List Int) (n : Int) : Prop := ascB l l.length = true ∧ ∀ i, i < l.length → l.getD i 0 < n
theorem asc_nil (n : Int) : Asc [] n := ⟨rfl, fun i h => absurd h (Nat.not_lt_zero _)⟩
theorem asc_mono {l : List Int} {n m : Int} (h : Asc l n) (hm : n ≤ m) : Asc l m := ⟨h.1, fun i hi => by have := h.2 i hi; omega⟩
theorem getD_app (l : List Int) (x : Int) (i : Nat) (h : i < l.length) : (l ++ [x]).getD i 0 = l.getD i 0 := by
  rw [List.getD_eq_getElem?_getD, List.getD_eq_getElem?_getD, List.getElem?_append_left h]
theorem getD_end (l : List Int) (x : Int) : (l ++ [x]).getD l.length 0 = x := by simp [List.getD]
theorem asc_app (l : List Int) (x : Int) : ∀ k, k ≤ l.length → ascB (l ++ [x]) k = ascB l k
  | 0, _ => rfl
  | k + 1, h => by
    rw [ascB_succ, ascB_succ, asc_app l x k (by omega), getD_app l x k (by omega)]
    by_cases hk : k = 0
    · subst hk; rfl
    · rw [getD_app l x (k - 1) (by omega)]
theorem asc_next {l : List Int} {x : Int} (h : Asc l x) (h0 : 0 ≤ x) (h3 : x ≤ 3) : Asc (l ++ [x]) (x + 1) := by
  constructor
  · rw [List.length_append, List.length_singleton, ascB_succ, asc_app l x _ (Nat.le_refl _), h.1, getD_end, (user_iff x).2 ⟨h0, h3⟩]
    by_cases hl : l.length = 0
    · simp [hl]
    · rw [getD_app l x _ (by omega), decide_eq_true (h.2 _ (by omega))]; simp
  · intro i hi
    rw [List.length_append, List.length_singleton] at hi
    rcases Nat.lt_or_ge i l.length with hj | hj
    · rw [getD_app l x i hj]; have := h.2 i hj; omega
    · rw [show i = l.length by omega, getD_end]; omega
theorem asc_cred {l : List Int} {n : Int} {u g : Nat} (h : Asc l n) (hu : u < 4) (hg : g < 4) : credB ((u : Int), (g : Int), l) = true := by
  simp only [credB, Bool.and_eq_true]
  exact ⟨⟨h.1, (user_iff _).2 ⟨by omega, by omega⟩⟩, (user_iff _).2 ⟨by omega, by omega⟩⟩

end Go.Proofs.YthobdeidjagnhaaDoor.CDraw

-- YthobdeidjagnhaaDoorFlK
/- What an exact law carries from world to world: boxes over stores in rows that lie apart. No condition. -/
namespace Go.Proofs.YthobdeidjagnhaaDoor.FlK
open Go.ChangeShapes Go.WideShapes Go.ChangeAt Go.RowKit
open Foot Bx
set_option linter.unusedVariables false
theorem bk_chg {w w' : World} {b : Nat} {cs : Array Value} {t : TypeId} {S : List Nat} (h : Bk w b cs t) (hc : Chg w w' S) (hn : b ∉ S) : Bk w' b cs t := (hc.block b h.lt hn).trans h
theorem lies_apart {S T : List Nat} {a b c d : Nat} (h : Lies S a b) (h' : Lies T c d) (hbc : b ≤ c) : Apart T S := (Lies.apart h h' hbc).symm
theorem below_chg {w a b : World} {B : Nat} {S : List Nat} {lo hi : Nat} (h : Below B w a) (hc : Chg a b S) (hB : B ≤ a.heap.size) (hl : Lies S lo hi) (hlo : B ≤ lo) : Below B w b :=
  h.trans (hc.below hB (fun k hk => by have := (hl k hk).1; omega))
theorem not_in_low {S : List Nat} {lo hi b : Nat} (hl : Lies S lo hi) (h : b < lo) : b ∉ S := fun hh => by have := (hl b hh).1; omega
theorem not_in_high {S : List Nat} {lo hi b : Nat} (hl : Lies S lo hi) (h : hi ≤ b) : b ∉ S := fun hh => by have := (hl b hh).2; omega
/-- A call that leaves the very world. -/
theorem still {P : Program} {f : FuncId} {args : Array Value} {W : World} {r : Ending} (h : Calls P f args W fun e w' => e = r ∧ W = w') : Calls P f args W fun e w' => e = r ∧ Below W.heap.size W w' :=
  h.mono fun _ _ ⟨he, hw⟩ => ⟨he, by rw [hw]; exact Below.refl _ _⟩
end Go.Proofs.YthobdeidjagnhaaDoor.FlK

-- YthobdeidjagnhaaDoorInSp
/- Contract: the model's SameInode, for every two inodes. Conditions: as the theorem types them. -/
namespace Go.Proofs.YthobdeidjagnhaaDoor.InSp
open Go.ChangeShapes Go.WideShapes Go.ChangeAt Go.RowKit
open Foot Bx
open InoV (I sameB)
open Dk (ret_bool)
set_option linter.unusedVariables false

theorem no_of {n m : I} (h : n ≠ m) : sameB n m = false := by
  cases hs : sameB n m
  · rfl
  · exact absurd ((InoV.same_iff n m).1 hs) h
theorem rest_of {n m : I} (h0 : n.kind = m.kind) (h1 : n.mode = m.mode) (h2 : n.uid = m.uid) (h3 : n.gid = m.gid) (h4 : n.links = m.links) (h5 : n.size = m.size) (h6 : n.tick = m.tick) : sameB n m = (decide (n.blocks = m.blocks) && decide (n.acl = m.acl) && decide (n.dflt = m.dflt)) := by
  simp [sameB, h0, h1, h2, h3, h4, h5, h6]
set_option maxRecDepth 100000 in
set_option maxHeartbeats 3200000 in
theorem same_spec (w : World) (va vb : Value) (n m : I) (hn : In.cost n ≤ 1073741824) (hm : In.cost m ≤ 1073741824) (h : In.Holds w va n) (h' : In.Holds w vb m) :
    Calls Tryd.prog 40 #[va, vb] w fun e w' => e = .returned (.bool (sameB n m)) ∧ Below w.heap.size w w' := by
  have hn1 : n.blocks.length ≤ 1073741824 := Nat.le_trans (In.le_blocks n) hn
  have hn2 : n.acl.length ≤ 1073741824 := Nat.le_trans (In.le_acl n) hn
  have hn3 : n.dflt.length ≤ 1073741824 := Nat.le_trans (In.le_dflt n) hn
  have hm1 : m.blocks.length ≤ 1073741824 := Nat.le_trans (In.le_blocks m) hm
  have hm2 : m.acl.length ≤ 1073741824 := Nat.le_trans (In.le_acl m) hm
  have hm3 : m.dflt.length ≤ 1073741824 := Nat.le_trans (In.le_dflt m) hm
  clear hn hm
  obtain ⟨r0, r1, r2, rfl, g0, g1, g2⟩ := h
  obtain ⟨s0, s1, s2, rfl, k0, k1, k2⟩ := h'
  have H0 := Lib.hid g0
  have H1 := Lib.hid g1
  have H2 := Lib.hid g2
  have K0 := Lib.hid k0
  have K1 := Lib.hid k1
  have K2 := Lib.hid k2
  clear g0 g1 g2 k0 k1 k2
  have HB := Lib.hid (((Below.refl w.heap.size w).alloc (Nat.le_refl _) (.cells #[.int .i64 n.kind, .int .i64 n.mode, .int .i64 n.uid, .int .i64 n.gid, .int .i64 n.links, .int .i64 n.size, .int .i64 n.tick, r0, r1, r2] 26)).alloc (by simp) (.cells #[.int .i64 m.kind, .int .i64 m.mode, .int .i64 m.uid, .int .i64 m.gid, .int .i64 m.links, .int .i64 m.size, .int .i64 m.tick, s0, s1, s2] 26))
  have HX := Lib.hid ((new w #[.int .i64 n.kind, .int .i64 n.mode, .int .i64 n.uid, .int .i64 n.gid, .int .i64 n.links, .int .i64 n.size, .int .i64 n.tick, r0, r1, r2] 26).alloc (.cells #[.int .i64 m.kind, .int .i64 m.mode, .int .i64 m.uid, .int .i64 m.gid, .int .i64 m.links, .int .i64 m.size, .int .i64 m.tick, s0, s1, s2] 26))
  have HY := Lib.hid (new_at (w.alloc (.cells #[.int .i64 n.kind, .int .i64 n.mode, .int .i64 n.uid, .int .i64 n.gid, .int .i64 n.links, .int .i64 n.size, .int .i64 n.tick, r0, r1, r2] 26)) #[.int .i64 m.kind, .int .i64 m.mode, .int .i64 m.uid, .int .i64 m.gid, .int .i64 m.links, .int .i64 m.size, .int .i64 m.tick, s0, s1, s2] 26 (w.heap.size + 1) (by simp))
  by_cases h0 : n.kind = m.kind
  · have ha0 : (n.kind == m.kind) = true := by simpa using h0
    have hb0 : (n.kind != m.kind) = false := by simpa using h0
    by_cases h1 : n.mode = m.mode
    · have ha1 : (n.mode == m.mode) = true := by simpa using h1
      have hb1 : (n.mode != m.mode) = false := by simpa using h1
      by_cases h2 : n.uid = m.uid
      · have ha2 : (n.uid == m.uid) = true := by simpa using h2
        have hb2 : (n.uid != m.uid) = false := by simpa using h2
        by_cases h3 : n.gid = m.gid
        · have ha3 : (n.gid == m.gid) = true := by simpa using h3
          have hb3 : (n.gid != m.gid) = false := by simpa using h3
          by_cases h4 : n.links = m.links
          · have ha4 : (n.links == m.links) = true := by simpa using h4
            have hb4 : (n.links != m.links) = false := by simpa using h4
            by_cases h5 : n.size = m.size
            · have ha5 : (n.size == m.size) = true := by simpa using h5
              have hb5 : (n.size != m.size) = false := by simpa using h5
              by_cases h6 : n.tick = m.tick
              · have ha6 : (n.tick == m.tick) = true := by simpa using h6
                have hb6 : (n.tick != m.tick) = false := by simpa using h6
                have HS := Lib.hid (rest_of h0 h1 h2 h3 h4 h5 h6)
                clear h0 h1 h2 h3 h4 h5 h6
                by_cases hbl : n.blocks = m.blocks
                · have HBL := Lib.hid (show decide (n.blocks = m.blocks) = true from decide_eq_true hbl)
                  clear hbl
                  by_cases ha : n.acl = m.acl
                  · have HA := Lib.hid (show decide (n.acl = m.acl) = true from decide_eq_true ha)
                    clear ha
                    go_enter Tryd.func40, Tryd.ntmps40
                    go_wp2_with fail
                    refine (InEq.same_ints _ r0 s0 n.blocks m.blocks hn1 hm1 (Ni.holds_below H0.out.old HB.out) (Ni.holds_below K0.out.old HB.out)).mono ?_
                    rintro e w1 ⟨rfl, hb⟩
                    rw [HBL.out]
                    replace HX := Lib.hid (HX.out.all hb)
                    replace HY := Lib.hid (HY.out.all hb)
                    replace HB := Lib.hid (HB.out.trans (hb.mono HB.out.size))
                    clear hb
                    obtain ⟨x00, x01, x02, x03, x04, x05, x06, x07, x08, x09⟩ := Bk.c10 HX.out
                    obtain ⟨y00, y01, y02, y03, y04, y05, y06, y07, y08, y09⟩ := Bk.c10 HY.out
                    go_wp2_with fail
                    refine (InEq.same_ents _ r1 s1 n.acl m.acl hn2 hm2 (Ae.holds_below H1.out HB.out) (Ae.holds_below K1.out HB.out)).mono ?_
                    rintro e w2 ⟨rfl, hb⟩
                    rw [HA.out]
                    replace HX := Lib.hid (HX.out.all hb)
                    replace HY := Lib.hid (HY.out.all hb)
                    replace HB := Lib.hid (HB.out.trans (hb.mono HB.out.size))
                    clear hb
                    obtain ⟨x10, x11, x12, x13, x14, x15, x16, x17, x18, x19⟩ := Bk.c10 HX.out
                    obtain ⟨y10, y11, y12, y13, y14, y15, y16, y17, y18, y19⟩ := Bk.c10 HY.out
                    go_wp2_with fail
                    refine (InEq.same_ents _ r2 s2 n.dflt m.dflt hn3 hm3 (Ae.holds_below H2.out HB.out) (Ae.holds_below K2.out HB.out)).mono ?_
                    rintro e w3 ⟨rfl, hb⟩
                    have HV := Lib.hid (show sameB n m = decide (n.dflt = m.dflt) by rw [HS.out, HBL.out, HA.out]; simp)
                    generalize decide (n.dflt = m.dflt) = D at HV ⊢
                    replace HX := Lib.hid (HX.out.all hb)
                    replace HY := Lib.hid (HY.out.all hb)
                    replace HB := Lib.hid (HB.out.trans (hb.mono HB.out.size))
                    clear hb
                    obtain ⟨x20, x21, x22, x23, x24, x25, x26, x27, x28, x29⟩ := Bk.c10 HX.out
                    obtain ⟨y20, y21, y22, y23, y24, y25, y26, y27, y28, y29⟩ := Bk.c10 HY.out
                    go_wp2
                    go_ret
                    exact ⟨ret_bool HV.out.symm, HB.out⟩
                  · have HA := Lib.hid (show decide (n.acl = m.acl) = false from decide_eq_false ha)
                    clear ha
                    go_enter Tryd.func40, Tryd.ntmps40
                    go_wp2_with fail
                    refine (InEq.same_ints _ r0 s0 n.blocks m.blocks hn1 hm1 (Ni.holds_below H0.out.old HB.out) (Ni.holds_below K0.out.old HB.out)).mono ?_
                    rintro e w1 ⟨rfl, hb⟩
                    rw [HBL.out]
                    replace HX := Lib.hid (HX.out.all hb)
                    replace HY := Lib.hid (HY.out.all hb)
                    replace HB := Lib.hid (HB.out.trans (hb.mono HB.out.size))
                    clear hb
                    obtain ⟨x00, x01, x02, x03, x04, x05, x06, x07, x08, x09⟩ := Bk.c10 HX.out
                    obtain ⟨y00, y01, y02, y03, y04, y05, y06, y07, y08, y09⟩ := Bk.c10 HY.out
                    go_wp2_with fail
                    refine (InEq.same_ents _ r1 s1 n.acl m.acl hn2 hm2 (Ae.holds_below H1.out HB.out) (Ae.holds_below K1.out HB.out)).mono ?_
                    rintro e w2 ⟨rfl, hb⟩
                    rw [HA.out]
                    replace HX := Lib.hid (HX.out.all hb)
                    replace HY := Lib.hid (HY.out.all hb)
                    replace HB := Lib.hid (HB.out.trans (hb.mono HB.out.size))
                    clear hb
                    obtain ⟨x10, x11, x12, x13, x14, x15, x16, x17, x18, x19⟩ := Bk.c10 HX.out
                    obtain ⟨y10, y11, y12, y13, y14, y15, y16, y17, y18, y19⟩ := Bk.c10 HY.out
                    have HV := Lib.hid (show sameB n m = false by rw [HS.out, HBL.out, HA.out]; simp)
                    go_wp2
                    go_ret
                    exact ⟨ret_bool HV.out.symm, HB.out⟩
                · have HBL := Lib.hid (show decide (n.blocks = m.blocks) = false from decide_eq_false hbl)
                  have HV := Lib.hid (show sameB n m = false by rw [HS.out, HBL.out]; simp)
                  clear hbl
                  go_enter Tryd.func40, Tryd.ntmps40
                  go_wp2_with fail
                  refine (InEq.same_ints _ r0 s0 n.blocks m.blocks hn1 hm1 (Ni.holds_below H0.out.old HB.out) (Ni.holds_below K0.out.old HB.out)).mono ?_
                  rintro e w1 ⟨rfl, hb⟩
                  rw [HBL.out]
                  replace HX := Lib.hid (HX.out.all hb)
                  replace HY := Lib.hid (HY.out.all hb)
                  replace HB := Lib.hid (HB.out.trans (hb.mono HB.out.size))
                  clear hb
                  obtain ⟨x00, x01, x02, x03, x04, x05, x06, x07, x08, x09⟩ := Bk.c10 HX.out
                  obtain ⟨y00, y01, y02, y03, y04, y05, y06, y07, y08, y09⟩ := Bk.c10 HY.out
                  go_wp2
                  go_ret
                  exact ⟨ret_bool HV.out.symm, HB.out⟩
              · have HV := Lib.hid (show sameB n m = false from no_of (fun e => h6 (by rw [e])))
                have ha6 : (n.tick == m.tick) = false := by simpa using h6
                have hb6 : (n.tick != m.tick) = true := by simpa using h6
                clear h0 h1 h2 h3 h4 h5 h6
                go_enter Tryd.func40, Tryd.ntmps40
                go_wp2
                go_ret
                exact ⟨ret_bool HV.out.symm, HB.out⟩
            · have HV := Lib.hid (show sameB n m = false from no_of (fun e => h5 (by rw [e])))
              have ha5 : (n.size == m.size) = false := by simpa using h5
              have hb5 : (n.size != m.size) = true := by simpa using h5
              clear h0 h1 h2 h3 h4 h5
              go_enter Tryd.func40, Tryd.ntmps40
              go_wp2
              go_ret
              exact ⟨ret_bool HV.out.symm, HB.out⟩
          · have HV := Lib.hid (show sameB n m = false from no_of (fun e => h4 (by rw [e])))
            have ha4 : (n.links == m.links) = false := by simpa using h4
            have hb4 : (n.links != m.links) = true := by simpa using h4
            clear h0 h1 h2 h3 h4
            go_enter Tryd.func40, Tryd.ntmps40
            go_wp2
            go_ret
            exact ⟨ret_bool HV.out.symm, HB.out⟩
        · have HV := Lib.hid (show sameB n m = false from no_of (fun e => h3 (by rw [e])))
          have ha3 : (n.gid == m.gid) = false := by simpa using h3
          have hb3 : (n.gid != m.gid) = true := by simpa using h3
          clear h0 h1 h2 h3
          go_enter Tryd.func40, Tryd.ntmps40
          go_wp2
          go_ret
          exact ⟨ret_bool HV.out.symm, HB.out⟩
      · have HV := Lib.hid (show sameB n m = false from no_of (fun e => h2 (by rw [e])))
        have ha2 : (n.uid == m.uid) = false := by simpa using h2
        have hb2 : (n.uid != m.uid) = true := by simpa using h2
        clear h0 h1 h2
        go_enter Tryd.func40, Tryd.ntmps40
        go_wp2
        go_ret
        exact ⟨ret_bool HV.out.symm, HB.out⟩
    · have HV := Lib.hid (show sameB n m = false from no_of (fun e => h1 (by rw [e])))
      have ha1 : (n.mode == m.mode) = false := by simpa using h1
      have hb1 : (n.mode != m.mode) = true := by simpa using h1
      clear h0 h1
      go_enter Tryd.func40, Tryd.ntmps40
      go_wp2
      go_ret
      exact ⟨ret_bool HV.out.symm, HB.out⟩
  · have HV := Lib.hid (show sameB n m = false from no_of (fun e => h0 (by rw [e])))
    have ha0 : (n.kind == m.kind) = false := by simpa using h0
    have hb0 : (n.kind != m.kind) = true := by simpa using h0
    clear h0
    go_enter Tryd.func40, Tryd.ntmps40
    go_wp2
    go_ret
    exact ⟨ret_bool HV.out.symm, HB.out⟩
end Go.Proofs.YthobdeidjagnhaaDoor.InSp

-- YthobdeidjagnhaaDoorInP
/- An inode's bytes, piece by piece. Plain facts; conditions: as each theorem types them. -/
namespace Go.Proofs.YthobdeidjagnhaaDoor.InP
open Go
open InoV
open InSm (nums fbV)
open InOk (gr)
open AclV (okB packV packL packL_len ok_len pack_size)
open Nums (putB fitsB lowL lowL_length)
open PadTo (padB padB_at zend)
set_option linter.unusedVariables false

def wd : List Int := [1, 2, 1, 1, 2, 2, 4]
theorem put_is {x : Int} (k : Nat) (h0 : 0 ≤ x) (h : x < 256 ^ k) (h1 : 1 ≤ k) (h6 : k ≤ 6) : putB x k = ⟨(lowL x.toNat k).toArray⟩ := by
  have hf : fitsB x k = true := by
    simp only [fitsB, Bool.and_eq_true, decide_eq_true_eq]
    exact ⟨⟨⟨by omega, by omega⟩, h0⟩, h⟩
  rw [putB, if_pos hf]; rfl
theorem put_size {x : Int} (k : Nat) (h0 : 0 ≤ x) (h : x < 256 ^ k) (h1 : 1 ≤ k) (h6 : k ≤ 6) : (putB x k).size = k := by
  rw [put_is k h0 h h1 h6]
  show (lowL x.toNat k).toArray.size = k
  rw [List.size_toArray, lowL_length]
theorem pu1 {x : Int} (h0 : 0 ≤ x) (h : x < 256) : putB x 1 = ⟨(lowL x.toNat 1).toArray⟩ := put_is 1 h0 h (by omega) (by omega)
theorem pu2 {x : Int} (h0 : 0 ≤ x) (h : x < 65536) : putB x 2 = ⟨(lowL x.toNat 2).toArray⟩ := put_is 2 h0 h (by omega) (by omega)
theorem pu4 {x : Int} (h0 : 0 ≤ x) (h : x < 4294967296) : putB x 4 = ⟨(lowL x.toNat 4).toArray⟩ := put_is 4 h0 h (by omega) (by omega)
theorem ps1 {x : Int} (h0 : 0 ≤ x) (h : x < 256) : (putB x 1).size = 1 := put_size 1 h0 h (by omega) (by omega)
theorem ps2 {x : Int} (h0 : 0 ≤ x) (h : x < 65536) : (putB x 2).size = 2 := put_size 2 h0 h (by omega) (by omega)
theorem ps4 {x : Int} (h0 : 0 ≤ x) (h : x < 4294967296) : (putB x 4).size = 4 := put_size 4 h0 h (by omega) (by omega)
/-- The bytes with i blocks laid. -/
def accN (n : I) (i : Nat) : ByteArray := ⟨(headL n ++ blkL n.blocks i).toArray⟩
theorem accN_size (n : I) (i : Nat) : (accN n i).size = 13 + 2 * i := by
  show (headL n ++ blkL n.blocks i).toArray.size = _
  rw [List.size_toArray, List.length_append, headL_length, blkL_length]
/-- The block that is stored at place i. -/
def blkN (n : I) (i : Nat) : Int := n.blocks.getD i (-1)
theorem blkN_in {n : I} (h : okI n = true) {i : Nat} (hi : i < n.blocks.length) : blkN n i = n.blocks.getD i 0 := getD_one hi (-1) 0
theorem blkN_out {n : I} {i : Nat} (hi : n.blocks.length ≤ i) : blkN n i = -1 := by
  unfold blkN
  rw [List.getD_eq_getElem?_getD, List.getElem?_eq_none hi]; rfl
theorem blkN_range {n : I} (h : okI n = true) (i : Nat) : -1 ≤ blkN n i ∧ blkN n i ≤ 999 := by
  by_cases hi : i < n.blocks.length
  · rw [blkN_in h hi]
    exact blks_at (ok_blocks h).1 hi
  · rw [blkN_out (by omega)]; omega
theorem accN_next {n : I} (h : okI n = true) (i : Nat) : accN n i ++ putB (blkN n i + 1) 2 = accN n (i + 1) := by
  have hr := blkN_range h i
  rw [pu2 (by omega) (by omega)]
  apply ext
  simp only [accN, ByteArray.data_append, Array.toList_append, List.toList_toArray, blkL_succ, List.append_assoc]
  rfl
theorem accN_zero {n : I} (h : okI n = true) : putB n.kind 1 ++ putB n.mode 2 ++ putB n.uid 1 ++ putB n.gid 1 ++ putB n.links 2 ++ putB n.size 2 ++ putB n.tick 4 = accN n 0 := by
  have f := ok_nums h
  rw [pu1 f.1 (by omega), pu2 f.2.2.1 (by omega), pu1 f.2.2.2.2.1 (by omega), pu1 f.2.2.2.2.2.2.1 (by omega),
    pu2 f.2.2.2.2.2.2.2.2.1 (by omega), pu2 f.2.2.2.2.2.2.2.2.2.2.1 (by omega), pu4 f.2.2.2.2.2.2.2.2.2.2.2.2.1 (by omega)]
  apply ext
  simp only [accN, ByteArray.data_append, Array.toList_append, List.toList_toArray, headL]
  simp [blkL]
theorem fin_size {n : I} (h : okI n = true) : (accN n 8 ++ packV n.acl ++ packV n.dflt).size = 67 := by
  have ha := ok_acls h
  rw [ByteArray.size_append, ByteArray.size_append, accN_size, pack_size ha.1, pack_size ha.2]
theorem fin_pack {n : I} (h : okI n = true) : padB (accN n 8 ++ packV n.acl ++ packV n.dflt) 96 = packI n := by
  have ha := ok_acls h
  rw [padB_at _ _ 29 (by omega) (by rw [fin_size h]; rfl), packI, if_pos h]
  congr 2
  have e1 : packV n.acl = ⟨(packL n.acl).toArray⟩ := by rw [packV, if_pos ha.1]
  have e2 : packV n.dflt = ⟨(packL n.dflt).toArray⟩ := by rw [packV, if_pos ha.2]
  rw [e1, e2]
  simp only [zend, accN, inoL, ByteArray.data_append, Array.toList_append, List.toList_toArray, List.append_assoc]
theorem fbV_in {n : I} (h : okI n = true) (i : Nat) : fbV n.blocks i = blkN n i + 1 := by
  have hr := blkN_range h i
  unfold fbV
  by_cases hi : i < n.blocks.length
  · rw [if_pos hi, ← blkN_in h hi, IntKind.wrap_i64]; omega
  · rw [if_neg hi, blkN_out (by omega)]; rfl
/-! The fields, as the program lays them. -/
def fldA (n : I) (k : Nat) : List ByteArray := (List.range k).map fun j => putB ((nums n).getD j 0) (wd.getD j 0)
def fldB (n : I) (k : Nat) : List ByteArray := fldA n 7 ++ (List.range k).map fun j => putB (fbV n.blocks j) 2
theorem fldA_succ (n : I) (k : Nat) : fldA n (k + 1) = fldA n k ++ [putB ((nums n).getD k 0) (wd.getD k 0)] := by simp [fldA, List.range_succ]
theorem fldB_succ (n : I) (k : Nat) : fldB n (k + 1) = fldB n k ++ [putB (fbV n.blocks k) 2] := by simp [fldB, List.range_succ]
theorem fldB_zero (n : I) : fldB n 0 = fldA n 7 := by simp [fldB]
theorem fldA_length (n : I) (k : Nat) : (fldA n k).length = k := by simp [fldA]
theorem fldB_length (n : I) (k : Nat) : (fldB n k).length = 7 + k := by simp [fldB, fldA_length]
theorem join_two (xs : List ByteArray) (a b : ByteArray) : Join.joined (xs ++ [a, b]) ⟨#[]⟩ (xs ++ [a, b]).length = Join.joined xs ⟨#[]⟩ xs.length ++ a ++ b := by
  rw [show xs ++ [a, b] = (xs ++ [a]) ++ [b] by simp, AclK.join_app, AclK.join_app]
theorem emp (a : ByteArray) : (⟨#[]⟩ : ByteArray) ++ a = a := by apply ext; simp
theorem joinA {n : I} (h : okI n = true) : Join.joined (fldA n 7) ⟨#[]⟩ (fldA n 7).length = accN n 0 := by
  rw [← accN_zero h]
  have e : ∀ k, Join.joined (fldA n (k + 1)) ⟨#[]⟩ (fldA n (k + 1)).length = Join.joined (fldA n k) ⟨#[]⟩ (fldA n k).length ++ putB ((nums n).getD k 0) (wd.getD k 0) := fun k => by
    rw [fldA_succ, AclK.join_app]
  rw [e 6, e 5, e 4, e 3, e 2, e 1, e 0]
  show (⟨#[]⟩ : ByteArray) ++ _ ++ _ ++ _ ++ _ ++ _ ++ _ ++ _ = _
  rw [emp]
  rfl
theorem joinB {n : I} (h : okI n = true) (k : Nat) : Join.joined (fldB n k) ⟨#[]⟩ (fldB n k).length = accN n k := by
  induction k with
  | zero => rw [fldB_zero, joinA h]
  | succ k ih => rw [fldB_succ, AclK.join_app, ih, fbV_in h, accN_next h]
theorem joinC {n : I} (h : okI n = true) : Join.joined (fldB n 8 ++ [packV n.acl, packV n.dflt]) ⟨#[]⟩ (fldB n 8 ++ [packV n.acl, packV n.dflt]).length = accN n 8 ++ packV n.acl ++ packV n.dflt := by
  rw [join_two, joinB h]
theorem total_one (x : ByteArray) : Strs.total [x] = x.size := by simp [Strs.total]
theorem totB {n : I} (h : okI n = true) (k : Nat) (hk : k ≤ 8) : Strs.total (fldB n k) ≤ 13 + 2 * k := by
  have f := ok_nums h
  have hA : Strs.total (fldA n 7) = 13 := by
    have e : ∀ k, Strs.total (fldA n (k + 1)) = Strs.total (fldA n k) + (putB ((nums n).getD k 0) (wd.getD k 0)).size := fun k => by rw [fldA_succ, AclK.total_append, total_one]
    rw [e 6, e 5, e 4, e 3, e 2, e 1, e 0]
    have p0 : (putB ((nums n).getD 0 0) (wd.getD 0 0)).size = 1 := put_size 1 f.1 (by show n.kind < _; omega) (by omega) (by omega)
    have p1 : (putB ((nums n).getD 1 0) (wd.getD 1 0)).size = 2 := put_size 2 f.2.2.1 (by show n.mode < _; omega) (by omega) (by omega)
    have p2 : (putB ((nums n).getD 2 0) (wd.getD 2 0)).size = 1 := put_size 1 f.2.2.2.2.1 (by show n.uid < _; omega) (by omega) (by omega)
    have p3 : (putB ((nums n).getD 3 0) (wd.getD 3 0)).size = 1 := put_size 1 f.2.2.2.2.2.2.1 (by show n.gid < _; omega) (by omega) (by omega)
    have p4 : (putB ((nums n).getD 4 0) (wd.getD 4 0)).size = 2 := put_size 2 f.2.2.2.2.2.2.2.2.1 (by show n.links < _; omega) (by omega) (by omega)
    have p5 : (putB ((nums n).getD 5 0) (wd.getD 5 0)).size = 2 := put_size 2 f.2.2.2.2.2.2.2.2.2.2.1 (by show n.size < _; omega) (by omega) (by omega)
    have p6 : (putB ((nums n).getD 6 0) (wd.getD 6 0)).size = 4 := put_size 4 f.2.2.2.2.2.2.2.2.2.2.2.2.1 (by show n.tick < _; omega) (by omega) (by omega)
    rw [p0, p1, p2, p3, p4, p5, p6]
    rfl
  induction k with
  | zero => rw [fldB_zero, hA]; omega
  | succ k ih =>
    have hr := blkN_range h k
    rw [fldB_succ, AclK.total_append, total_one, fbV_in h, ps2 (by omega) (by omega)]
    have := ih (by omega)
    omega
end Go.Proofs.YthobdeidjagnhaaDoor.InP

-- YthobdeidjagnhaaDoorInPi
/- Contract: the program's PackInode, for every inode. Conditions: as the theorem types them; the table of the fields reads as it is laid. -/
namespace Go.Proofs.YthobdeidjagnhaaDoor.InPi
open Go.ChangeShapes Go.WideShapes Go.ChangeAt Go.RowKit
open Foot Bx
open InoV (I okI packI)
open InSm (nums fbV fbL arr)
open InP
open InOk (Vars)
open AclV (packV)
open Strs (ret_str)
set_option linter.unusedVariables false

theorem own_nilS (w : World) (base : Nat) (e : TypeId) : w.ownsRow base e 1 (.slice none 0 0) 0 (([] : List ByteArray).map Value.string) := ⟨rfl, .inl ⟨rfl, rfl⟩⟩
theorem ixn0 (x0 x1 x2 x3 x4 x5 x6 : Int) (w : World) : (Instr.index 48 (.agg #[.int .i64 x0, .int .i64 x1, .int .i64 x2, .int .i64 x3, .int .i64 x4, .int .i64 x5, .int .i64 x6]) (.int .i64 0)).run Tryd.prog w = .ok (.int .i64 x0) w := by kernel_rfl
theorem ixn1 (x0 x1 x2 x3 x4 x5 x6 : Int) (w : World) : (Instr.index 48 (.agg #[.int .i64 x0, .int .i64 x1, .int .i64 x2, .int .i64 x3, .int .i64 x4, .int .i64 x5, .int .i64 x6]) (.int .i64 1)).run Tryd.prog w = .ok (.int .i64 x1) w := by kernel_rfl
theorem ixn2 (x0 x1 x2 x3 x4 x5 x6 : Int) (w : World) : (Instr.index 48 (.agg #[.int .i64 x0, .int .i64 x1, .int .i64 x2, .int .i64 x3, .int .i64 x4, .int .i64 x5, .int .i64 x6]) (.int .i64 2)).run Tryd.prog w = .ok (.int .i64 x2) w := by kernel_rfl
theorem ixn3 (x0 x1 x2 x3 x4 x5 x6 : Int) (w : World) : (Instr.index 48 (.agg #[.int .i64 x0, .int .i64 x1, .int .i64 x2, .int .i64 x3, .int .i64 x4, .int .i64 x5, .int .i64 x6]) (.int .i64 3)).run Tryd.prog w = .ok (.int .i64 x3) w := by kernel_rfl
theorem ixn4 (x0 x1 x2 x3 x4 x5 x6 : Int) (w : World) : (Instr.index 48 (.agg #[.int .i64 x0, .int .i64 x1, .int .i64 x2, .int .i64 x3, .int .i64 x4, .int .i64 x5, .int .i64 x6]) (.int .i64 4)).run Tryd.prog w = .ok (.int .i64 x4) w := by kernel_rfl
theorem ixn5 (x0 x1 x2 x3 x4 x5 x6 : Int) (w : World) : (Instr.index 48 (.agg #[.int .i64 x0, .int .i64 x1, .int .i64 x2, .int .i64 x3, .int .i64 x4, .int .i64 x5, .int .i64 x6]) (.int .i64 5)).run Tryd.prog w = .ok (.int .i64 x5) w := by kernel_rfl
theorem ixn6 (x0 x1 x2 x3 x4 x5 x6 : Int) (w : World) : (Instr.index 48 (.agg #[.int .i64 x0, .int .i64 x1, .int .i64 x2, .int .i64 x3, .int .i64 x4, .int .i64 x5, .int .i64 x6]) (.int .i64 6)).run Tryd.prog w = .ok (.int .i64 x6) w := by kernel_rfl
theorem ixb0 (x0 x1 x2 x3 x4 x5 x6 x7 : Int) (w : World) : (Instr.index 52 (.agg #[.int .i64 x0, .int .i64 x1, .int .i64 x2, .int .i64 x3, .int .i64 x4, .int .i64 x5, .int .i64 x6, .int .i64 x7]) (.int .i64 0)).run Tryd.prog w = .ok (.int .i64 x0) w := by kernel_rfl
theorem ixb1 (x0 x1 x2 x3 x4 x5 x6 x7 : Int) (w : World) : (Instr.index 52 (.agg #[.int .i64 x0, .int .i64 x1, .int .i64 x2, .int .i64 x3, .int .i64 x4, .int .i64 x5, .int .i64 x6, .int .i64 x7]) (.int .i64 1)).run Tryd.prog w = .ok (.int .i64 x1) w := by kernel_rfl
theorem ixb2 (x0 x1 x2 x3 x4 x5 x6 x7 : Int) (w : World) : (Instr.index 52 (.agg #[.int .i64 x0, .int .i64 x1, .int .i64 x2, .int .i64 x3, .int .i64 x4, .int .i64 x5, .int .i64 x6, .int .i64 x7]) (.int .i64 2)).run Tryd.prog w = .ok (.int .i64 x2) w := by kernel_rfl
theorem ixb3 (x0 x1 x2 x3 x4 x5 x6 x7 : Int) (w : World) : (Instr.index 52 (.agg #[.int .i64 x0, .int .i64 x1, .int .i64 x2, .int .i64 x3, .int .i64 x4, .int .i64 x5, .int .i64 x6, .int .i64 x7]) (.int .i64 3)).run Tryd.prog w = .ok (.int .i64 x3) w := by kernel_rfl
theorem ixb4 (x0 x1 x2 x3 x4 x5 x6 x7 : Int) (w : World) : (Instr.index 52 (.agg #[.int .i64 x0, .int .i64 x1, .int .i64 x2, .int .i64 x3, .int .i64 x4, .int .i64 x5, .int .i64 x6, .int .i64 x7]) (.int .i64 4)).run Tryd.prog w = .ok (.int .i64 x4) w := by kernel_rfl
theorem ixb5 (x0 x1 x2 x3 x4 x5 x6 x7 : Int) (w : World) : (Instr.index 52 (.agg #[.int .i64 x0, .int .i64 x1, .int .i64 x2, .int .i64 x3, .int .i64 x4, .int .i64 x5, .int .i64 x6, .int .i64 x7]) (.int .i64 5)).run Tryd.prog w = .ok (.int .i64 x5) w := by kernel_rfl
theorem ixb6 (x0 x1 x2 x3 x4 x5 x6 x7 : Int) (w : World) : (Instr.index 52 (.agg #[.int .i64 x0, .int .i64 x1, .int .i64 x2, .int .i64 x3, .int .i64 x4, .int .i64 x5, .int .i64 x6, .int .i64 x7]) (.int .i64 6)).run Tryd.prog w = .ok (.int .i64 x6) w := by kernel_rfl
theorem ixb7 (x0 x1 x2 x3 x4 x5 x6 x7 : Int) (w : World) : (Instr.index 52 (.agg #[.int .i64 x0, .int .i64 x1, .int .i64 x2, .int .i64 x3, .int .i64 x4, .int .i64 x5, .int .i64 x6, .int .i64 x7]) (.int .i64 7)).run Tryd.prog w = .ok (.int .i64 x7) w := by kernel_rfl
theorem index_nums (n : I) (k : Nat) (h : k < 7) (w : World) : (Instr.index 48 (.agg #[.int .i64 n.kind, .int .i64 n.mode, .int .i64 n.uid, .int .i64 n.gid, .int .i64 n.links, .int .i64 n.size, .int .i64 n.tick]) (.int .i64 (k : Int))).run Tryd.prog w = .ok (.int .i64 ((nums n).getD k 0)) w := by
  rcases (show k = 0 ∨ k = 1 ∨ k = 2 ∨ k = 3 ∨ k = 4 ∨ k = 5 ∨ k = 6 from by omega) with rfl | rfl | rfl | rfl | rfl | rfl | rfl
  · exact ixn0 _ _ _ _ _ _ _ w
  · exact ixn1 _ _ _ _ _ _ _ w
  · exact ixn2 _ _ _ _ _ _ _ w
  · exact ixn3 _ _ _ _ _ _ _ w
  · exact ixn4 _ _ _ _ _ _ _ w
  · exact ixn5 _ _ _ _ _ _ _ w
  · exact ixn6 _ _ _ _ _ _ _ w
theorem index_blocks (l : List Int) (k : Nat) (h : k < 8) (w : World) : (Instr.index 52 (arr (fbL l)) (.int .i64 (k : Int))).run Tryd.prog w = .ok (.int .i64 (fbV l k)) w := by
  have e : arr (fbL l) = .agg #[.int .i64 (fbV l 0), .int .i64 (fbV l 1), .int .i64 (fbV l 2), .int .i64 (fbV l 3), .int .i64 (fbV l 4), .int .i64 (fbV l 5), .int .i64 (fbV l 6), .int .i64 (fbV l 7)] := rfl
  rw [e]
  rcases (show k = 0 ∨ k = 1 ∨ k = 2 ∨ k = 3 ∨ k = 4 ∨ k = 5 ∨ k = 6 ∨ k = 7 from by omega) with rfl | rfl | rfl | rfl | rfl | rfl | rfl | rfl
  · exact ixb0 _ _ _ _ _ _ _ _ w
  · exact ixb1 _ _ _ _ _ _ _ _ w
  · exact ixb2 _ _ _ _ _ _ _ _ w
  · exact ixb3 _ _ _ _ _ _ _ _ w
  · exact ixb4 _ _ _ _ _ _ _ _ w
  · exact ixb5 _ _ _ _ _ _ _ _ w
  · exact ixb6 _ _ _ _ _ _ _ _ w
  · exact ixb7 _ _ _ _ _ _ _ _ w
theorem wid_cell {w : World} (h : Vars w) (k : Nat) (hk : k < 7) : w.cell? ⟨0, k * 2, none⟩ = some (.int .i64 (wd.getD k 0)) := by
  rw [h.cell (k * 2) (by omega)]
  rcases (show k = 0 ∨ k = 1 ∨ k = 2 ∨ k = 3 ∨ k = 4 ∨ k = 5 ∨ k = 6 from by omega) with rfl | rfl | rfl | rfl | rfl | rfl | rfl
  all_goals rfl
theorem num_range {n : I} (h : okI n = true) (k : Nat) : -9223372036854775808 ≤ (nums n).getD k 0 ∧ (nums n).getD k 0 ≤ 9223372036854775807 := by
  have f := InoV.ok_nums h
  by_cases hk : k < 7
  · rcases (show k = 0 ∨ k = 1 ∨ k = 2 ∨ k = 3 ∨ k = 4 ∨ k = 5 ∨ k = 6 from by omega) with rfl | rfl | rfl | rfl | rfl | rfl | rfl
    all_goals simp only [nums, List.getD_cons_zero, List.getD_cons_succ]; omega
  · rw [List.getD_eq_getElem?_getD, List.getElem?_eq_none (by simp [nums]; omega)]; decide
theorem cells2_new (w : World) (x y : Value) (T : TypeId) : ∀ j u, [x, y][j]? = some u → (w.alloc (.cells #[x, y] T)).cell? ((⟨w.heap.size, 0, none⟩ : Addr).add j) = some u := by
  intro j u hj
  rw [Addr.add_lit, Nat.zero_add, World.cell?_alloc_at _ _ _ _ rfl]
  simpa using hj

set_option maxRecDepth 100000 in
set_option maxHeartbeats 6400000 in
theorem pack_any (w : World) (v : Value) (n : I) (hc : In.cost n ≤ 1073741824) (hx : ∀ x ∈ n.blocks, Rg x) (hv : InOk.Vars w) (h : In.Holds w v n) :
    Calls Tryd.prog 9 #[v] w fun e w' => e = .returned (.string (packI n)) ∧ Below w.heap.size w w' := by
  have hn1 : n.blocks.length ≤ 1073741824 := Nat.le_trans (In.le_blocks n) hc
  have hn2 : n.acl.length ≤ 1073741824 := Nat.le_trans (In.le_acl n) hc
  have hn3 : n.dflt.length ≤ 1073741824 := Nat.le_trans (In.le_dflt n) hc
  have HIS := Lib.hid (fun W (hb : Below w.heap.size w W) => InOk.is_any W v n hc hx (hv.all hb) (In.holds_below h hb))
  obtain ⟨r0, r1, r2, rfl, g0, g1, g2⟩ := h
  obtain ⟨a, c, rfl⟩ := NiF.form g0
  have H0 := Lib.hid g0
  have H1 := Lib.hid g1
  have H2 := Lib.hid g2
  have HC := Lib.hid (show ∀ i, i < n.blocks.length → ∃ b o, a = some ⟨b, o, none⟩ ∧ b < w.heap.size ∧ w.cell? ⟨b, o + i, none⟩ = some (.int .i64 (n.blocks.getD i 0)) from by
    obtain ⟨a', c', e, hle, hc⟩ := g0
    rw [Value.slice.injEq] at e
    obtain ⟨rfl, _, rfl⟩ := e
    exact hc)
  clear g0 g1 g2
  have HVA := Lib.hid hv
  obtain ⟨i0, hi, hz0, hz1, hz2⟩ := info_parts Strs.strInfo
  have HF0 := Lib.hid hi
  have HF1 := Lib.hid hz0
  have HF2 := Lib.hid hz1
  have HF3 := Lib.hid hz2
  clear hi hz0 hz1 hz2 hv hx
  obtain ⟨L, hL⟩ : ∃ L, L = n.blocks.length := ⟨_, rfl⟩
  rw [← hL] at hn1 HIS H0 ⊢
  have HL := Lib.hid hL
  clear hL
  have HB := Lib.hid ((Below.refl w.heap.size w).alloc (Nat.le_refl _) (.cells #[.int .i64 n.kind, .int .i64 n.mode, .int .i64 n.uid, .int .i64 n.gid, .int .i64 n.links, .int .i64 n.size, .int .i64 n.tick, .slice a L c, r1, r2] 26))
  have HX := Lib.hid (new w #[.int .i64 n.kind, .int .i64 n.mode, .int .i64 n.uid, .int .i64 n.gid, .int .i64 n.links, .int .i64 n.size, .int .i64 n.tick, .slice a L c, r1, r2] 26)
  cases hok : okI n
  · have HV := Lib.hid (InoV.packI_no hok)
    have HIN := Lib.hid (HIS.out _ HB.out)
    have HE := Lib.hid hok
    clear hok
    go_enter Tryd.func9, Tryd.ntmps9
    go_wp2_with fail
    refine HIN.out.mono ?_
    rintro e w1 ⟨rfl, hb⟩
    rw [HE.out]
    replace HB := Lib.hid (HB.out.trans (hb.mono HB.out.size))
    clear hb
    go_wp2
    go_ret
    exact ⟨ret_str HV.out.symm, HB.out⟩
  have HIN := Lib.hid (HIS.out _ HB.out)
  have HE := Lib.hid hok
  have f := InoV.ok_nums hok
  have hb8 := (InoV.ok_blocks hok).2
  have hacl := InoV.ok_acls hok
  have HPA := Lib.hid (AclV.pack_size hacl.1)
  have HPD2 := Lib.hid (AclV.pack_size hacl.2)
  have HFIN := Lib.hid (fin_pack hok)
  have HFS := Lib.hid (fin_size hok)
  have HJC := Lib.hid (joinC hok)
  have HTB := Lib.hid (totB hok 8 (Nat.le_refl _))
  have HNR := Lib.hid (num_range hok)
  have HFV := Lib.hid (fun i => fbV_in hok i)
  have HBR := Lib.hid (blkN_range hok)
  have HAS := Lib.hid (fldA_succ n)
  have HBS := Lib.hid (fldB_succ n)
  have HBZ := Lib.hid (fldB_zero n)
  have HIXN := Lib.hid (index_nums n)
  have HIXB := Lib.hid (index_blocks n.blocks)
  have HFB := Lib.hid (fun W (hb : Below w.heap.size w W) => InSm.first_any W (.slice a L c) n.blocks (by rw [← HL.out]; exact hn1) (NiF.holds_below H0.out hb))
  clear hok hacl f hb8
  go_enter Tryd.func9, Tryd.ntmps9
  go_wp2_with fail
  refine HIN.out.mono ?_
  rintro e w1 ⟨rfl, hb⟩
  rw [HE.out]
  replace HX := Lib.hid (HX.out.all hb)
  replace HB := Lib.hid (HB.out.trans (hb.mono HB.out.size))
  clear hb
  obtain ⟨x0, x1, x2, x3, x4, x5, x6, x7, x8, x9⟩ := Bk.c10 HX.out
  go_wp2_with fail
  refine (InSm.numbers_any _ n _ r1 r2).mono ?_
  rintro e w2 ⟨rfl, hb⟩
  replace HX := Lib.hid (HX.out.all hb)
  replace HB := Lib.hid (HB.out.trans (hb.mono HB.out.size))
  clear hb x0 x1 x2 x3 x4 x5 x6 x7 x8 x9
  have hw2 : w.heap.size < w2.heap.size := HX.out.lt
  obtain ⟨B, hB⟩ : ∃ B, B = w.heap.size + 1 := ⟨_, rfl⟩
  have hB1 : w.heap.size < B := by omega
  have hB2 : B ≤ w2.heap.size := by omega
  clear hB
  go_wp2
  go_loopw [3, 13] (fun sv iv wr => ∃ k : Nat, k ≤ 7 ∧ iv = .int .i64 k ∧ wr.ownsRow B 9 1 sv k ((fldA n k).map Value.string) ∧ Bk wr w.heap.size #[.int .i64 n.kind, .int .i64 n.mode, .int .i64 n.uid, .int .i64 n.gid, .int .i64 n.links, .int .i64 n.size, .int .i64 n.tick, .slice a L c, r1, r2] 26 ∧ B ≤ wr.heap.size ∧ Below w.heap.size w wr) (fun _ iv _ => 7 - (intOf iv).toNat)
  case atStart => exact ⟨0, Nat.zero_le _, rfl, own_nilS _ _ _, HX.out, hB2, HB.out⟩
  case round =>
    obtain ⟨k, hk, rfl, hown, hx, hsB, hbel⟩ := hrel
    replace HB := Lib.hid hbel
    replace HX := Lib.hid hx
    have HOWN := Lib.hid hown
    have hsz := hbel.size
    clear hx hbel hown
    by_cases hlt : k < 7
    · have hixn := HIXN.out k hlt
      have hk7 : (k : Int) < 7 := by omega
      have hvc := wid_cell (HVA.out.all HB.out) k hlt
      have hnr := HNR.out k
      have HNX := Lib.hid (HAS.out k)
      generalize (nums n).getD k 0 = x at hixn hnr HNX
      generalize wd.getD k 0 = y at hvc HNX
      go_wp2_with fail
      refine (PutNumber.impl_any x y _ hnr.1 hnr.2).mono ?_
      rintro e w5 ⟨rfl, hb5⟩
      have hs5 := hb5.size
      generalize Nums.putB x y = P at HNX ⊢
      replace HX := Lib.hid (HX.out.all hb5)
      replace HB := Lib.hid (HB.out.trans (hb5.mono HB.out.size))
      replace HOWN := Lib.hid (Strs.own_below HOWN.out hb5)
      clear hb5 hvc hixn hnr
      go_wp2_with (first | (at_builtin; refine wpList_append_own _ rfl _ _ 57 rfl B 9 i0 (.string ⟨#[]⟩) 1 16 Tryd.underlying57 HF0.out HF1.out HF2.out HF3.out rfl (by decide) _ _ _ rfl (HOWN.out.alloc _) ⟨w5.heap.size, 0, none⟩ 1 1 [.string P] rfl rfl ?c1 ?c2 ?c3 ?c4 ?c5 ?_))
      case c1 => exact InEq.cells1_new _ _ _
      case c2 => simp [Value.oneCell']
      case c3 => unfold maxLen; omega
      case c4 => omega
      case c5 => simp; omega
      intro v' w6 hown1 hg1 _
      have hs6 := hg1.size
      simp only [World.size_alloc] at hs6
      have HO1 := Lib.hid hown1
      have HX1 := Lib.hid ((HX.out.alloc (.cells #[.string P] 9)).grown hg1 (fun e => by have := (HOWN.out.lt w.heap.size e.symm).1; omega))
      have HB1 := Lib.hid ((HB.out.alloc HB.out.size (.cells #[.string P] 9)).grown hg1 (by have := HB.out.size; simp; omega) (fun k hk => by have := (HOWN.out.lt k hk).1; omega))
      clear hown1 hg1
      go_wp2
      go_roundw
      case rel => exact ⟨k + 1, by omega, by go_num, by rw [HNX.out, List.map_append]; exact HO1.out, HX1.out, by omega, HB1.out⟩
      case measure => simp [intOf]; omega
    · obtain rfl : k = 7 := by omega
      obtain ⟨x0, x1, x2, x3, x4, x5, x6, x7, x8, x9⟩ := Bk.c10 HX.out
      have HFBW := Lib.hid (HFB.out wr HB.out)
      unfold arr at HFBW HIXB
      generalize ((fbL n.blocks).map (Value.int .i64)).toArray = AR at HFBW HIXB
      go_wp2_with fail
      refine HFBW.out.mono ?_
      rintro e w5 ⟨rfl, hb5⟩
      have hs5 := hb5.size
      replace HX := Lib.hid (HX.out.all hb5)
      replace HB := Lib.hid (HB.out.trans (hb5.mono HB.out.size))
      replace HOWN := Lib.hid (Strs.own_below HOWN.out hb5)
      have HOZ := Lib.hid (show w5.ownsRow B 9 1 _ (7 + 0) ((fldB n 0).map Value.string) from by rw [HBZ.out]; exact HOWN.out)
      clear hb5 x0 x1 x2 x3 x4 x5 x6 x7 x8 x9
      go_wp2
      go_loopw [3, 30] (fun sv iv wr => ∃ k : Nat, k ≤ 8 ∧ iv = .int .i64 k ∧ wr.ownsRow B 9 1 sv (7 + k) ((fldB n k).map Value.string) ∧ Bk wr w.heap.size #[.int .i64 n.kind, .int .i64 n.mode, .int .i64 n.uid, .int .i64 n.gid, .int .i64 n.links, .int .i64 n.size, .int .i64 n.tick, .slice a L c, r1, r2] 26 ∧ B ≤ wr.heap.size ∧ Below w.heap.size w wr) (fun _ iv _ => 8 - (intOf iv).toNat)
      case atStart => exact ⟨0, Nat.zero_le _, rfl, HOZ.out, HX.out, by omega, HB.out⟩
      case round =>
        obtain ⟨k, hk, rfl, hown, hx, hsB, hbel⟩ := hrel
        replace HB := Lib.hid hbel
        replace HX := Lib.hid hx
        replace HOWN := Lib.hid hown
        have hsz := hbel.size
        clear hx hbel hown
        by_cases hlt : k < 8
        · have hixb := HIXB.out k hlt
          have hk8 : (k : Int) < 8 := by omega
          have hr := HBR.out k
          have HNX := Lib.hid (HBS.out k)
          rw [HFV.out] at hixb HNX
          generalize blkN n k = x at hixb hr HNX
          go_wp2_with fail
          refine (PutNumber.impl_any (x + 1) 2 _ (by omega) (by omega)).mono ?_
          rintro e w5 ⟨rfl, hb5⟩
          have hs5 := hb5.size
          generalize Nums.putB (x + 1) 2 = P at HNX ⊢
          replace HX := Lib.hid (HX.out.all hb5)
          replace HB := Lib.hid (HB.out.trans (hb5.mono HB.out.size))
          replace HOWN := Lib.hid (Strs.own_below HOWN.out hb5)
          clear hb5 hixb hr
          go_wp2_with (first | (at_builtin; refine wpList_append_own _ rfl _ _ 57 rfl B 9 i0 (.string ⟨#[]⟩) 1 16 Tryd.underlying57 HF0.out HF1.out HF2.out HF3.out rfl (by decide) _ _ _ rfl (HOWN.out.alloc _) ⟨w5.heap.size, 0, none⟩ 1 1 [.string P] rfl rfl ?c1 ?c2 ?c3 ?c4 ?c5 ?_))
          case c1 => exact InEq.cells1_new _ _ _
          case c2 => simp [Value.oneCell']
          case c3 => unfold maxLen; omega
          case c4 => omega
          case c5 => simp; omega
          intro v' w6 hown1 hg1 _
          have hs6 := hg1.size
          simp only [World.size_alloc] at hs6
          have HO1 := Lib.hid hown1
          have HX1 := Lib.hid ((HX.out.alloc (.cells #[.string P] 9)).grown hg1 (fun e => by have := (HOWN.out.lt w.heap.size e.symm).1; omega))
          have HB1 := Lib.hid ((HB.out.alloc HB.out.size (.cells #[.string P] 9)).grown hg1 (by have := HB.out.size; simp; omega) (fun k hk => by have := (HOWN.out.lt k hk).1; omega))
          clear hown1 hg1
          go_wp2
          go_roundw
          case rel => exact ⟨k + 1, by omega, by go_num, by rw [HNX.out, List.map_append]; exact HO1.out, HX1.out, by omega, HB1.out⟩
          case measure => simp [intOf]; omega
        · obtain rfl : k = 8 := by omega
          obtain ⟨g, cap, rfl, hbg⟩ := HexOf.own_form HOWN.out (by omega)
          obtain ⟨x0, x1, x2, x3, x4, x5, x6, x7, x8, x9⟩ := Bk.c10 HX.out
          have HA1 := Lib.hid (fun W (hb : Below w.heap.size w W) => AclK.impl_any W r1 n.acl hn2 (Ae.holds_below H1.out hb))
          have HA2 := Lib.hid (fun W (hb : Below w.heap.size w W) => AclK.impl_any W r2 n.dflt hn3 (Ae.holds_below H2.out hb))
          have HJ2 := HJC
          have HTT := Lib.hid (show (fldB n 8 ++ [packV n.acl, packV n.dflt]).length + Strs.total (fldB n 8 ++ [packV n.acl, packV n.dflt]) ≤ 2097152 from by
            have h1 := HTB.out
            have h2 := HPA.out
            have h3 := HPD2.out
            rw [List.length_append, fldB_length, AclK.total_append]
            simp only [Strs.total, List.map_cons, List.map_nil, List.sum_cons, List.sum_nil, List.length_cons, List.length_nil] at h1 ⊢
            omega)
          have HFS2 := HFS
          generalize packV n.acl = P0 at HA1 HJ2 HFIN HTT HFS2
          generalize packV n.dflt = P1 at HA2 HJ2 HFIN HTT HFS2
          have hgl : some w.heap.size ≠ some g := by
            have := (HOWN.out.lt g rfl).1
            simp; omega
          have HO := HOWN
          have hs9 := HX.out.lt
          have hsa : B ≤ wr.heap.size := hsB
          have TK := Lib.hid trivial
          go_wp2
          go_region_held3 (fun wz => wz.cell? ⟨w.heap.size, 8, none⟩ = some r1 ∧ wz.cell? ⟨w.heap.size, 9, none⟩ = some r2) (first | exact ⟨HX.out.cell 8, HX.out.cell 9⟩ | go_keep)
            (first
              | (go_at_call 32; (try (have _q := TK.out; clear _q TK; replace HB := Lib.hid HB.out.drew; replace HX := Lib.hid (Bx.Bk.drew HX.out); replace HO := Lib.hid (Strs.own_below HO.out (Below.refl _ _).drew))); (first | (with_reducible refine (HA1.out _ HB.out).mono ?_) | (with_reducible refine (HA2.out _ HB.out).mono ?_)); rintro e w3 ⟨rfl, hb⟩; replace HX := Lib.hid (Bx.Bk.all HX.out hb); replace HO := Lib.hid (Strs.own_below HO.out hb); replace HB := Lib.hid (HB.out.trans (hb.mono HB.out.size)); have hs3 := hb.size; (try simp only [World.size_drew] at hs3); clear hb)
              | (refine HexOf.step_append_own rfl _ _ 57 rfl B 9 i0 (.string ⟨#[]⟩) 1 16 Tryd.underlying57 HF0.out HF1.out HF2.out HF3.out rfl (by decide) _ _ _ rfl (World.ownsRow.alloc HO.out _) ⟨w3.heap.size, 0, none⟩ 2 2 [.string P0, .string P1] rfl rfl (cells2_new _ _ _ _) (by simp [Value.oneCell']) (by unfold maxLen; omega) (by omega) (by simp; omega) ?_; intro v' w9 hown1 hg1 _; have HO9 := Lib.hid hown1; have HX9 := Lib.hid ((HX.out.alloc (.cells #[.string P0, .string P1] 9)).grown hg1 hgl); have HB9 := Lib.hid ((HB.out.alloc HB.out.size (.cells #[.string P0, .string P1] 9)).grown hg1 (by have := HB.out.size; simp; omega) (fun k hk => by have := (HO.out.lt k hk).1; omega)); replace HX := HX9; clear hown1 hg1))
          all_goals
            clear x0 x1 x2 x3 x4 x5 x6 x7 x8 x9
            have HOL := Lib.hid (show w9.ownsRow B 9 1 _ (fldB n 8 ++ [P0, P1]).length ((fldB n 8 ++ [P0, P1]).map Value.string) from by
              have h := HO9.out
              rw [List.length_append, fldB_length, List.map_append]; exact h)
            have HH := Lib.hid (Strs.holds_of_own HOL.out)
            have HCAP := Lib.hid (Join.cap_of_own HOL.out)
            go_wp2_with fail
            refine (Join.impl_any _ _ (fldB n 8 ++ [P0, P1]) ⟨#[]⟩ (by decide) HTT.out HH.out HCAP.out).mono ?_
            rw [HJ2.out]
            rintro e wa ⟨rfl, hb⟩
            replace HB := Lib.hid (HB9.out.trans (hb.mono HB9.out.size))
            clear hb
            go_wp2_with fail
            refine (PadTo.impl_any _ 96 _ (by rw [HFS2.out]; omega) (by omega)).mono ?_
            rw [HFIN.out]
            rintro e wb ⟨rfl, hb⟩
            replace HB := Lib.hid (HB.out.trans (hb.mono HB.out.size))
            clear hb
            go_wp2
            go_ret
            exact ⟨rfl, HB.out⟩
end Go.Proofs.YthobdeidjagnhaaDoor.InPi

-- YthobdeidjagnhaaDoorInUp
/- Contracts: what UnpackInode is built of: readNumbers, inode, readBlocks, blocks. Conditions: as each theorem types them; the table of the fields reads as it is laid. -/
namespace Go.Proofs.YthobdeidjagnhaaDoor.InUp
open Go.ChangeShapes Go.WideShapes Go.ChangeAt Go.RowKit
open Foot Bx
open InoV (I num readI unpackI packI okI readB needN)
open InOk (Vars)
open GetNumber (seg)
open Nums (getL)
set_option linter.unusedVariables false

theorem fold_lt : ∀ (l : List UInt8) (a : Nat), l.foldl (fun a b => a * 256 + b.toNat) a < (a + 1) * 256 ^ l.length
  | [], a => by simp
  | x :: l, a => by
    have h := fold_lt l (a * 256 + x.toNat)
    have hx := x.toNat_lt
    rw [List.foldl_cons, List.length_cons, Nat.pow_succ, Nat.mul_comm (256 ^ l.length) 256, ← Nat.mul_assoc]
    exact Nat.lt_of_lt_of_le h (Nat.mul_le_mul_right _ (by omega))
theorem getL_lt (s : ByteArray) (a k : Nat) : getL (seg s a k) < 256 ^ k := by
  have h := fold_lt (seg s a k) 0
  have hl : (seg s a k).length ≤ k := by unfold seg; rw [List.length_take]; omega
  have hp : 256 ^ (seg s a k).length ≤ 256 ^ k := Nat.pow_le_pow_right (by omega) hl
  rw [Nat.zero_add, Nat.one_mul] at h
  exact Nat.lt_of_lt_of_le h hp
theorem num_lt (s : ByteArray) (a k : Nat) (h : a + k ≤ s.size) (hk : k ≤ 4) : 0 ≤ num s a k ∧ num s a k < 4294967296 := by
  have h1 := getL_lt s a k
  have h2 : 256 ^ k ≤ 256 ^ 4 := Nat.pow_le_pow_right (by omega) hk
  unfold num
  omega
theorem num2_lt (s : ByteArray) (a : Nat) (h : a + 2 ≤ s.size) : 0 ≤ num s a 2 ∧ num s a 2 < 65536 := by
  have h1 := getL_lt s a 2
  unfold num
  omega
theorem get_impl (s : ByteArray) (a width : Nat) (w : World) (hs : s.size ≤ 1048576) (h1 : 1 ≤ width) (h2 : width ≤ 6) (h : a + width ≤ s.size) :
    Calls Tryd.prog 64 #[.string s, .int .i64 a, .int .i64 width] w fun e w' => e = .returned (.tuple #[.int .i64 (num s a width), .bool true]) ∧ w = w' := GetNumber.impl_yes s a width w hs h1 h2 h
theorem get_spec (s : ByteArray) (a width : Nat) (w : World) (hs : s.size ≤ 1048576) (h1 : 1 ≤ width) (h2 : width ≤ 6) (h : a + width ≤ s.size) :
    Calls Tryd.prog 54 #[.string s, .int .i64 a, .int .i64 width] w fun e w' => e = .returned (.tuple #[.int .i64 (num s a width), .bool true]) ∧ w = w' := GetNumber.spec_yes s a width w hs h1 h2 h
def numV (s : ByteArray) (j : Nat) : Int := num s (([0, 1, 3, 4, 5, 7, 9] : List Nat).getD j 0) (([1, 2, 1, 1, 2, 2, 4] : List Nat).getD j 0)
/-- The numbers with k of them read. -/
def nbR (s : ByteArray) (k : Nat) : List Value := ((List.range k).map fun j => Value.int .i64 (numV s j)) ++ List.replicate (7 - k) (Value.int .i64 0)

set_option maxRecDepth 100000 in
set_option maxHeartbeats 800000 in
theorem inode_any (w : World) (x0 x1 x2 x3 x4 x5 x6 : Int) :
    Calls Tryd.prog 25 #[.agg #[.int .i64 x0, .int .i64 x1, .int .i64 x2, .int .i64 x3, .int .i64 x4, .int .i64 x5, .int .i64 x6]] w fun e w' => e = .returned (.agg #[.int .i64 x0, .int .i64 x1, .int .i64 x2, .int .i64 x3, .int .i64 x4, .int .i64 x5, .int .i64 x6, .slice none 0 0, .slice none 0 0, .slice none 0 0]) ∧ Below w.heap.size w w' := by
  go_enter Tryd.func25, Tryd.ntmps25
  go_wp2
  refine bodyPost_ret (v := .agg #[.int .i64 x0, .int .i64 x1, .int .i64 x2, .int .i64 x3, .int .i64 x4, .int .i64 x5, .int .i64 x6, .slice none 0 0, .slice none 0 0, .slice none 0 0]) (by simp [results, Tryd.results25, go_sem]) rfl ⟨rfl, ?_⟩
  exact ((Below.refl w.heap.size w).alloc (Nat.le_refl _) _).alloc (by simp) _

theorem off_int (k : Nat) : True := trivial
def offV (k : Nat) : Int := (([0, 1, 3, 4, 5, 7, 9, 13] : List Nat).getD k 0 : Nat)
set_option maxRecDepth 100000 in
set_option maxHeartbeats 3200000 in
theorem numbers_any (s : ByteArray) (w : World) (hs : s.size = 96) (hv : Vars w) :
    Calls Tryd.prog 24 #[.string s] w fun e w' => e = .returned (.agg #[.int .i64 (InoV.num s 0 1), .int .i64 (InoV.num s 1 2), .int .i64 (InoV.num s 3 1), .int .i64 (InoV.num s 4 1), .int .i64 (InoV.num s 5 2), .int .i64 (InoV.num s 7 2), .int .i64 (InoV.num s 9 4)]) ∧ Below w.heap.size w w' := by
  have hg0 := fun W => get_impl s 0 1 W (by omega) (by omega) (by omega) (by omega)
  have hg1 := fun W => get_impl s 1 2 W (by omega) (by omega) (by omega) (by omega)
  have hg2 := fun W => get_impl s 3 1 W (by omega) (by omega) (by omega) (by omega)
  have hg3 := fun W => get_impl s 4 1 W (by omega) (by omega) (by omega) (by omega)
  have hg4 := fun W => get_impl s 5 2 W (by omega) (by omega) (by omega) (by omega)
  have hg5 := fun W => get_impl s 7 2 W (by omega) (by omega) (by omega) (by omega)
  have hg6 := fun W => get_impl s 9 4 W (by omega) (by omega) (by omega) (by omega)
  have HG0 := Lib.hid hg0
  clear hg0
  have HG1 := Lib.hid hg1
  clear hg1
  have HG2 := Lib.hid hg2
  clear hg2
  have HG3 := Lib.hid hg3
  clear hg3
  have HG4 := Lib.hid hg4
  clear hg4
  have HG5 := Lib.hid hg5
  clear hg5
  have HG6 := Lib.hid hg6
  clear hg6
  have HS := Lib.hid hs
  have hb0 := ((Below.refl w.heap.size w).alloc (Nat.le_refl _) (.cells #[.int .i64 0, .int .i64 0, .int .i64 0, .int .i64 0, .int .i64 0, .int .i64 0, .int .i64 0] 48)).alloc (by simp) (.cells #[.int .i64 0, .int .i64 0, .int .i64 0, .int .i64 0, .int .i64 0, .int .i64 0, .int .i64 0] 48)
  have HB := Lib.hid hb0
  have HR := Lib.hid ((new w #[.int .i64 0, .int .i64 0, .int .i64 0, .int .i64 0, .int .i64 0, .int .i64 0, .int .i64 0] 48).alloc (.cells #[.int .i64 0, .int .i64 0, .int .i64 0, .int .i64 0, .int .i64 0, .int .i64 0, .int .i64 0] 48))
  have HQ := Lib.hid (show Bk ((w.alloc (.cells #[.int .i64 0, .int .i64 0, .int .i64 0, .int .i64 0, .int .i64 0, .int .i64 0, .int .i64 0] 48)).alloc (.cells #[.int .i64 0, .int .i64 0, .int .i64 0, .int .i64 0, .int .i64 0, .int .i64 0, .int .i64 0] 48)) (w.heap.size + 1) (nbR s 0).toArray 48 from new_at (w.alloc (.cells #[.int .i64 0, .int .i64 0, .int .i64 0, .int .i64 0, .int .i64 0, .int .i64 0, .int .i64 0] 48)) #[.int .i64 0, .int .i64 0, .int .i64 0, .int .i64 0, .int .i64 0, .int .i64 0, .int .i64 0] 48 (w.heap.size + 1) (by simp))
  have hv2 := hv.all hb0
  have c0 : ((w.alloc (.cells #[.int .i64 0, .int .i64 0, .int .i64 0, .int .i64 0, .int .i64 0, .int .i64 0, .int .i64 0] 48)).alloc (.cells #[.int .i64 0, .int .i64 0, .int .i64 0, .int .i64 0, .int .i64 0, .int .i64 0, .int .i64 0] 48)).cell? ⟨0, 0, none⟩ = some (.int .i64 1) := hv2.cell 0 (by decide)
  have c1 : ((w.alloc (.cells #[.int .i64 0, .int .i64 0, .int .i64 0, .int .i64 0, .int .i64 0, .int .i64 0, .int .i64 0] 48)).alloc (.cells #[.int .i64 0, .int .i64 0, .int .i64 0, .int .i64 0, .int .i64 0, .int .i64 0, .int .i64 0] 48)).cell? ⟨0, 1, none⟩ = some (.int .i64 2) := hv2.cell 1 (by decide)
  have c2 : ((w.alloc (.cells #[.int .i64 0, .int .i64 0, .int .i64 0, .int .i64 0, .int .i64 0, .int .i64 0, .int .i64 0] 48)).alloc (.cells #[.int .i64 0, .int .i64 0, .int .i64 0, .int .i64 0, .int .i64 0, .int .i64 0, .int .i64 0] 48)).cell? ⟨0, 2, none⟩ = some (.int .i64 2) := hv2.cell 2 (by decide)
  have c3 : ((w.alloc (.cells #[.int .i64 0, .int .i64 0, .int .i64 0, .int .i64 0, .int .i64 0, .int .i64 0, .int .i64 0] 48)).alloc (.cells #[.int .i64 0, .int .i64 0, .int .i64 0, .int .i64 0, .int .i64 0, .int .i64 0, .int .i64 0] 48)).cell? ⟨0, 3, none⟩ = some (.int .i64 2047) := hv2.cell 3 (by decide)
  have c4 : ((w.alloc (.cells #[.int .i64 0, .int .i64 0, .int .i64 0, .int .i64 0, .int .i64 0, .int .i64 0, .int .i64 0] 48)).alloc (.cells #[.int .i64 0, .int .i64 0, .int .i64 0, .int .i64 0, .int .i64 0, .int .i64 0, .int .i64 0] 48)).cell? ⟨0, 4, none⟩ = some (.int .i64 1) := hv2.cell 4 (by decide)
  have c5 : ((w.alloc (.cells #[.int .i64 0, .int .i64 0, .int .i64 0, .int .i64 0, .int .i64 0, .int .i64 0, .int .i64 0] 48)).alloc (.cells #[.int .i64 0, .int .i64 0, .int .i64 0, .int .i64 0, .int .i64 0, .int .i64 0, .int .i64 0] 48)).cell? ⟨0, 5, none⟩ = some (.int .i64 3) := hv2.cell 5 (by decide)
  have c6 : ((w.alloc (.cells #[.int .i64 0, .int .i64 0, .int .i64 0, .int .i64 0, .int .i64 0, .int .i64 0, .int .i64 0] 48)).alloc (.cells #[.int .i64 0, .int .i64 0, .int .i64 0, .int .i64 0, .int .i64 0, .int .i64 0, .int .i64 0] 48)).cell? ⟨0, 6, none⟩ = some (.int .i64 1) := hv2.cell 6 (by decide)
  have c7 : ((w.alloc (.cells #[.int .i64 0, .int .i64 0, .int .i64 0, .int .i64 0, .int .i64 0, .int .i64 0, .int .i64 0] 48)).alloc (.cells #[.int .i64 0, .int .i64 0, .int .i64 0, .int .i64 0, .int .i64 0, .int .i64 0, .int .i64 0] 48)).cell? ⟨0, 7, none⟩ = some (.int .i64 3) := hv2.cell 7 (by decide)
  have c8 : ((w.alloc (.cells #[.int .i64 0, .int .i64 0, .int .i64 0, .int .i64 0, .int .i64 0, .int .i64 0, .int .i64 0] 48)).alloc (.cells #[.int .i64 0, .int .i64 0, .int .i64 0, .int .i64 0, .int .i64 0, .int .i64 0, .int .i64 0] 48)).cell? ⟨0, 8, none⟩ = some (.int .i64 2) := hv2.cell 8 (by decide)
  have c9 : ((w.alloc (.cells #[.int .i64 0, .int .i64 0, .int .i64 0, .int .i64 0, .int .i64 0, .int .i64 0, .int .i64 0] 48)).alloc (.cells #[.int .i64 0, .int .i64 0, .int .i64 0, .int .i64 0, .int .i64 0, .int .i64 0, .int .i64 0] 48)).cell? ⟨0, 9, none⟩ = some (.int .i64 1000) := hv2.cell 9 (by decide)
  have c10 : ((w.alloc (.cells #[.int .i64 0, .int .i64 0, .int .i64 0, .int .i64 0, .int .i64 0, .int .i64 0, .int .i64 0] 48)).alloc (.cells #[.int .i64 0, .int .i64 0, .int .i64 0, .int .i64 0, .int .i64 0, .int .i64 0, .int .i64 0] 48)).cell? ⟨0, 10, none⟩ = some (.int .i64 2) := hv2.cell 10 (by decide)
  have c11 : ((w.alloc (.cells #[.int .i64 0, .int .i64 0, .int .i64 0, .int .i64 0, .int .i64 0, .int .i64 0, .int .i64 0] 48)).alloc (.cells #[.int .i64 0, .int .i64 0, .int .i64 0, .int .i64 0, .int .i64 0, .int .i64 0, .int .i64 0] 48)).cell? ⟨0, 11, none⟩ = some (.int .i64 256) := hv2.cell 11 (by decide)
  have c12 : ((w.alloc (.cells #[.int .i64 0, .int .i64 0, .int .i64 0, .int .i64 0, .int .i64 0, .int .i64 0, .int .i64 0] 48)).alloc (.cells #[.int .i64 0, .int .i64 0, .int .i64 0, .int .i64 0, .int .i64 0, .int .i64 0, .int .i64 0] 48)).cell? ⟨0, 12, none⟩ = some (.int .i64 4) := hv2.cell 12 (by decide)
  have c13 : ((w.alloc (.cells #[.int .i64 0, .int .i64 0, .int .i64 0, .int .i64 0, .int .i64 0, .int .i64 0, .int .i64 0] 48)).alloc (.cells #[.int .i64 0, .int .i64 0, .int .i64 0, .int .i64 0, .int .i64 0, .int .i64 0, .int .i64 0] 48)).cell? ⟨0, 13, none⟩ = some (.int .i64 1000000000) := hv2.cell 13 (by decide)
  clear hs hv hb0 hv2
  go_enter Tryd.func24, Tryd.ntmps24
  go_wp2
  clear c0 c1 c2 c3 c4 c5 c6 c7 c8 c9 c10 c11 c12 c13
  go_loopw [4, 8] (fun av iv wr => ∃ k : Nat, k ≤ 7 ∧ iv = .int .i64 k ∧ av = .int .i64 (offV k) ∧ Bk wr w.heap.size #[.int .i64 0, .int .i64 0, .int .i64 0, .int .i64 0, .int .i64 0, .int .i64 0, .int .i64 0] 48 ∧ Bk wr (w.heap.size + 1) (nbR s k).toArray 48 ∧ Below w.heap.size w wr) (fun _ iv _ => 7 - (intOf iv).toNat)
  case atStart => exact ⟨0, Nat.zero_le _, rfl, rfl, HR.out, HQ.out, HB.out⟩
  case round =>
    obtain ⟨k, hk, rfl, rfl, hr, hq, hbel⟩ := hrel
    replace HB := Lib.hid hbel
    replace HR := Lib.hid hr
    replace HQ := Lib.hid hq
    have hsz := HQ.out.lt
    clear hr hq hbel
    by_cases hlt : k < 7
    · obtain rfl | rfl | rfl | rfl | rfl | rfl | rfl : k = 0 ∨ k = 1 ∨ k = 2 ∨ k = 3 ∨ k = 4 ∨ k = 5 ∨ k = 6 := by omega
      · have hix := InOk.idx0
        have hq : Bk wr (w.heap.size + 1) #[.int .i64 0, .int .i64 0, .int .i64 0, .int .i64 0, .int .i64 0, .int .i64 0, .int .i64 0] 48 := HQ.out
        have q0 := hq.cell 0
        have f0 := hq.free 0
        have q1 := (hq.put 0 (.int .i64 (InoV.num s 0 1))).alloc (.cells #[.int .i64 1, .int .i64 2] 61)
        have r1 := (HR.out.far (p := ⟨w.heap.size + 1, 0, none⟩) (by simp) (.int .i64 (InoV.num s 0 1))).alloc (.cells #[.int .i64 1, .int .i64 2] 61)
        have b1 := (HB.out.setCell (p := ⟨w.heap.size + 1, 0, none⟩) (by simp) (.int .i64 (InoV.num s 0 1))).alloc (by simp; omega) (.cells #[.int .i64 1, .int .i64 2] 61)
        have HQ1 := Lib.hid q1
        have HR1 := Lib.hid r1
        have HB1 := Lib.hid b1
        clear q1 r1 b1 hq
        rw [show offV 0 = 0 from rfl]
        go_wp2_with fail
        refine (HG0.out _).mono ?_
        rintro e wq ⟨rfl, rfl⟩
        go_wp2
        go_roundw
        case rel => exact ⟨1, by omega, by go_num, by first | rfl | go_num, HR1.out, HQ1.out, HB1.out⟩
        case measure => simp [intOf]
      · have hix := InOk.idx1
        have hq : Bk wr (w.heap.size + 1) #[.int .i64 (InoV.num s 0 1), .int .i64 0, .int .i64 0, .int .i64 0, .int .i64 0, .int .i64 0, .int .i64 0] 48 := HQ.out
        have q0 := hq.cell 1
        have f0 := hq.free 1
        have q1 := (hq.put 1 (.int .i64 (InoV.num s 1 2))).alloc (.cells #[.int .i64 2, .int .i64 2047] 61)
        have r1 := (HR.out.far (p := ⟨w.heap.size + 1, 1, none⟩) (by simp) (.int .i64 (InoV.num s 1 2))).alloc (.cells #[.int .i64 2, .int .i64 2047] 61)
        have b1 := (HB.out.setCell (p := ⟨w.heap.size + 1, 1, none⟩) (by simp) (.int .i64 (InoV.num s 1 2))).alloc (by simp; omega) (.cells #[.int .i64 2, .int .i64 2047] 61)
        have HQ1 := Lib.hid q1
        have HR1 := Lib.hid r1
        have HB1 := Lib.hid b1
        clear q1 r1 b1 hq
        rw [show offV 1 = 1 from rfl]
        go_wp2_with fail
        refine (HG1.out _).mono ?_
        rintro e wq ⟨rfl, rfl⟩
        go_wp2
        go_roundw
        case rel => exact ⟨2, by omega, by go_num, by first | rfl | go_num, HR1.out, HQ1.out, HB1.out⟩
        case measure => simp [intOf]
      · have hix := InOk.idx2
        have hq : Bk wr (w.heap.size + 1) #[.int .i64 (InoV.num s 0 1), .int .i64 (InoV.num s 1 2), .int .i64 0, .int .i64 0, .int .i64 0, .int .i64 0, .int .i64 0] 48 := HQ.out
        have q0 := hq.cell 2
        have f0 := hq.free 2
        have q1 := (hq.put 2 (.int .i64 (InoV.num s 3 1))).alloc (.cells #[.int .i64 1, .int .i64 3] 61)
        have r1 := (HR.out.far (p := ⟨w.heap.size + 1, 2, none⟩) (by simp) (.int .i64 (InoV.num s 3 1))).alloc (.cells #[.int .i64 1, .int .i64 3] 61)
        have b1 := (HB.out.setCell (p := ⟨w.heap.size + 1, 2, none⟩) (by simp) (.int .i64 (InoV.num s 3 1))).alloc (by simp; omega) (.cells #[.int .i64 1, .int .i64 3] 61)
        have HQ1 := Lib.hid q1
        have HR1 := Lib.hid r1
        have HB1 := Lib.hid b1
        clear q1 r1 b1 hq
        rw [show offV 2 = 3 from rfl]
        go_wp2_with fail
        refine (HG2.out _).mono ?_
        rintro e wq ⟨rfl, rfl⟩
        go_wp2
        go_roundw
        case rel => exact ⟨3, by omega, by go_num, by first | rfl | go_num, HR1.out, HQ1.out, HB1.out⟩
        case measure => simp [intOf]
      · have hix := InOk.idx3
        have hq : Bk wr (w.heap.size + 1) #[.int .i64 (InoV.num s 0 1), .int .i64 (InoV.num s 1 2), .int .i64 (InoV.num s 3 1), .int .i64 0, .int .i64 0, .int .i64 0, .int .i64 0] 48 := HQ.out
        have q0 := hq.cell 3
        have f0 := hq.free 3
        have q1 := (hq.put 3 (.int .i64 (InoV.num s 4 1))).alloc (.cells #[.int .i64 1, .int .i64 3] 61)
        have r1 := (HR.out.far (p := ⟨w.heap.size + 1, 3, none⟩) (by simp) (.int .i64 (InoV.num s 4 1))).alloc (.cells #[.int .i64 1, .int .i64 3] 61)
        have b1 := (HB.out.setCell (p := ⟨w.heap.size + 1, 3, none⟩) (by simp) (.int .i64 (InoV.num s 4 1))).alloc (by simp; omega) (.cells #[.int .i64 1, .int .i64 3] 61)
        have HQ1 := Lib.hid q1
        have HR1 := Lib.hid r1
        have HB1 := Lib.hid b1
        clear q1 r1 b1 hq
        rw [show offV 3 = 4 from rfl]
        go_wp2_with fail
        refine (HG3.out _).mono ?_
        rintro e wq ⟨rfl, rfl⟩
        go_wp2
        go_roundw
        case rel => exact ⟨4, by omega, by go_num, by first | rfl | go_num, HR1.out, HQ1.out, HB1.out⟩
        case measure => simp [intOf]
      · have hix := InOk.idx4
        have hq : Bk wr (w.heap.size + 1) #[.int .i64 (InoV.num s 0 1), .int .i64 (InoV.num s 1 2), .int .i64 (InoV.num s 3 1), .int .i64 (InoV.num s 4 1), .int .i64 0, .int .i64 0, .int .i64 0] 48 := HQ.out
        have q0 := hq.cell 4
        have f0 := hq.free 4
        have q1 := (hq.put 4 (.int .i64 (InoV.num s 5 2))).alloc (.cells #[.int .i64 2, .int .i64 1000] 61)
        have r1 := (HR.out.far (p := ⟨w.heap.size + 1, 4, none⟩) (by simp) (.int .i64 (InoV.num s 5 2))).alloc (.cells #[.int .i64 2, .int .i64 1000] 61)
        have b1 := (HB.out.setCell (p := ⟨w.heap.size + 1, 4, none⟩) (by simp) (.int .i64 (InoV.num s 5 2))).alloc (by simp; omega) (.cells #[.int .i64 2, .int .i64 1000] 61)
        have HQ1 := Lib.hid q1
        have HR1 := Lib.hid r1
        have HB1 := Lib.hid b1
        clear q1 r1 b1 hq
        rw [show offV 4 = 5 from rfl]
        go_wp2_with fail
        refine (HG4.out _).mono ?_
        rintro e wq ⟨rfl, rfl⟩
        go_wp2
        go_roundw
        case rel => exact ⟨5, by omega, by go_num, by first | rfl | go_num, HR1.out, HQ1.out, HB1.out⟩
        case measure => simp [intOf]
      · have hix := InOk.idx5
        have hq : Bk wr (w.heap.size + 1) #[.int .i64 (InoV.num s 0 1), .int .i64 (InoV.num s 1 2), .int .i64 (InoV.num s 3 1), .int .i64 (InoV.num s 4 1), .int .i64 (InoV.num s 5 2), .int .i64 0, .int .i64 0] 48 := HQ.out
        have q0 := hq.cell 5
        have f0 := hq.free 5
        have q1 := (hq.put 5 (.int .i64 (InoV.num s 7 2))).alloc (.cells #[.int .i64 2, .int .i64 256] 61)
        have r1 := (HR.out.far (p := ⟨w.heap.size + 1, 5, none⟩) (by simp) (.int .i64 (InoV.num s 7 2))).alloc (.cells #[.int .i64 2, .int .i64 256] 61)
        have b1 := (HB.out.setCell (p := ⟨w.heap.size + 1, 5, none⟩) (by simp) (.int .i64 (InoV.num s 7 2))).alloc (by simp; omega) (.cells #[.int .i64 2, .int .i64 256] 61)
        have HQ1 := Lib.hid q1
        have HR1 := Lib.hid r1
        have HB1 := Lib.hid b1
        clear q1 r1 b1 hq
        rw [show offV 5 = 7 from rfl]
        go_wp2_with fail
        refine (HG5.out _).mono ?_
        rintro e wq ⟨rfl, rfl⟩
        go_wp2
        go_roundw
        case rel => exact ⟨6, by omega, by go_num, by first | rfl | go_num, HR1.out, HQ1.out, HB1.out⟩
        case measure => simp [intOf]
      · have hix := InOk.idx6
        have hq : Bk wr (w.heap.size + 1) #[.int .i64 (InoV.num s 0 1), .int .i64 (InoV.num s 1 2), .int .i64 (InoV.num s 3 1), .int .i64 (InoV.num s 4 1), .int .i64 (InoV.num s 5 2), .int .i64 (InoV.num s 7 2), .int .i64 0] 48 := HQ.out
        have q0 := hq.cell 6
        have f0 := hq.free 6
        have q1 := (hq.put 6 (.int .i64 (InoV.num s 9 4))).alloc (.cells #[.int .i64 4, .int .i64 1000000000] 61)
        have r1 := (HR.out.far (p := ⟨w.heap.size + 1, 6, none⟩) (by simp) (.int .i64 (InoV.num s 9 4))).alloc (.cells #[.int .i64 4, .int .i64 1000000000] 61)
        have b1 := (HB.out.setCell (p := ⟨w.heap.size + 1, 6, none⟩) (by simp) (.int .i64 (InoV.num s 9 4))).alloc (by simp; omega) (.cells #[.int .i64 4, .int .i64 1000000000] 61)
        have HQ1 := Lib.hid q1
        have HR1 := Lib.hid r1
        have HB1 := Lib.hid b1
        clear q1 r1 b1 hq
        rw [show offV 6 = 9 from rfl]
        go_wp2_with fail
        refine (HG6.out _).mono ?_
        rintro e wq ⟨rfl, rfl⟩
        go_wp2
        go_roundw
        case rel => exact ⟨7, by omega, by go_num, by first | rfl | go_num, HR1.out, HQ1.out, HB1.out⟩
        case measure => simp [intOf]
    · obtain rfl : k = 7 := by omega
      have hq : Bk wr (w.heap.size + 1) #[.int .i64 (InoV.num s 0 1), .int .i64 (InoV.num s 1 2), .int .i64 (InoV.num s 3 1), .int .i64 (InoV.num s 4 1), .int .i64 (InoV.num s 5 2), .int .i64 (InoV.num s 7 2), .int .i64 (InoV.num s 9 4)] 48 := HQ.out
      obtain ⟨q0, q1, q2, q3, q4, q5, q6⟩ := hq.c7
      obtain ⟨z0, z1, z2, z3, z4, z5, z6⟩ := HR.out.c7
      have e0 := HR.out.free 0
      have e1 := HR.out.free 1
      have e2 := HR.out.free 2
      have e3 := HR.out.free 3
      have e4 := HR.out.free 4
      have e5 := HR.out.free 5
      have e6 := HR.out.free 6
      go_wp2_with fail
      have hF0 := HR.out
      have hF1 : Bk _ _ #[.int .i64 (InoV.num s 0 1), .int .i64 0, .int .i64 0, .int .i64 0, .int .i64 0, .int .i64 0, .int .i64 0] _ := hF0.put 0 (.int .i64 (InoV.num s 0 1))
      clear hF0
      have hF2 : Bk _ _ #[.int .i64 (InoV.num s 0 1), .int .i64 (InoV.num s 1 2), .int .i64 0, .int .i64 0, .int .i64 0, .int .i64 0, .int .i64 0] _ := hF1.put 1 (.int .i64 (InoV.num s 1 2))
      clear hF1
      have hF3 : Bk _ _ #[.int .i64 (InoV.num s 0 1), .int .i64 (InoV.num s 1 2), .int .i64 (InoV.num s 3 1), .int .i64 0, .int .i64 0, .int .i64 0, .int .i64 0] _ := hF2.put 2 (.int .i64 (InoV.num s 3 1))
      clear hF2
      have hF4 : Bk _ _ #[.int .i64 (InoV.num s 0 1), .int .i64 (InoV.num s 1 2), .int .i64 (InoV.num s 3 1), .int .i64 (InoV.num s 4 1), .int .i64 0, .int .i64 0, .int .i64 0] _ := hF3.put 3 (.int .i64 (InoV.num s 4 1))
      clear hF3
      have hF5 : Bk _ _ #[.int .i64 (InoV.num s 0 1), .int .i64 (InoV.num s 1 2), .int .i64 (InoV.num s 3 1), .int .i64 (InoV.num s 4 1), .int .i64 (InoV.num s 5 2), .int .i64 0, .int .i64 0] _ := hF4.put 4 (.int .i64 (InoV.num s 5 2))
      clear hF4
      have hF6 : Bk _ _ #[.int .i64 (InoV.num s 0 1), .int .i64 (InoV.num s 1 2), .int .i64 (InoV.num s 3 1), .int .i64 (InoV.num s 4 1), .int .i64 (InoV.num s 5 2), .int .i64 (InoV.num s 7 2), .int .i64 0] _ := hF5.put 5 (.int .i64 (InoV.num s 7 2))
      clear hF5
      have hF7 : Bk _ _ #[.int .i64 (InoV.num s 0 1), .int .i64 (InoV.num s 1 2), .int .i64 (InoV.num s 3 1), .int .i64 (InoV.num s 4 1), .int .i64 (InoV.num s 5 2), .int .i64 (InoV.num s 7 2), .int .i64 (InoV.num s 9 4)] _ := hF6.put 6 (.int .i64 (InoV.num s 9 4))
      clear hF6
      have hB9 := (((((((HB.out.setCell (p := ⟨w.heap.size, 0, none⟩) (Nat.le_refl _) (.int .i64 (InoV.num s 0 1))).setCell (p := ⟨w.heap.size, 1, none⟩) (Nat.le_refl _) (.int .i64 (InoV.num s 1 2))).setCell (p := ⟨w.heap.size, 2, none⟩) (Nat.le_refl _) (.int .i64 (InoV.num s 3 1))).setCell (p := ⟨w.heap.size, 3, none⟩) (Nat.le_refl _) (.int .i64 (InoV.num s 4 1))).setCell (p := ⟨w.heap.size, 4, none⟩) (Nat.le_refl _) (.int .i64 (InoV.num s 5 2))).setCell (p := ⟨w.heap.size, 5, none⟩) (Nat.le_refl _) (.int .i64 (InoV.num s 7 2))).setCell (p := ⟨w.heap.size, 6, none⟩) (Nat.le_refl _) (.int .i64 (InoV.num s 9 4)))
      generalize (((((((wr.setCell ⟨w.heap.size, 0, none⟩ (.int .i64 (InoV.num s 0 1))).setCell ⟨w.heap.size, 1, none⟩ (.int .i64 (InoV.num s 1 2))).setCell ⟨w.heap.size, 2, none⟩ (.int .i64 (InoV.num s 3 1))).setCell ⟨w.heap.size, 3, none⟩ (.int .i64 (InoV.num s 4 1))).setCell ⟨w.heap.size, 4, none⟩ (.int .i64 (InoV.num s 5 2))).setCell ⟨w.heap.size, 5, none⟩ (.int .i64 (InoV.num s 7 2))).setCell ⟨w.heap.size, 6, none⟩ (.int .i64 (InoV.num s 9 4))) = w9 at hF7 hB9 ⊢
      have fc0 : w9.cell? ⟨w.heap.size, 0, none⟩ = some (.int .i64 (InoV.num s 0 1)) := hF7.cell 0
      have fc1 : w9.cell? ⟨w.heap.size, 1, none⟩ = some (.int .i64 (InoV.num s 1 2)) := hF7.cell 1
      have fc2 : w9.cell? ⟨w.heap.size, 2, none⟩ = some (.int .i64 (InoV.num s 3 1)) := hF7.cell 2
      have fc3 : w9.cell? ⟨w.heap.size, 3, none⟩ = some (.int .i64 (InoV.num s 4 1)) := hF7.cell 3
      have fc4 : w9.cell? ⟨w.heap.size, 4, none⟩ = some (.int .i64 (InoV.num s 5 2)) := hF7.cell 4
      have fc5 : w9.cell? ⟨w.heap.size, 5, none⟩ = some (.int .i64 (InoV.num s 7 2)) := hF7.cell 5
      have fc6 : w9.cell? ⟨w.heap.size, 6, none⟩ = some (.int .i64 (InoV.num s 9 4)) := hF7.cell 6
      exact bodyPost_ret (v := .agg #[.int .i64 (InoV.num s 0 1), .int .i64 (InoV.num s 1 2), .int .i64 (InoV.num s 3 1), .int .i64 (InoV.num s 4 1), .int .i64 (InoV.num s 5 2), .int .i64 (InoV.num s 7 2), .int .i64 (InoV.num s 9 4)]) (by simp [results, Tryd.results24, go_sem, fc0, fc1, fc2, fc3, fc4, fc5, fc6]) rfl ⟨rfl, hB9⟩

/-- The array of the blocks with i of them read. -/
def bkV (s : ByteArray) (j : Nat) : Int := num s (13 + 2 * j) 2
def bkR (s : ByteArray) (i : Nat) : List Value := (List.range 8).map fun j => Value.int .i64 (if j < i then bkV s j else 0)
def bkL (s : ByteArray) : List Int := (List.range 8).map (bkV s)
theorem bkR_length (s : ByteArray) (i : Nat) : (bkR s i).length = 8 := by simp [bkR]
theorem bkR_at (s : ByteArray) (i j : Nat) (h : j < 8) : (bkR s i)[j]? = some (.int .i64 (if j < i then bkV s j else 0)) := by
  simp [bkR, List.getElem?_map, List.getElem?_range h]
theorem bkR_set (s : ByteArray) (i : Nat) (h : i < 8) : (bkR s i).set i (.int .i64 (bkV s i)) = bkR s (i + 1) := by
  refine List.ext_getElem? fun j => ?_
  by_cases hj : j < 8
  · rw [List.getElem?_set, bkR_at s (i + 1) j hj, bkR_length]
    by_cases hij : i = j
    · subst hij
      simp [h]
    · rw [if_neg hij, bkR_at s i j hj]
      by_cases h1 : j < i
      · rw [if_pos h1, if_pos (by omega)]
      · rw [if_neg h1, if_neg (by omega)]
  · rw [List.getElem?_eq_none (by rw [List.length_set, bkR_length]; omega), List.getElem?_eq_none (by rw [bkR_length]; omega)]
set_option maxRecDepth 100000 in
set_option maxHeartbeats 3200000 in
theorem blocks_any (s : ByteArray) (w : World) (hs : s.size = 96) :
    Calls Tryd.prog 26 #[.string s] w fun e w' => e = .returned (.agg #[.int .i64 (bkV s 0), .int .i64 (bkV s 1), .int .i64 (bkV s 2), .int .i64 (bkV s 3), .int .i64 (bkV s 4), .int .i64 (bkV s 5), .int .i64 (bkV s 6), .int .i64 (bkV s 7)]) ∧ Below w.heap.size w w' := by
  have HG := Lib.hid (fun (k : Nat) (hk : k < 8) W => get_impl s (13 + 2 * k) 2 W (by omega) (by omega) (by omega) (by omega))
  have HSET := Lib.hid (bkR_set s)
  have HAT := Lib.hid (bkR_at s)
  have HB := Lib.hid (((Below.refl w.heap.size w).alloc (Nat.le_refl _) (.cells #[.int .i64 0, .int .i64 0, .int .i64 0, .int .i64 0, .int .i64 0, .int .i64 0, .int .i64 0, .int .i64 0] 52)).alloc (by simp) (.cells #[.int .i64 0, .int .i64 0, .int .i64 0, .int .i64 0, .int .i64 0, .int .i64 0, .int .i64 0, .int .i64 0] 52))
  have HR := Lib.hid ((new w #[.int .i64 0, .int .i64 0, .int .i64 0, .int .i64 0, .int .i64 0, .int .i64 0, .int .i64 0, .int .i64 0] 52).alloc (.cells #[.int .i64 0, .int .i64 0, .int .i64 0, .int .i64 0, .int .i64 0, .int .i64 0, .int .i64 0, .int .i64 0] 52))
  have HQ := Lib.hid (show Bk ((w.alloc (.cells #[.int .i64 0, .int .i64 0, .int .i64 0, .int .i64 0, .int .i64 0, .int .i64 0, .int .i64 0, .int .i64 0] 52)).alloc (.cells #[.int .i64 0, .int .i64 0, .int .i64 0, .int .i64 0, .int .i64 0, .int .i64 0, .int .i64 0, .int .i64 0] 52)) (w.heap.size + 1) (bkR s 0).toArray 52 from new_at (w.alloc (.cells #[.int .i64 0, .int .i64 0, .int .i64 0, .int .i64 0, .int .i64 0, .int .i64 0, .int .i64 0, .int .i64 0] 52)) #[.int .i64 0, .int .i64 0, .int .i64 0, .int .i64 0, .int .i64 0, .int .i64 0, .int .i64 0, .int .i64 0] 52 (w.heap.size + 1) (by simp))
  clear hs
  go_enter Tryd.func26, Tryd.ntmps26
  go_wp2
  go_loopw [5] (fun iv wr => ∃ i : Nat, i ≤ 8 ∧ iv = .int .i64 i ∧ Bk wr w.heap.size #[.int .i64 0, .int .i64 0, .int .i64 0, .int .i64 0, .int .i64 0, .int .i64 0, .int .i64 0, .int .i64 0] 52 ∧ Bk wr (w.heap.size + 1) (bkR s i).toArray 52 ∧ Below w.heap.size w wr) (fun iv _ => 8 - (intOf iv).toNat)
  case atStart => exact ⟨0, Nat.zero_le _, rfl, HR.out, HQ.out, HB.out⟩
  case round =>
    obtain ⟨i, hi, rfl, hr, hq, hbel⟩ := hrel
    replace HB := Lib.hid hbel
    replace HR := Lib.hid hr
    replace HQ := Lib.hid hq
    clear hr hq hbel
    by_cases hlt : i < 8
    · have h8 : (i : Int) < 8 := by omega
      have hget := HG.out i hlt
      rw [show (((13 + 2 * i : Nat)) : Int) = 13 + (i : Int) * 2 from by omega] at hget
      have hq1 := HQ.out.cell i
      rw [List.getElem?_toArray, HAT.out i i (by omega), if_neg (Nat.lt_irrefl i)] at hq1
      have hf1 := HQ.out.free i
      have hn := HQ.out.put i (.int .i64 (bkV s i))
      rw [HSET.out i (by omega)] at hn
      have hrn := HR.out.far (p := ⟨w.heap.size + 1, i, none⟩) (by simp) (.int .i64 (bkV s i))
      have hbn := HB.out.setCell (p := ⟨w.heap.size + 1, i, none⟩) (by simp) (.int .i64 (bkV s i))
      have HN := Lib.hid hn
      have HRN := Lib.hid hrn
      have HBN := Lib.hid hbn
      clear hn hrn hbn
      change ∀ W, Calls Tryd.prog _ _ W fun e w' => e = .returned (.tuple #[.int .i64 (bkV s i), .bool true]) ∧ W = w' at hget
      have HGET := Lib.hid hget
      clear hget
      generalize bkV s i = y at HGET HN HRN HBN
      go_wp2_with fail
      refine (HGET.out _).mono ?_
      rintro e wq ⟨rfl, rfl⟩
      go_wp2
      go_roundw
      case rel => exact ⟨i + 1, by omega, by go_num, HRN.out, HN.out, HBN.out⟩
      case measure => simp [intOf]; omega
    · obtain rfl : i = 8 := by omega
      have hq : Bk wr (w.heap.size + 1) #[.int .i64 (bkV s 0), .int .i64 (bkV s 1), .int .i64 (bkV s 2), .int .i64 (bkV s 3), .int .i64 (bkV s 4), .int .i64 (bkV s 5), .int .i64 (bkV s 6), .int .i64 (bkV s 7)] 52 := HQ.out
      obtain ⟨q0, q1, q2, q3, q4, q5, q6, q7⟩ := hq.c8
      obtain ⟨z0, z1, z2, z3, z4, z5, z6, z7⟩ := HR.out.c8
      have e0 := HR.out.free 0
      have e1 := HR.out.free 1
      have e2 := HR.out.free 2
      have e3 := HR.out.free 3
      have e4 := HR.out.free 4
      have e5 := HR.out.free 5
      have e6 := HR.out.free 6
      have e7 := HR.out.free 7
      go_wp2_with fail
      have hF0 := HR.out
      have hF1 : Bk _ _ #[.int .i64 (bkV s 0), .int .i64 0, .int .i64 0, .int .i64 0, .int .i64 0, .int .i64 0, .int .i64 0, .int .i64 0] _ := hF0.put 0 (.int .i64 (bkV s 0))
      clear hF0
      have hF2 : Bk _ _ #[.int .i64 (bkV s 0), .int .i64 (bkV s 1), .int .i64 0, .int .i64 0, .int .i64 0, .int .i64 0, .int .i64 0, .int .i64 0] _ := hF1.put 1 (.int .i64 (bkV s 1))
      clear hF1
      have hF3 : Bk _ _ #[.int .i64 (bkV s 0), .int .i64 (bkV s 1), .int .i64 (bkV s 2), .int .i64 0, .int .i64 0, .int .i64 0, .int .i64 0, .int .i64 0] _ := hF2.put 2 (.int .i64 (bkV s 2))
      clear hF2
      have hF4 : Bk _ _ #[.int .i64 (bkV s 0), .int .i64 (bkV s 1), .int .i64 (bkV s 2), .int .i64 (bkV s 3), .int .i64 0, .int .i64 0, .int .i64 0, .int .i64 0] _ := hF3.put 3 (.int .i64 (bkV s 3))
      clear hF3
      have hF5 : Bk _ _ #[.int .i64 (bkV s 0), .int .i64 (bkV s 1), .int .i64 (bkV s 2), .int .i64 (bkV s 3), .int .i64 (bkV s 4), .int .i64 0, .int .i64 0, .int .i64 0] _ := hF4.put 4 (.int .i64 (bkV s 4))
      clear hF4
      have hF6 : Bk _ _ #[.int .i64 (bkV s 0), .int .i64 (bkV s 1), .int .i64 (bkV s 2), .int .i64 (bkV s 3), .int .i64 (bkV s 4), .int .i64 (bkV s 5), .int .i64 0, .int .i64 0] _ := hF5.put 5 (.int .i64 (bkV s 5))
      clear hF5
      have hF7 : Bk _ _ #[.int .i64 (bkV s 0), .int .i64 (bkV s 1), .int .i64 (bkV s 2), .int .i64 (bkV s 3), .int .i64 (bkV s 4), .int .i64 (bkV s 5), .int .i64 (bkV s 6), .int .i64 0] _ := hF6.put 6 (.int .i64 (bkV s 6))
      clear hF6
      have hF8 : Bk _ _ #[.int .i64 (bkV s 0), .int .i64 (bkV s 1), .int .i64 (bkV s 2), .int .i64 (bkV s 3), .int .i64 (bkV s 4), .int .i64 (bkV s 5), .int .i64 (bkV s 6), .int .i64 (bkV s 7)] _ := hF7.put 7 (.int .i64 (bkV s 7))
      clear hF7
      have hB9 := ((((((((HB.out.setCell (p := ⟨w.heap.size, 0, none⟩) (Nat.le_refl _) (.int .i64 (bkV s 0))).setCell (p := ⟨w.heap.size, 1, none⟩) (Nat.le_refl _) (.int .i64 (bkV s 1))).setCell (p := ⟨w.heap.size, 2, none⟩) (Nat.le_refl _) (.int .i64 (bkV s 2))).setCell (p := ⟨w.heap.size, 3, none⟩) (Nat.le_refl _) (.int .i64 (bkV s 3))).setCell (p := ⟨w.heap.size, 4, none⟩) (Nat.le_refl _) (.int .i64 (bkV s 4))).setCell (p := ⟨w.heap.size, 5, none⟩) (Nat.le_refl _) (.int .i64 (bkV s 5))).setCell (p := ⟨w.heap.size, 6, none⟩) (Nat.le_refl _) (.int .i64 (bkV s 6))).setCell (p := ⟨w.heap.size, 7, none⟩) (Nat.le_refl _) (.int .i64 (bkV s 7)))
      generalize ((((((((wr.setCell ⟨w.heap.size, 0, none⟩ (.int .i64 (bkV s 0))).setCell ⟨w.heap.size, 1, none⟩ (.int .i64 (bkV s 1))).setCell ⟨w.heap.size, 2, none⟩ (.int .i64 (bkV s 2))).setCell ⟨w.heap.size, 3, none⟩ (.int .i64 (bkV s 3))).setCell ⟨w.heap.size, 4, none⟩ (.int .i64 (bkV s 4))).setCell ⟨w.heap.size, 5, none⟩ (.int .i64 (bkV s 5))).setCell ⟨w.heap.size, 6, none⟩ (.int .i64 (bkV s 6))).setCell ⟨w.heap.size, 7, none⟩ (.int .i64 (bkV s 7))) = w9 at hF8 hB9 ⊢
      have fc0 : w9.cell? ⟨w.heap.size, 0, none⟩ = some (.int .i64 (bkV s 0)) := hF8.cell 0
      have fc1 : w9.cell? ⟨w.heap.size, 1, none⟩ = some (.int .i64 (bkV s 1)) := hF8.cell 1
      have fc2 : w9.cell? ⟨w.heap.size, 2, none⟩ = some (.int .i64 (bkV s 2)) := hF8.cell 2
      have fc3 : w9.cell? ⟨w.heap.size, 3, none⟩ = some (.int .i64 (bkV s 3)) := hF8.cell 3
      have fc4 : w9.cell? ⟨w.heap.size, 4, none⟩ = some (.int .i64 (bkV s 4)) := hF8.cell 4
      have fc5 : w9.cell? ⟨w.heap.size, 5, none⟩ = some (.int .i64 (bkV s 5)) := hF8.cell 5
      have fc6 : w9.cell? ⟨w.heap.size, 6, none⟩ = some (.int .i64 (bkV s 6)) := hF8.cell 6
      have fc7 : w9.cell? ⟨w.heap.size, 7, none⟩ = some (.int .i64 (bkV s 7)) := hF8.cell 7
      exact bodyPost_ret (v := .agg #[.int .i64 (bkV s 0), .int .i64 (bkV s 1), .int .i64 (bkV s 2), .int .i64 (bkV s 3), .int .i64 (bkV s 4), .int .i64 (bkV s 5), .int .i64 (bkV s 6), .int .i64 (bkV s 7)]) (by simp [results, Tryd.results26, go_sem, fc0, fc1, fc2, fc3, fc4, fc5, fc6, fc7]) rfl ⟨rfl, hB9⟩

def predL (l : List Int) (k : Nat) : List Int := (l.take k).map (· - 1)
theorem pred_succ {l : List Int} {k : Nat} (h : k < l.length) : predL l (k + 1) = predL l k ++ [l.getD k 0 - 1] := by
  unfold predL
  rw [List.take_succ_eq_append_getElem h, List.map_append, List.getD_eq_getElem?_getD, List.getElem?_eq_getElem h]; rfl
theorem pred_length {l : List Int} {k : Nat} (h : k ≤ l.length) : (predL l k).length = k := by
  unfold predL
  rw [List.length_map, List.length_take]; omega
set_option maxRecDepth 100000 in
set_option maxHeartbeats 3200000 in
theorem list_any (w : World) (y0 y1 y2 y3 y4 y5 y6 y7 n : Int) (h0 : 0 ≤ n) (hn : n ≤ 4611686018427387904) (hy : ∀ y ∈ [y0, y1, y2, y3, y4, y5, y6, y7], 0 ≤ y ∧ y < 65536) :
    Calls Tryd.prog 27 #[.agg #[.int .i64 y0, .int .i64 y1, .int .i64 y2, .int .i64 y3, .int .i64 y4, .int .i64 y5, .int .i64 y6, .int .i64 y7], .int .i64 n] w fun e w' => ∃ v S, e = .returned v ∧ NiF.Own w' w.heap.size v (predL [y0, y1, y2, y3, y4, y5, y6, y7] (min n.toNat 8)) S ∧ Below w.heap.size w w' := by
  obtain ⟨i0, hi, hz0, hz1, hz2⟩ := info_parts Ni.intInfo
  have HF0 := Lib.hid hi
  have HF1 := Lib.hid hz0
  have HF2 := Lib.hid hz1
  have HF3 := Lib.hid hz2
  clear hi hz0 hz1 hz2
  obtain ⟨N, rfl⟩ := Int.eq_ofNat_of_zero_le h0
  rw [Int.toNat_natCast]
  have HY := Lib.hid (show ∀ k, k < 8 → 0 ≤ ([y0, y1, y2, y3, y4, y5, y6, y7] : List Int).getD k 0 ∧ ([y0, y1, y2, y3, y4, y5, y6, y7] : List Int).getD k 0 < 65536 from fun k hk => hy _ (InSm.mem_getD (by simpa using hk)))
  have HPS := Lib.hid (fun k (hk : k < 8) => pred_succ (l := [y0, y1, y2, y3, y4, y5, y6, y7]) (k := k) (by simpa using hk))
  have HPL := Lib.hid (fun k (hk : k ≤ 8) => pred_length (l := [y0, y1, y2, y3, y4, y5, y6, y7]) (k := k) (by simpa using hk))
  clear hy h0
  have HB := Lib.hid ((Below.refl w.heap.size w).alloc (Nat.le_refl _) (.cells #[.int .i64 y0, .int .i64 y1, .int .i64 y2, .int .i64 y3, .int .i64 y4, .int .i64 y5, .int .i64 y6, .int .i64 y7] 52))
  have HX := Lib.hid (new w #[.int .i64 y0, .int .i64 y1, .int .i64 y2, .int .i64 y3, .int .i64 y4, .int .i64 y5, .int .i64 y6, .int .i64 y7] 52)
  have HCE := Lib.hid (show ∀ (W : World), Bk W w.heap.size #[.int .i64 y0, .int .i64 y1, .int .i64 y2, .int .i64 y3, .int .i64 y4, .int .i64 y5, .int .i64 y6, .int .i64 y7] 52 → ∀ k, k < 8 → W.cell? ⟨w.heap.size, k, none⟩ = some (.int .i64 (([y0, y1, y2, y3, y4, y5, y6, y7] : List Int).getD k 0)) from fun W h k hk => by
    rcases (show k = 0 ∨ k = 1 ∨ k = 2 ∨ k = 3 ∨ k = 4 ∨ k = 5 ∨ k = 6 ∨ k = 7 from by omega) with rfl | rfl | rfl | rfl | rfl | rfl | rfl | rfl
    all_goals exact h.cell _)
  obtain ⟨B, hB⟩ : ∃ B, B = w.heap.size + 1 := ⟨_, rfl⟩
  have hB1 : w.heap.size < B := by omega
  have hB2 : B ≤ (w.alloc (.cells #[.int .i64 y0, .int .i64 y1, .int .i64 y2, .int .i64 y3, .int .i64 y4, .int .i64 y5, .int .i64 y6, .int .i64 y7] 52)).heap.size := by simp; omega
  clear hB
  by_cases hN : N ≤ 8
  · have hle8 : (N : Int) ≤ 8 := by omega
    rw [show min N 8 = N by omega]
    have hmin : min (N : Int) 8 = N := by omega
    have hal : (Tryd.prog.arrayLen 52) = 8 := by kernel_rfl
    clear hN
    go_enter Tryd.func27, Tryd.ntmps27
    go_wp2
    go_loopw [5, 12] (fun sv iv wr => ∃ k : Nat, k ≤ N ∧ iv = .int .i64 k ∧ wr.ownsRow B 3 1 sv k (NiF.cells (predL [y0, y1, y2, y3, y4, y5, y6, y7] k)) ∧ Bk wr w.heap.size #[.int .i64 y0, .int .i64 y1, .int .i64 y2, .int .i64 y3, .int .i64 y4, .int .i64 y5, .int .i64 y6, .int .i64 y7] 52 ∧ B ≤ wr.heap.size ∧ Below w.heap.size w wr) (fun _ iv _ => N - (intOf iv).toNat)
    case atStart => exact ⟨0, Nat.zero_le _, rfl, InEq.own_nil1 _ _ _, HX.out, hB2, HB.out⟩
    case round =>
      obtain ⟨k, hk, rfl, hown, hx, hsB, hbel⟩ := hrel
      replace HB := Lib.hid hbel
      replace HX := Lib.hid hx
      have HOWN := Lib.hid hown
      have hsz := hbel.size
      clear hx hbel hown
      by_cases hlt : k < N
      · have hk8 : (k : Int) < 8 := by omega
        have g0 := HCE.out wr HX.out k (by omega)
        have hyr := HY.out k (by omega)
        have HNX := Lib.hid (HPS.out k (by omega))
        generalize ([y0, y1, y2, y3, y4, y5, y6, y7] : List Int).getD k 0 = y at g0 hyr HNX
        go_wp2_with (first | (at_builtin; refine wpList_append_own _ rfl _ _ 23 rfl B 3 i0 (.int .i64 0) 1 8 Tryd.underlying23 HF0.out HF1.out HF2.out HF3.out rfl (by decide) _ _ _ rfl (HOWN.out.alloc _) ⟨wr.heap.size, 0, none⟩ 1 1 [.int .i64 (y - 1)] rfl rfl ?c1 ?c2 ?c3 ?c4 ?c5 ?_))
        case c1 => exact InEq.cells1_new _ _ _
        case c2 => simp [Value.oneCell']
        case c3 => unfold maxLen; omega
        case c4 => omega
        case c5 => simp; omega
        intro v' w6 hown1 hg1 _
        have hs6 := hg1.size
        simp only [World.size_alloc] at hs6
        have HO1 := Lib.hid hown1
        have HX1 := Lib.hid ((HX.out.alloc (.cells #[.int .i64 (y - 1)] 3)).grown hg1 (fun e => by have := (HOWN.out.lt w.heap.size e.symm).1; omega))
        have HB1 := Lib.hid ((HB.out.alloc HB.out.size (.cells #[.int .i64 (y - 1)] 3)).grown hg1 (by have := HB.out.size; simp; omega) (fun k hk => by have := (HOWN.out.lt k hk).1; omega))
        clear hown1 hg1
        go_wp2
        go_roundw
        case rel => exact ⟨k + 1, by omega, by go_num, by rw [HNX.out]; unfold NiF.cells; rw [List.map_append]; exact HO1.out, HX1.out, by omega, HB1.out⟩
        case measure => simp [intOf]; omega
      · obtain rfl : k = N := by omega
        have hl := HPL.out k (by omega)
        go_wp2
        go_ret
        exact ⟨_, _, rfl, ⟨by rw [hl]; exact SplitAny.own_mono HOWN.out (by omega), rfl⟩, HB.out⟩
  · have hle8 : ¬ (N : Int) ≤ 8 := by omega
    rw [show min N 8 = 8 by omega]
    have hmin : min (N : Int) 8 = 8 := by omega
    have hal : (Tryd.prog.arrayLen 52) = 8 := by kernel_rfl
    clear hN
    go_enter Tryd.func27, Tryd.ntmps27
    go_wp2
    go_loopw [5, 12] (fun sv iv wr => ∃ k : Nat, k ≤ 8 ∧ iv = .int .i64 k ∧ wr.ownsRow B 3 1 sv k (NiF.cells (predL [y0, y1, y2, y3, y4, y5, y6, y7] k)) ∧ Bk wr w.heap.size #[.int .i64 y0, .int .i64 y1, .int .i64 y2, .int .i64 y3, .int .i64 y4, .int .i64 y5, .int .i64 y6, .int .i64 y7] 52 ∧ B ≤ wr.heap.size ∧ Below w.heap.size w wr) (fun _ iv _ => 8 - (intOf iv).toNat)
    case atStart => exact ⟨0, Nat.zero_le _, rfl, InEq.own_nil1 _ _ _, HX.out, hB2, HB.out⟩
    case round =>
      obtain ⟨k, hk, rfl, hown, hx, hsB, hbel⟩ := hrel
      replace HB := Lib.hid hbel
      replace HX := Lib.hid hx
      have HOWN := Lib.hid hown
      have hsz := hbel.size
      clear hx hbel hown
      by_cases hlt : k < 8
      · have hk8 : (k : Int) < 8 := by omega
        have g0 := HCE.out wr HX.out k (by omega)
        have hyr := HY.out k (by omega)
        have HNX := Lib.hid (HPS.out k (by omega))
        generalize ([y0, y1, y2, y3, y4, y5, y6, y7] : List Int).getD k 0 = y at g0 hyr HNX
        go_wp2_with (first | (at_builtin; refine wpList_append_own _ rfl _ _ 23 rfl B 3 i0 (.int .i64 0) 1 8 Tryd.underlying23 HF0.out HF1.out HF2.out HF3.out rfl (by decide) _ _ _ rfl (HOWN.out.alloc _) ⟨wr.heap.size, 0, none⟩ 1 1 [.int .i64 (y - 1)] rfl rfl ?c1 ?c2 ?c3 ?c4 ?c5 ?_))
        case c1 => exact InEq.cells1_new _ _ _
        case c2 => simp [Value.oneCell']
        case c3 => unfold maxLen; omega
        case c4 => omega
        case c5 => simp; omega
        intro v' w6 hown1 hg1 _
        have hs6 := hg1.size
        simp only [World.size_alloc] at hs6
        have HO1 := Lib.hid hown1
        have HX1 := Lib.hid ((HX.out.alloc (.cells #[.int .i64 (y - 1)] 3)).grown hg1 (fun e => by have := (HOWN.out.lt w.heap.size e.symm).1; omega))
        have HB1 := Lib.hid ((HB.out.alloc HB.out.size (.cells #[.int .i64 (y - 1)] 3)).grown hg1 (by have := HB.out.size; simp; omega) (fun k hk => by have := (HOWN.out.lt k hk).1; omega))
        clear hown1 hg1
        go_wp2
        go_roundw
        case rel => exact ⟨k + 1, by omega, by go_num, by rw [HNX.out]; unfold NiF.cells; rw [List.map_append]; exact HO1.out, HX1.out, by omega, HB1.out⟩
        case measure => simp [intOf]; omega
      · obtain rfl : k = 8 := by omega
        have hl := HPL.out 8 (by omega)
        go_wp2
        go_ret
        exact ⟨_, _, rfl, ⟨by rw [hl]; exact SplitAny.own_mono HOWN.out (by omega), rfl⟩, HB.out⟩
end Go.Proofs.YthobdeidjagnhaaDoor.InUp

-- YthobdeidjagnhaaDoorInUi
/- Contract: the program's UnpackInode, for every string of at most 2^20 bytes. Conditions: as the theorem types them. -/
namespace Go.Proofs.YthobdeidjagnhaaDoor.InUi
open Go.ChangeShapes Go.WideShapes Go.ChangeAt Go.RowKit
open Foot Bx
open InoV (I num readI unpackI packI okI readB needN needV optL)
open AclV (unpackV)
open InOk (Vars)
open InUp
set_option linter.unusedVariables false

theorem opt_res (x : Option (List AclV.At)) : (AclU.resR x).1 = optL x := by cases x <;> rfl
theorem un_yes {s : ByteArray} (h96 : s.size = 96) (h : packI (readI s) = s) : unpackI s = (readI s, true) := by
  have hok : okI (readI s) = true := by
    cases hk : okI (readI s)
    · rw [InoV.packI_no hk] at h
      rw [← h] at h96
      cases h96
    · rfl
  rw [unpackI, if_pos ⟨h, hok⟩]
theorem un_no {s : ByteArray} (h : packI (readI s) ≠ s) : unpackI s = (InoV.zero, false) := by
  rw [unpackI, if_neg (fun hh => h hh.1)]
theorem zero_own (w : World) (base : Nat) : In.Own w base (.agg #[.int .i64 0, .int .i64 0, .int .i64 0, .int .i64 0, .int .i64 0, .int .i64 0, .int .i64 0, .slice none 0 0, .slice none 0 0, .slice none 0 0]) InoV.zero [] :=
  ⟨.slice none 0 0, .slice none 0 0, .slice none 0 0, [], [], [], rfl, rfl, List.nodup_nil, ⟨InEq.own_nil1 _ _ _, rfl⟩, ⟨AclU.own_nil3 _ _ _, rfl⟩, ⟨AclU.own_nil3 _ _ _, rfl⟩⟩
theorem need_le (s : ByteArray) : needN s ≤ 8 := by unfold needN; omega
theorem acl_len (s : ByteArray) : (optL (unpackV s)).length ≤ 6 := by rw [← opt_res]; exact AclU.unp_len s
theorem read_cost (s : ByteArray) : In.cost (readI s) ≤ 20 := by
  have h1 : (readI s).blocks.length = needN s := InoV.readB_length s _
  have h2 : (readI s).acl.length ≤ 6 := acl_len _
  have h3 : (readI s).dflt.length ≤ 6 := acl_len _
  have := need_le s
  show (readI s).blocks.length + (readI s).acl.length + (readI s).dflt.length ≤ 20
  omega
theorem read_rg {s : ByteArray} (h : s.size = 96) : ∀ x ∈ (readI s).blocks, Rg x := by
  intro x hx
  obtain ⟨i, hi, rfl⟩ := List.mem_map.1 (show x ∈ readB s (needN s) from hx)
  have hi2 := List.mem_range.1 hi
  have := need_le s
  have := num2_lt s (13 + 2 * i) (by omega)
  unfold Rg
  omega
theorem pred_read (s : ByteArray) (k : Nat) (hk : k ≤ 8) : predL [bkV s 0, bkV s 1, bkV s 2, bkV s 3, bkV s 4, bkV s 5, bkV s 6, bkV s 7] k = readB s k := by
  have e : ([bkV s 0, bkV s 1, bkV s 2, bkV s 3, bkV s 4, bkV s 5, bkV s 6, bkV s 7] : List Int) = (List.range 8).map (bkV s) := rfl
  rw [e]
  unfold predL readB
  rw [← List.map_take, List.take_range, List.map_map, show min k 8 = k by omega]
  rfl
theorem bk_in {s : ByteArray} (h : s.size = 96) : ∀ y ∈ ([bkV s 0, bkV s 1, bkV s 2, bkV s 3, bkV s 4, bkV s 5, bkV s 6, bkV s 7] : List Int), 0 ≤ y ∧ y < 65536 := by
  intro y hy
  have e : ([bkV s 0, bkV s 1, bkV s 2, bkV s 3, bkV s 4, bkV s 5, bkV s 6, bkV s 7] : List Int) = (List.range 8).map (bkV s) := rfl
  rw [e] at hy
  obtain ⟨i, hi, rfl⟩ := List.mem_map.1 hy
  have := List.mem_range.1 hi
  exact num2_lt s (13 + 2 * i) (by omega)
theorem in_holds {W : World} {n : I} {m0 m1 m2 m3 m4 m5 m6 : Int} {r0 r1 r2 : Value} (h : n.kind = m0 ∧ n.mode = m1 ∧ n.uid = m2 ∧ n.gid = m3 ∧ n.links = m4 ∧ n.size = m5 ∧ n.tick = m6) (h0 : NiF.Holds W r0 n.blocks) (h1 : AeF.Holds W r1 n.acl) (h2 : AeF.Holds W r2 n.dflt) : In.Holds W (.agg #[.int .i64 m0, .int .i64 m1, .int .i64 m2, .int .i64 m3, .int .i64 m4, .int .i64 m5, .int .i64 m6, r0, r1, r2]) n := by
  obtain ⟨rfl, rfl, rfl, rfl, rfl, rfl, rfl⟩ := h
  exact ⟨r0, r1, r2, rfl, h0, h1, h2⟩
theorem in_own {W : World} {B : Nat} {n : I} {m0 m1 m2 m3 m4 m5 m6 : Int} {r0 r1 r2 : Value} {S0 S1 S2 : List Nat} (h : n.kind = m0 ∧ n.mode = m1 ∧ n.uid = m2 ∧ n.gid = m3 ∧ n.links = m4 ∧ n.size = m5 ∧ n.tick = m6) (h0 : NiF.Own W B r0 n.blocks S0) (h1 : AeF.Own W B r1 n.acl S1) (h2 : AeF.Own W B r2 n.dflt S2) (a01 : Apart S0 S1) (a02 : Apart S0 S2) (a12 : Apart S1 S2) : In.Own W B (.agg #[.int .i64 m0, .int .i64 m1, .int .i64 m2, .int .i64 m3, .int .i64 m4, .int .i64 m5, .int .i64 m6, r0, r1, r2]) n (S0 ++ S1 ++ S2) := by
  obtain ⟨rfl, rfl, rfl, rfl, rfl, rfl, rfl⟩ := h
  exact ⟨r0, r1, r2, S0, S1, S2, rfl, rfl, nodup_app (nodup_app (NiF.own_nodup h0) (AeF.own_nodup h1) a01) (AeF.own_nodup h2) (apart_app.2 ⟨a02, a12⟩), h0, h1, h2⟩
theorem not_empty {P : ByteArray} (h : P ≠ ⟨#[]⟩) : P.toList.isEmpty = false := by
  cases hl : P.toList.isEmpty
  · rfl
  · refine absurd ?_ h
    rw [List.isEmpty_iff, ByteArray.toList_eq] at hl
    exact AclP.ext hl
theorem need_nn {n : Int} (h0 : 0 ≤ n) (h : n < 65536) : 0 ≤ needV n ∧ needV n ≤ 2048 := by
  unfold needV
  split <;> omega

set_option maxRecDepth 100000 in
set_option maxHeartbeats 6400000 in
theorem unpack_any (s : ByteArray) (w : World) (hs : s.size ≤ 1048576) (hv : Vars w) :
    Calls Tryd.prog 8 #[.string s] w fun e w' => ∃ v S, e = .returned (.tuple #[v, .bool (unpackI s).2]) ∧ In.Own w' w.heap.size v (unpackI s).1 S ∧ Below w.heap.size w w' := by
  have HB := Lib.hid ((Below.refl w.heap.size w).alloc (Nat.le_refl _) (.cells #[.int .i64 0, .int .i64 0, .int .i64 0, .int .i64 0, .int .i64 0, .int .i64 0, .int .i64 0, .slice none 0 0, .slice none 0 0, .slice none 0 0] 26))
  have HR := Lib.hid (new w #[.int .i64 0, .int .i64 0, .int .i64 0, .int .i64 0, .int .i64 0, .int .i64 0, .int .i64 0, .slice none 0 0, .slice none 0 0, .slice none 0 0] 26)
  by_cases h96 : s.size = 96
  · have HLE := Lib.hid (fun a b (h : a + b ≤ 96) => show a + b ≤ s.size by omega)
    have hn5 := num2_lt s 7 (by omega)
    have hnd := need_nn hn5.1 hn5.2
    have HBL := Lib.hid (fun W => list_any W (bkV s 0) (bkV s 1) (bkV s 2) (bkV s 3) (bkV s 4) (bkV s 5) (bkV s 6) (bkV s 7) (needV (num s 7 2)) hnd.1 (by omega) (bk_in h96))
    rw [show predL _ (min (needV (num s 7 2)).toNat 8) = (readI s).blocks from pred_read s (needN s) (need_le s)] at HBL
    have HRB := Lib.hid (fun W => InUp.blocks_any s W h96)
    have HNU := Lib.hid (fun W hv => InUp.numbers_any s W h96 hv)
    have HND := Lib.hid (fun W => FlK.still (InEq.need_impl (num s 7 2) W (by unfold Rg; omega)))
    have HYES := Lib.hid (fun h => un_yes h96 h)
    have HNO := Lib.hid (fun h => un_no (s := s) h)
    have HA1 := Lib.hid (fun W => AclU.impl_any (s.extract 29 48) W (by rw [ByteArray.size_extract]; omega))
    have HA2 := Lib.hid (fun W => AclU.impl_any (s.extract 48 67) W (by rw [ByteArray.size_extract]; omega))
    rw [show (AclU.resR (unpackV (s.extract 29 48))).1 = (readI s).acl from opt_res _] at HA1
    rw [show (AclU.resR (unpackV (s.extract 48 67))).1 = (readI s).dflt from opt_res _] at HA2
    have HPK := Lib.hid (fun W v (hv : Vars W) (h : In.Holds W v (readI s)) => InPi.pack_any W v (readI s) (Nat.le_trans (read_cost s) (by omega)) (read_rg h96) hv h)
    have hz96 : ((s.size : Int) != 96) = false := by simp [h96]
    have hz97 : ((s.size : Int) == 96) = true := by simp [h96]
    have hz48 : (48 : Int) ≤ (s.size : Int) := by omega
    have hz67 : (67 : Int) ≤ (s.size : Int) := by omega
    have HV := Lib.hid hv
    have HFLD := Lib.hid (show (readI s).kind = num s 0 1 ∧ (readI s).mode = num s 1 2 ∧ (readI s).uid = num s 3 1 ∧ (readI s).gid = num s 4 1 ∧ (readI s).links = num s 5 2 ∧ (readI s).size = num s 7 2 ∧ (readI s).tick = num s 9 4 from ⟨rfl, rfl, rfl, rfl, rfl, rfl, rfl⟩)
    have HUN := Lib.hid (show ∃ N, N = readI s from ⟨_, rfl⟩)
    clear h96 hv hn5 hnd
    go_enter Tryd.func8, Tryd.ntmps8
    go_wp2_with fail
    refine (HNU.out _ (HV.out.all HB.out)).mono ?_
    rintro e w1 ⟨rfl, hb⟩
    replace HR := Lib.hid (HR.out.all hb)
    replace HB := Lib.hid (HB.out.trans (hb.mono HB.out.size))
    have s1 := hb.size
    simp only [World.size_alloc] at s1
    clear hb
    generalize InoV.num s 0 1 = m0 at HFLD HBL HND ⊢
    generalize InoV.num s 1 2 = m1 at HFLD HBL HND ⊢
    generalize InoV.num s 3 1 = m2 at HFLD HBL HND ⊢
    generalize InoV.num s 4 1 = m3 at HFLD HBL HND ⊢
    generalize InoV.num s 5 2 = m4 at HFLD HBL HND ⊢
    generalize InoV.num s 7 2 = m5 at HFLD HBL HND ⊢
    generalize InoV.num s 9 4 = m6 at HFLD HBL HND ⊢
    go_wp2_with fail
    refine (InUp.inode_any _ m0 m1 m2 m3 m4 m5 m6).mono ?_
    rintro e w2 ⟨rfl, hb⟩
    replace HR := Lib.hid (HR.out.all hb)
    replace HB := Lib.hid (HB.out.trans (hb.mono HB.out.size))
    have s2 := hb.size
    clear hb
    have hbx := Joins.below_alloc1 w2 (.cells #[.int .i64 m0, .int .i64 m1, .int .i64 m2, .int .i64 m3, .int .i64 m4, .int .i64 m5, .int .i64 m6, .slice none 0 0, .slice none 0 0, .slice none 0 0] 26)
    replace HR := Lib.hid (HR.out.all hbx)
    replace HB := Lib.hid (HB.out.trans (hbx.mono HB.out.size))
    have HX := Lib.hid (new w2 #[.int .i64 m0, .int .i64 m1, .int .i64 m2, .int .i64 m3, .int .i64 m4, .int .i64 m5, .int .i64 m6, .slice none 0 0, .slice none 0 0, .slice none 0 0] 26)
    clear hbx
    obtain ⟨x0, x1, x2, x3, x4, x5, x6, x7, x8, x9⟩ := Bk.c10 HX.out
    have xf7 := HX.out.free 7
    have TK := Lib.hid trivial
    generalize bkV s 0 = y0 at HRB HBL
    generalize bkV s 1 = y1 at HRB HBL
    generalize bkV s 2 = y2 at HRB HBL
    generalize bkV s 3 = y3 at HRB HBL
    generalize bkV s 4 = y4 at HRB HBL
    generalize bkV s 5 = y5 at HRB HBL
    generalize bkV s 6 = y6 at HRB HBL
    generalize bkV s 7 = y7 at HRB HBL
    generalize needV m5 = nd at HND HBL
    have BX : ∃ b, b = w2.heap.size := ⟨_, rfl⟩
    go_wp2
    go_region_held3 (fun wz => wz.cell? ⟨w2.heap.size, 5, none⟩ = some (.int .i64 m5)) (first | exact HX.out.cell 5 | exact (HX.out.put 7 _).cell 5 | go_keep)
      (first
        | (go_at_call 26; (try (have _q := TK.out; clear _q TK; replace HB := Lib.hid HB.out.drew; replace HX := Lib.hid (Bx.Bk.drew HX.out); replace HR := Lib.hid (Bx.Bk.drew HR.out))); with_reducible refine (HRB.out _).mono ?_; rintro e wa ⟨rfl, hb⟩; replace HX := Lib.hid (Bx.Bk.all HX.out hb); replace HR := Lib.hid (Bx.Bk.all HR.out hb); replace HB := Lib.hid (HB.out.trans (hb.mono HB.out.size)); have sa := hb.size; (try simp only [World.size_alloc, World.size_drew] at sa); clear hb)
        | (go_at_call 13; (try (have _q := TK.out; clear _q TK; replace HB := Lib.hid HB.out.drew; replace HX := Lib.hid (Bx.Bk.drew HX.out); replace HR := Lib.hid (Bx.Bk.drew HR.out))); with_reducible refine (HND.out _).mono ?_; rintro e wb ⟨rfl, hb⟩; replace HX := Lib.hid (Bx.Bk.all HX.out hb); replace HR := Lib.hid (Bx.Bk.all HR.out hb); replace HB := Lib.hid (HB.out.trans (hb.mono HB.out.size)); have sb := hb.size; (try simp only [World.size_alloc, World.size_drew] at sb); clear hb)
        | (go_at_call 27; with_reducible refine (HBL.out _).mono ?_; rintro e wc ⟨sv, SB, rfl, hown, hb⟩; obtain ⟨ba, bc, rfl⟩ := NiF.own_form hown; have hlies := NiF.own_lies hown; have HOB := Lib.hid (NiF.own_mono hown (base' := w2.heap.size + 1) (by omega)); have HLB := Lib.hid (Lies.wide hlies (show w2.heap.size + 1 ≤ _ by omega) (Nat.le_refl _)); clear hown hlies; replace HX := Lib.hid (Bx.Bk.all HX.out hb); replace HR := Lib.hid (Bx.Bk.all HR.out hb); replace HB := Lib.hid (HB.out.trans (hb.mono HB.out.size)); have sc := hb.size; have xc7 := HX.out.cell 7; have xf9 := HX.out.free 7; clear hb))
    clear x0 x1 x2 x3 x4 x5 x6 x7 x8 x9 xf7 xc7 xf9 BX
    have hX : Bk _ _ #[.int .i64 m0, .int .i64 m1, .int .i64 m2, .int .i64 m3, .int .i64 m4, .int .i64 m5, .int .i64 m6, (.slice ba (readI s).blocks.length bc), .slice none 0 0, .slice none 0 0] _ := HX.out.put 7 (.slice ba (readI s).blocks.length bc)
    have hR := HR.out.far (p := ⟨w2.heap.size, 7, none⟩) (by simp; omega) (.slice ba (readI s).blocks.length bc)
    have hB := HB.out.setCell (p := ⟨w2.heap.size, 7, none⟩) (by simp; omega) (.slice ba (readI s).blocks.length bc)
    have hO := NiF.own_set HOB.out (a := ⟨w2.heap.size, 7, none⟩) (by simp) (.slice ba (readI s).blocks.length bc)
    have sd : wc.heap.size ≤ (wc.setCell ⟨w2.heap.size, 7, none⟩ (.slice ba (readI s).blocks.length bc)).heap.size := by simp
    generalize wc.setCell ⟨w2.heap.size, 7, none⟩ (.slice ba (readI s).blocks.length bc) = wd at hX hR hB hO sd ⊢
    replace HX := Lib.hid hX
    replace HR := Lib.hid hR
    replace HB := Lib.hid hB
    replace HOB := Lib.hid hO
    clear hX hR hB hO
    go_wp2_with fail
    refine (HA1.out _).mono ?_
    rintro e we ⟨va, rfl, hown, hb⟩
    obtain ⟨aa, ac, rfl⟩ := Dk.slice_of hown
    have se := hb.size
    replace HX := Lib.hid (HX.out.all hb)
    replace HR := Lib.hid (HR.out.all hb)
    replace HOB := Lib.hid (NiF.own_below HOB.out hb)
    replace HB := Lib.hid (HB.out.trans (hb.mono HB.out.size))
    have HLA := Lib.hid (row_lies hown)
    have HOA := Lib.hid (show AeF.Own we (w2.heap.size + 1) _ (readI s).acl (fpR (.slice aa (readI s).acl.length ac)) from AeF.own_mono (show AeF.Own we _ _ _ _ from ⟨hown, rfl⟩) (by omega))
    clear hown hb
    have xc8 : we.cell? ⟨w2.heap.size, 8, none⟩ = some (.slice none 0 0) := HX.out.cell 8
    have xf8 := HX.out.free 8
    have hX : Bk _ _ #[.int .i64 m0, .int .i64 m1, .int .i64 m2, .int .i64 m3, .int .i64 m4, .int .i64 m5, .int .i64 m6, (.slice ba (readI s).blocks.length bc), (.slice aa (readI s).acl.length ac), .slice none 0 0] _ := HX.out.put 8 (.slice aa (readI s).acl.length ac)
    have hR := HR.out.far (p := ⟨w2.heap.size, 8, none⟩) (by first | (simp; done) | (simp; omega)) (.slice aa (readI s).acl.length ac)
    have hB := HB.out.setCell (p := ⟨w2.heap.size, 8, none⟩) (by first | (simp; done) | (simp; omega)) (.slice aa (readI s).acl.length ac)
    have hO := NiF.own_set HOB.out (a := ⟨w2.heap.size, 8, none⟩) (by simp) (.slice aa (readI s).acl.length ac)
    have hA := AeF.own_set HOA.out (a := ⟨w2.heap.size, 8, none⟩) (by simp) (.slice aa (readI s).acl.length ac)
    replace HX := Lib.hid hX
    replace HR := Lib.hid hR
    replace HB := Lib.hid hB
    replace HOB := Lib.hid hO
    replace HOA := Lib.hid hA
    clear hX hR hB hO hA
    go_wp2_with fail
    clear xc8 xf8
    refine (HA2.out _).mono ?_
    rintro e wg ⟨vd, rfl, hown, hb⟩
    obtain ⟨da, dc, rfl⟩ := Dk.slice_of hown
    have sg := hb.size
    simp only [World.size_setCell] at sg
    replace HX := Lib.hid (HX.out.all hb)
    replace HR := Lib.hid (HR.out.all hb)
    replace HOB := Lib.hid (NiF.own_below HOB.out hb)
    replace HOA := Lib.hid (AeF.own_below HOA.out hb)
    replace HB := Lib.hid (HB.out.trans (hb.mono HB.out.size))
    have hld := row_lies hown
    simp only [World.size_setCell] at hown hld
    have HLD := Lib.hid hld
    have HOD := Lib.hid (show AeF.Own wg (w2.heap.size + 1) _ (readI s).dflt (fpR (.slice da (readI s).dflt.length dc)) from AeF.own_mono (show AeF.Own wg _ _ _ _ from ⟨hown, rfl⟩) (by omega))
    clear hown hb hld
    have xc9 : wg.cell? ⟨w2.heap.size, 9, none⟩ = some (.slice none 0 0) := HX.out.cell 9
    have xf9 := HX.out.free 9
    have hX : Bk _ _ #[.int .i64 m0, .int .i64 m1, .int .i64 m2, .int .i64 m3, .int .i64 m4, .int .i64 m5, .int .i64 m6, (.slice ba (readI s).blocks.length bc), (.slice aa (readI s).acl.length ac), (.slice da (readI s).dflt.length dc)] _ := HX.out.put 9 (.slice da (readI s).dflt.length dc)
    have hR := HR.out.far (p := ⟨w2.heap.size, 9, none⟩) (by first | (simp; done) | (simp; omega)) (.slice da (readI s).dflt.length dc)
    have hB := HB.out.setCell (p := ⟨w2.heap.size, 9, none⟩) (by first | (simp; done) | (simp; omega)) (.slice da (readI s).dflt.length dc)
    have hO := NiF.own_set HOB.out (a := ⟨w2.heap.size, 9, none⟩) (by simp) (.slice da (readI s).dflt.length dc)
    have hA := AeF.own_set HOA.out (a := ⟨w2.heap.size, 9, none⟩) (by simp) (.slice da (readI s).dflt.length dc)
    have hD := AeF.own_set HOD.out (a := ⟨w2.heap.size, 9, none⟩) (by simp) (.slice da (readI s).dflt.length dc)
    replace HX := Lib.hid hX
    replace HR := Lib.hid hR
    replace HB := Lib.hid hB
    replace HOB := Lib.hid hO
    replace HOA := Lib.hid hA
    replace HOD := Lib.hid hD
    clear hX hR hB hO hA hD
    have sh : wg.heap.size ≤ (wg.setCell ⟨w2.heap.size, 9, none⟩ (.slice da (readI s).dflt.length dc)).heap.size := by simp
    obtain ⟨x0, x1, x2, x3, x4, x5, x6, x7, x8, x9⟩ := Bk.c10 HX.out
    have HIH := Lib.hid (fun (W : World) (hb : Below (wg.setCell ⟨w2.heap.size, 9, none⟩ (.slice da (readI s).dflt.length dc)).heap.size (wg.setCell ⟨w2.heap.size, 9, none⟩ (.slice da (readI s).dflt.length dc)) W) => in_holds HFLD.out (NiF.own_holds (NiF.own_below HOB.out hb)) (AeF.own_holds (AeF.own_below HOA.out hb)) (AeF.own_holds (AeF.own_below HOD.out hb)))
    have HOWN := Lib.hid (fun (W : World) (hb : Below (wg.setCell ⟨w2.heap.size, 9, none⟩ (.slice da (readI s).dflt.length dc)).heap.size (wg.setCell ⟨w2.heap.size, 9, none⟩ (.slice da (readI s).dflt.length dc)) W) => in_own HFLD.out (NiF.own_below HOB.out hb) (AeF.own_below HOA.out hb) (AeF.own_below HOD.out hb) (Lies.apart HLB.out HLA.out (by omega)) (Lies.apart HLB.out HLD.out (by omega)) (Lies.apart HLA.out HLD.out (by omega)))
    clear HOB HOA HOD
    go_wp2_with fail
    clear xc9 xf9
    generalize wg.setCell ⟨w2.heap.size, 9, none⟩ (.slice da (readI s).dflt.length dc) = wh at HIH HOWN HX HR HB sh x0 x1 x2 x3 x4 x5 x6 x7 x8 x9 ⊢
    refine (HPK.out _ (.agg #[.int .i64 m0, .int .i64 m1, .int .i64 m2, .int .i64 m3, .int .i64 m4, .int .i64 m5, .int .i64 m6, .slice ba (readI s).blocks.length bc, .slice aa (readI s).acl.length ac, .slice da (readI s).dflt.length dc]) (HV.out.all HB.out) (HIH.out _ (Below.refl _ _))).mono ?_
    rintro e wi ⟨rfl, hb⟩
    replace HX := Lib.hid (HX.out.all hb)
    replace HR := Lib.hid (HR.out.all hb)
    replace HB := Lib.hid (HB.out.trans (hb.mono HB.out.size))
    clear x0 x1 x2 x3 x4 x5 x6 x7 x8 x9
    have HBB := Lib.hid hb
    clear hb
    by_cases he : packI (readI s) = s
    · have HU := Lib.hid (HYES.out he)
      rw [he]
      clear he
      obtain ⟨z0, z1, z2, z3, z4, z5, z6, z7, z8, z9⟩ := Bk.c10 HR.out
      have ze0 := HR.out.free 0
      have ze1 := HR.out.free 1
      have ze2 := HR.out.free 2
      have ze3 := HR.out.free 3
      have ze4 := HR.out.free 4
      have ze5 := HR.out.free 5
      have ze6 := HR.out.free 6
      have ze7 := HR.out.free 7
      have ze8 := HR.out.free 8
      have ze9 := HR.out.free 9
      obtain ⟨x0, x1, x2, x3, x4, x5, x6, x7, x8, x9⟩ := Bk.c10 HX.out
      go_wp2_with fail
      have hO9 := HOWN.out wi HBB.out
      have hF0 := HR.out
      have hF1 : Bk _ _ #[.int .i64 m0, .int .i64 0, .int .i64 0, .int .i64 0, .int .i64 0, .int .i64 0, .int .i64 0, .slice none 0 0, .slice none 0 0, .slice none 0 0] _ := hF0.put 0 (.int .i64 m0)
      clear hF0
      have hF2 : Bk _ _ #[.int .i64 m0, .int .i64 m1, .int .i64 0, .int .i64 0, .int .i64 0, .int .i64 0, .int .i64 0, .slice none 0 0, .slice none 0 0, .slice none 0 0] _ := hF1.put 1 (.int .i64 m1)
      clear hF1
      have hF3 : Bk _ _ #[.int .i64 m0, .int .i64 m1, .int .i64 m2, .int .i64 0, .int .i64 0, .int .i64 0, .int .i64 0, .slice none 0 0, .slice none 0 0, .slice none 0 0] _ := hF2.put 2 (.int .i64 m2)
      clear hF2
      have hF4 : Bk _ _ #[.int .i64 m0, .int .i64 m1, .int .i64 m2, .int .i64 m3, .int .i64 0, .int .i64 0, .int .i64 0, .slice none 0 0, .slice none 0 0, .slice none 0 0] _ := hF3.put 3 (.int .i64 m3)
      clear hF3
      have hF5 : Bk _ _ #[.int .i64 m0, .int .i64 m1, .int .i64 m2, .int .i64 m3, .int .i64 m4, .int .i64 0, .int .i64 0, .slice none 0 0, .slice none 0 0, .slice none 0 0] _ := hF4.put 4 (.int .i64 m4)
      clear hF4
      have hF6 : Bk _ _ #[.int .i64 m0, .int .i64 m1, .int .i64 m2, .int .i64 m3, .int .i64 m4, .int .i64 m5, .int .i64 0, .slice none 0 0, .slice none 0 0, .slice none 0 0] _ := hF5.put 5 (.int .i64 m5)
      clear hF5
      have hF7 : Bk _ _ #[.int .i64 m0, .int .i64 m1, .int .i64 m2, .int .i64 m3, .int .i64 m4, .int .i64 m5, .int .i64 m6, .slice none 0 0, .slice none 0 0, .slice none 0 0] _ := hF6.put 6 (.int .i64 m6)
      clear hF6
      have hF8 : Bk _ _ #[.int .i64 m0, .int .i64 m1, .int .i64 m2, .int .i64 m3, .int .i64 m4, .int .i64 m5, .int .i64 m6, .slice ba (readI s).blocks.length bc, .slice none 0 0, .slice none 0 0] _ := hF7.put 7 (.slice ba (readI s).blocks.length bc)
      clear hF7
      have hF9 : Bk _ _ #[.int .i64 m0, .int .i64 m1, .int .i64 m2, .int .i64 m3, .int .i64 m4, .int .i64 m5, .int .i64 m6, .slice ba (readI s).blocks.length bc, .slice aa (readI s).acl.length ac, .slice none 0 0] _ := hF8.put 8 (.slice aa (readI s).acl.length ac)
      clear hF8
      have hF10 : Bk _ _ #[.int .i64 m0, .int .i64 m1, .int .i64 m2, .int .i64 m3, .int .i64 m4, .int .i64 m5, .int .i64 m6, .slice ba (readI s).blocks.length bc, .slice aa (readI s).acl.length ac, .slice da (readI s).dflt.length dc] _ := hF9.put 9 (.slice da (readI s).dflt.length dc)
      clear hF9
      have hB9 := ((((((((((HB.out.setCell (p := ⟨w.heap.size, 0, none⟩) (Nat.le_refl _) (.int .i64 m0)).setCell (p := ⟨w.heap.size, 1, none⟩) (Nat.le_refl _) (.int .i64 m1)).setCell (p := ⟨w.heap.size, 2, none⟩) (Nat.le_refl _) (.int .i64 m2)).setCell (p := ⟨w.heap.size, 3, none⟩) (Nat.le_refl _) (.int .i64 m3)).setCell (p := ⟨w.heap.size, 4, none⟩) (Nat.le_refl _) (.int .i64 m4)).setCell (p := ⟨w.heap.size, 5, none⟩) (Nat.le_refl _) (.int .i64 m5)).setCell (p := ⟨w.heap.size, 6, none⟩) (Nat.le_refl _) (.int .i64 m6)).setCell (p := ⟨w.heap.size, 7, none⟩) (Nat.le_refl _) (.slice ba (readI s).blocks.length bc)).setCell (p := ⟨w.heap.size, 8, none⟩) (Nat.le_refl _) (.slice aa (readI s).acl.length ac)).setCell (p := ⟨w.heap.size, 9, none⟩) (Nat.le_refl _) (.slice da (readI s).dflt.length dc))
      have hOF := (In.own_set (In.own_set (In.own_set (In.own_set (In.own_set (In.own_set (In.own_set (In.own_set (In.own_set (In.own_set hO9 (a := ⟨w.heap.size, 0, none⟩) (by simp; omega) (.int .i64 m0)) (a := ⟨w.heap.size, 1, none⟩) (by simp; omega) (.int .i64 m1)) (a := ⟨w.heap.size, 2, none⟩) (by simp; omega) (.int .i64 m2)) (a := ⟨w.heap.size, 3, none⟩) (by simp; omega) (.int .i64 m3)) (a := ⟨w.heap.size, 4, none⟩) (by simp; omega) (.int .i64 m4)) (a := ⟨w.heap.size, 5, none⟩) (by simp; omega) (.int .i64 m5)) (a := ⟨w.heap.size, 6, none⟩) (by simp; omega) (.int .i64 m6)) (a := ⟨w.heap.size, 7, none⟩) (by simp; omega) (.slice ba (readI s).blocks.length bc)) (a := ⟨w.heap.size, 8, none⟩) (by simp; omega) (.slice aa (readI s).acl.length ac)) (a := ⟨w.heap.size, 9, none⟩) (by simp; omega) (.slice da (readI s).dflt.length dc))
      generalize ((((((((((wi.setCell ⟨w.heap.size, 0, none⟩ (.int .i64 m0)).setCell ⟨w.heap.size, 1, none⟩ (.int .i64 m1)).setCell ⟨w.heap.size, 2, none⟩ (.int .i64 m2)).setCell ⟨w.heap.size, 3, none⟩ (.int .i64 m3)).setCell ⟨w.heap.size, 4, none⟩ (.int .i64 m4)).setCell ⟨w.heap.size, 5, none⟩ (.int .i64 m5)).setCell ⟨w.heap.size, 6, none⟩ (.int .i64 m6)).setCell ⟨w.heap.size, 7, none⟩ (.slice ba (readI s).blocks.length bc)).setCell ⟨w.heap.size, 8, none⟩ (.slice aa (readI s).acl.length ac)).setCell ⟨w.heap.size, 9, none⟩ (.slice da (readI s).dflt.length dc)) = w9 at hF10 hB9 hOF ⊢
      have fc0 : w9.cell? ⟨w.heap.size, 0, none⟩ = some (.int .i64 m0) := hF10.cell 0
      have fc1 : w9.cell? ⟨w.heap.size, 1, none⟩ = some (.int .i64 m1) := hF10.cell 1
      have fc2 : w9.cell? ⟨w.heap.size, 2, none⟩ = some (.int .i64 m2) := hF10.cell 2
      have fc3 : w9.cell? ⟨w.heap.size, 3, none⟩ = some (.int .i64 m3) := hF10.cell 3
      have fc4 : w9.cell? ⟨w.heap.size, 4, none⟩ = some (.int .i64 m4) := hF10.cell 4
      have fc5 : w9.cell? ⟨w.heap.size, 5, none⟩ = some (.int .i64 m5) := hF10.cell 5
      have fc6 : w9.cell? ⟨w.heap.size, 6, none⟩ = some (.int .i64 m6) := hF10.cell 6
      have fc7 : w9.cell? ⟨w.heap.size, 7, none⟩ = some (.slice ba (readI s).blocks.length bc) := hF10.cell 7
      have fc8 : w9.cell? ⟨w.heap.size, 8, none⟩ = some (.slice aa (readI s).acl.length ac) := hF10.cell 8
      have fc9 : w9.cell? ⟨w.heap.size, 9, none⟩ = some (.slice da (readI s).dflt.length dc) := hF10.cell 9
      exact bodyPost_ret (v := .tuple #[.agg #[.int .i64 m0, .int .i64 m1, .int .i64 m2, .int .i64 m3, .int .i64 m4, .int .i64 m5, .int .i64 m6, .slice ba (readI s).blocks.length bc, .slice aa (readI s).acl.length ac, .slice da (readI s).dflt.length dc], .bool true]) (by simp [results, Tryd.results8, go_sem, fc0, fc1, fc2, fc3, fc4, fc5, fc6, fc7, fc8, fc9]) rfl ⟨_, _, by rw [HU.out], by rw [HU.out]; exact In.own_mono hOF (by omega), hB9⟩
    · have HU := Lib.hid (HNO.out he)
      have hne := AclU.str_ne he
      clear he
      generalize packI (readI s) = P at hne
      obtain ⟨z0, z1, z2, z3, z4, z5, z6, z7, z8, z9⟩ := Bk.c10 HR.out
      have ze0 := HR.out.free 0
      have ze1 := HR.out.free 1
      have ze2 := HR.out.free 2
      have ze3 := HR.out.free 3
      have ze4 := HR.out.free 4
      have ze5 := HR.out.free 5
      have ze6 := HR.out.free 6
      have ze7 := HR.out.free 7
      have ze8 := HR.out.free 8
      have ze9 := HR.out.free 9
      go_wp2_with fail
      have hF0 := HR.out
      have hF1 : Bk _ _ #[.int .i64 0, .int .i64 0, .int .i64 0, .int .i64 0, .int .i64 0, .int .i64 0, .int .i64 0, .slice none 0 0, .slice none 0 0, .slice none 0 0] _ := hF0.put 0 (.int .i64 0)
      clear hF0
      have hF2 : Bk _ _ #[.int .i64 0, .int .i64 0, .int .i64 0, .int .i64 0, .int .i64 0, .int .i64 0, .int .i64 0, .slice none 0 0, .slice none 0 0, .slice none 0 0] _ := hF1.put 1 (.int .i64 0)
      clear hF1
      have hF3 : Bk _ _ #[.int .i64 0, .int .i64 0, .int .i64 0, .int .i64 0, .int .i64 0, .int .i64 0, .int .i64 0, .slice none 0 0, .slice none 0 0, .slice none 0 0] _ := hF2.put 2 (.int .i64 0)
      clear hF2
      have hF4 : Bk _ _ #[.int .i64 0, .int .i64 0, .int .i64 0, .int .i64 0, .int .i64 0, .int .i64 0, .int .i64 0, .slice none 0 0, .slice none 0 0, .slice none 0 0] _ := hF3.put 3 (.int .i64 0)
      clear hF3
      have hF5 : Bk _ _ #[.int .i64 0, .int .i64 0, .int .i64 0, .int .i64 0, .int .i64 0, .int .i64 0, .int .i64 0, .slice none 0 0, .slice none 0 0, .slice none 0 0] _ := hF4.put 4 (.int .i64 0)
      clear hF4
      have hF6 : Bk _ _ #[.int .i64 0, .int .i64 0, .int .i64 0, .int .i64 0, .int .i64 0, .int .i64 0, .int .i64 0, .slice none 0 0, .slice none 0 0, .slice none 0 0] _ := hF5.put 5 (.int .i64 0)
      clear hF5
      have hF7 : Bk _ _ #[.int .i64 0, .int .i64 0, .int .i64 0, .int .i64 0, .int .i64 0, .int .i64 0, .int .i64 0, .slice none 0 0, .slice none 0 0, .slice none 0 0] _ := hF6.put 6 (.int .i64 0)
      clear hF6
      have hF8 : Bk _ _ #[.int .i64 0, .int .i64 0, .int .i64 0, .int .i64 0, .int .i64 0, .int .i64 0, .int .i64 0, .slice none 0 0, .slice none 0 0, .slice none 0 0] _ := hF7.put 7 (.slice none 0 0)
      clear hF7
      have hF9 : Bk _ _ #[.int .i64 0, .int .i64 0, .int .i64 0, .int .i64 0, .int .i64 0, .int .i64 0, .int .i64 0, .slice none 0 0, .slice none 0 0, .slice none 0 0] _ := hF8.put 8 (.slice none 0 0)
      clear hF8
      have hF10 : Bk _ _ #[.int .i64 0, .int .i64 0, .int .i64 0, .int .i64 0, .int .i64 0, .int .i64 0, .int .i64 0, .slice none 0 0, .slice none 0 0, .slice none 0 0] _ := hF9.put 9 (.slice none 0 0)
      clear hF9
      have hB9 := ((((((((((HB.out.setCell (p := ⟨w.heap.size, 0, none⟩) (Nat.le_refl _) (.int .i64 0)).setCell (p := ⟨w.heap.size, 1, none⟩) (Nat.le_refl _) (.int .i64 0)).setCell (p := ⟨w.heap.size, 2, none⟩) (Nat.le_refl _) (.int .i64 0)).setCell (p := ⟨w.heap.size, 3, none⟩) (Nat.le_refl _) (.int .i64 0)).setCell (p := ⟨w.heap.size, 4, none⟩) (Nat.le_refl _) (.int .i64 0)).setCell (p := ⟨w.heap.size, 5, none⟩) (Nat.le_refl _) (.int .i64 0)).setCell (p := ⟨w.heap.size, 6, none⟩) (Nat.le_refl _) (.int .i64 0)).setCell (p := ⟨w.heap.size, 7, none⟩) (Nat.le_refl _) (.slice none 0 0)).setCell (p := ⟨w.heap.size, 8, none⟩) (Nat.le_refl _) (.slice none 0 0)).setCell (p := ⟨w.heap.size, 9, none⟩) (Nat.le_refl _) (.slice none 0 0))
      generalize ((((((((((wi.setCell ⟨w.heap.size, 0, none⟩ (.int .i64 0)).setCell ⟨w.heap.size, 1, none⟩ (.int .i64 0)).setCell ⟨w.heap.size, 2, none⟩ (.int .i64 0)).setCell ⟨w.heap.size, 3, none⟩ (.int .i64 0)).setCell ⟨w.heap.size, 4, none⟩ (.int .i64 0)).setCell ⟨w.heap.size, 5, none⟩ (.int .i64 0)).setCell ⟨w.heap.size, 6, none⟩ (.int .i64 0)).setCell ⟨w.heap.size, 7, none⟩ (.slice none 0 0)).setCell ⟨w.heap.size, 8, none⟩ (.slice none 0 0)).setCell ⟨w.heap.size, 9, none⟩ (.slice none 0 0)) = w9 at hF10 hB9 ⊢
      have fc0 : w9.cell? ⟨w.heap.size, 0, none⟩ = some (.int .i64 0) := hF10.cell 0
      have fc1 : w9.cell? ⟨w.heap.size, 1, none⟩ = some (.int .i64 0) := hF10.cell 1
      have fc2 : w9.cell? ⟨w.heap.size, 2, none⟩ = some (.int .i64 0) := hF10.cell 2
      have fc3 : w9.cell? ⟨w.heap.size, 3, none⟩ = some (.int .i64 0) := hF10.cell 3
      have fc4 : w9.cell? ⟨w.heap.size, 4, none⟩ = some (.int .i64 0) := hF10.cell 4
      have fc5 : w9.cell? ⟨w.heap.size, 5, none⟩ = some (.int .i64 0) := hF10.cell 5
      have fc6 : w9.cell? ⟨w.heap.size, 6, none⟩ = some (.int .i64 0) := hF10.cell 6
      have fc7 : w9.cell? ⟨w.heap.size, 7, none⟩ = some (.slice none 0 0) := hF10.cell 7
      have fc8 : w9.cell? ⟨w.heap.size, 8, none⟩ = some (.slice none 0 0) := hF10.cell 8
      have fc9 : w9.cell? ⟨w.heap.size, 9, none⟩ = some (.slice none 0 0) := hF10.cell 9
      exact bodyPost_ret (v := .tuple #[.agg #[.int .i64 0, .int .i64 0, .int .i64 0, .int .i64 0, .int .i64 0, .int .i64 0, .int .i64 0, .slice none 0 0, .slice none 0 0, .slice none 0 0], .bool false]) (by simp [results, Tryd.results8, go_sem, fc0, fc1, fc2, fc3, fc4, fc5, fc6, fc7, fc8, fc9]) rfl ⟨_, _, by rw [HU.out], by rw [HU.out]; exact zero_own _ _, hB9⟩
  · have HU := Lib.hid (InoV.unpackI_short h96)
    have hz96 : ((s.size : Int) != 96) = true := by simp; exact fun e => h96 (by omega)
    have hz97 : ((s.size : Int) == 96) = false := by simp; exact fun e => h96 (by omega)
    clear h96
    obtain ⟨z0, z1, z2, z3, z4, z5, z6, z7, z8, z9⟩ := Bk.c10 HR.out
    have ze0 := HR.out.free 0
    have ze1 := HR.out.free 1
    have ze2 := HR.out.free 2
    have ze3 := HR.out.free 3
    have ze4 := HR.out.free 4
    have ze5 := HR.out.free 5
    have ze6 := HR.out.free 6
    have ze7 := HR.out.free 7
    have ze8 := HR.out.free 8
    have ze9 := HR.out.free 9
    go_enter Tryd.func8, Tryd.ntmps8
    go_wp2_with fail
    exact bodyPost_ret (v := .tuple #[.agg #[.int .i64 0, .int .i64 0, .int .i64 0, .int .i64 0, .int .i64 0, .int .i64 0, .int .i64 0, .slice none 0 0, .slice none 0 0, .slice none 0 0], .bool false]) (by simp [results, Tryd.results8, go_sem, z0, z1, z2, z3, z4, z5, z6, z7, z8, z9]) rfl ⟨_, _, by rw [HU.out], by rw [HU.out]; exact zero_own _ _, HB.out⟩
end Go.Proofs.YthobdeidjagnhaaDoor.InUi

-- YthobdeidjagnhaaDoorInDr
/- Contracts of the laws' makers: a valid inode out of the drawn code. Conditions: as each theorem types them. -/
namespace Go.Proofs.YthobdeidjagnhaaDoor.InDr
open Go.ChangeShapes Go.WideShapes Go.ChangeAt Go.RowKit
open Cur AclV Bx Foot
open Go.Proofs.YthobdeidjagnhaaDoor.Make (cur_alloc)
open Go.Proofs.YthobdeidjagnhaaDoor.MakeBytes (cur_kept pick_any)
open AclS (forB)
open ADraw (Asc asc_nil asc_mono asc_next asc_mask perms perms_cell perms_in cells3_at own_fresh3 grown_trans grown_row cur_row own_grown once_any)
set_option linter.unusedVariables false

set_option maxRecDepth 100000 in
set_option maxHeartbeats 4000000 in
/-- A valid list, the cursor moved on. -/
theorem draw_cur (w : World) (B g : Nat) (cv : Value) (ns : List Nat) (i : Nat) (h : Int) (hc : IsCur w B g cv ns i h) :
    Calls Tryd.prog 63 #[.pointer (some ⟨g, 0, none⟩)] w fun e w' => ∃ (v : Value) (l : List At), e = .returned v ∧ okB l = true ∧ w'.ownsRow w.heap.size 69 3 v l.length (Ae.cells l) ∧ w.grownBy w' (some g) ∧ ∃ (i' : Nat) (h' : Int), IsCur w' B g cv ns i' h' := by
  obtain ⟨j0, hj, hy0, hy1, hy2⟩ := info_parts Ae.info
  have HJ := Lib.hid hj
  have HY0 := Lib.hid hy0
  have HY1 := Lib.hid hy1
  have HY2 := Lib.hid hy2
  clear hj hy0 hy1 hy2
  have hgl := cur_i64 hc
  have HC := Lib.hid (cur_alloc hc (.cells #[] 69))
  have HO := Lib.hid (own_fresh3 w 69)
  have HG := Lib.hid (World.grownBy_alloc w (.cells #[] 69) (some g))
  clear hc
  go_enter Tryd.func63, Tryd.ntmps63
  go_wp2_with fail
  generalize w.alloc (.cells #[] 69) = w0 at HC HO HG ⊢
  refine (once_any _ _ _ _ _ _ _ 3 (by omega) (by omega) HC.out).mono ?_
  rintro e w1 ⟨b, rfl, hc1, hg1⟩
  replace HC := Lib.hid hc1
  replace HO := Lib.hid (own_grown HO.out hgl hg1)
  replace HG := Lib.hid (grown_trans HG.out hg1)
  clear hc1 hg1
  generalize stepI ns i = i1 at HC
  generalize nextH h = h1 at HC
  cases b with
  | true =>
    go_wp2
    go_ret
    exact ⟨_, [], rfl, AclI.ok_zero rfl, HO.out, HG.out, _, _, HC.out⟩
  | false =>
    go_wp2_with fail
    go_loopw [3, 4] (fun lv tv wr => ∃ (T : Nat) (l : List At) (i : Nat) (h : Int), 1 ≤ T ∧ T ≤ 3 ∧ tv = .int .i64 T ∧ Asc l T 0 ∧ l.length ≤ 4 ∧ wr.ownsRow w.heap.size 69 3 lv l.length (Ae.cells l) ∧ IsCur wr B g cv ns i h ∧ w.grownBy wr (some g)) (fun _ tv _ => 3 - (intOf tv).toNat)
    case atStart => exact ⟨1, [], _, _, by omega, by omega, rfl, asc_nil _ _, by simp, HO.out, HC.out, HG.out⟩
    case round =>
      clear HC HO HG
      obtain ⟨T, l, i, h, hT1, hT3, rfl, hasc, hl4, hown, hc, hg⟩ := hrel
      have HA := Lib.hid hasc
      have HO := Lib.hid hown
      have HC := Lib.hid hc
      have HG := Lib.hid hg
      clear hasc hown hc hg
      by_cases hlt : T ≤ 2
      · have hd2 : decide ((T : Int) ≤ 2) = true := decide_eq_true (by omega)
        go_wp2_with fail
        try rw [hd2]
        go_loopw [3, 5] (fun lv iv wr => ∃ (J : Nat) (l : List At) (i : Nat) (h : Int), 1 ≤ J ∧ J ≤ 4 ∧ iv = .int .i64 J ∧ Asc l T J ∧ l.length ≤ 4 ∧ wr.ownsRow w.heap.size 69 3 lv l.length (Ae.cells l) ∧ IsCur wr B g cv ns i h ∧ w.grownBy wr (some g)) (fun _ iv _ => 4 - (intOf iv).toNat)
        case atStart => exact ⟨1, l, _, _, by omega, by omega, rfl, asc_mono HA.out (.inr ⟨rfl, by omega⟩), hl4, HO.out, HC.out, HG.out⟩
        case round =>
          clear HC HO HG HA hl4
          obtain ⟨J, l, i, h, hJ1, hJ4, rfl, hasc, hl4, hown, hc, hg⟩ := hrel
          have HA := Lib.hid hasc
          have HO := Lib.hid hown
          have HC := Lib.hid hc
          have HG := Lib.hid hg
          obtain ⟨va, vc, rfl⟩ := Dk.slice_of hown
          clear hasc hown hc hg
          by_cases hj : J < 4
          · go_wp2_with fail
            refine (once_any _ _ _ _ _ _ _ 3 (by omega) (by omega) HC.out).mono ?_
            rintro e w2 ⟨b, rfl, hc1, hg1⟩
            replace HC := Lib.hid hc1
            replace HO := Lib.hid (own_grown HO.out hgl hg1)
            replace HG := Lib.hid (grown_trans HG.out hg1)
            clear hc1 hg1
            generalize stepI ns i = i2 at HC
            generalize nextH h = h2 at HC
            cases b with
            | false =>
              go_wp2
              go_roundw
              case rel => exact ⟨J + 1, l, _, _, by omega, by omega, by go_num, asc_mono HA.out (.inr ⟨rfl, by omega⟩), hl4, HO.out, HC.out, HG.out⟩
              case measure => simp [intOf]; omega
            | true =>
              by_cases hll : l.length < 4
              · go_wp2_with fail
                refine (below_any _ _ _ _ _ _ _ 8 (by omega) (by omega) HC.out).mono ?_
                rintro e w3 ⟨rfl, hc1, hg1⟩
                replace HC := Lib.hid hc1
                replace HO := Lib.hid (own_grown HO.out hgl hg1)
                replace HG := Lib.hid (grown_trans HG.out hg1)
                clear hc1 hg1
                have hp8 : stepX ns i2 h2 % 8 < 8 := Nat.mod_lt _ (by omega)
                generalize stepX ns i2 h2 % 8 = p at hp8 ⊢
                generalize stepI ns i2 = i3 at HC
                generalize nextH h2 = h3 at HC
                have he : entB ((T : Int), (J : Int), (p : Int)) = true := by
                  simp only [entB, Bool.and_eq_true, Bool.or_eq_true, decide_eq_true_eq]
                  omega
                have HN := Lib.hid (asc_next HA.out he)
                have hs3 := HG.out.size
                clear he
                have HO2 := Lib.hid (World.ownsRow.alloc HO.out (.cells #[.int .i64 T, .int .i64 J, .int .i64 p] 69))
                go_wp2_with (first | (at_builtin; refine wpList_append_own _ rfl _ _ 24 rfl w.heap.size 69 j0 (.agg #[.int .i64 0, .int .i64 0, .int .i64 0]) 3 24 Tryd.underlying24 HJ.out HY0.out HY1.out HY2.out rfl (by decide) _ _ _ rfl HO2.out ⟨w3.heap.size, 0, none⟩ 1 1 [.int .i64 T, .int .i64 J, .int .i64 p] rfl rfl (cells3_at _ _ _ _ _) (by simp [Value.oneCell']) (by unfold maxLen; omega) (by omega) (by simp only [World.size_alloc]; omega) ?_))
                intro v9 w9 hown9 hg9 _
                have HO9 := Lib.hid hown9
                have HC9 := Lib.hid (cur_row (cur_alloc HC.out (.cells #[.int .i64 T, .int .i64 J, .int .i64 p] 69)) hg9 (fun k hk => by have := (HO.out.lt k hk).1; omega))
                have HG9 := Lib.hid (grown_row (grown_trans HG.out (World.grownBy_alloc w3 (.cells #[.int .i64 T, .int .i64 J, .int .i64 p] 69) (some g))) hg9 (fun k hk => (HO.out.lt k hk).1))
                clear hown9 hg9
                go_wp2
                go_roundw
                case rel => exact ⟨J + 1, l ++ [((T : Int), (J : Int), (p : Int))], _, _, by omega, by omega, by go_num, by rw [show ((J + 1 : Nat) : Int) = (J : Int) + 1 from by omega]; exact HN.out, by simp; omega, by rw [List.length_append, List.length_singleton, Ae.cells_snoc]; exact HO9.out, HC9.out, HG9.out⟩
                case measure => simp [intOf]; omega
              · have hd : decide (l.length < 4) = false := decide_eq_false hll
                go_wp2
                go_roundw
                case rel => exact ⟨J + 1, l, _, _, by omega, by omega, by go_num, asc_mono HA.out (.inr ⟨rfl, by omega⟩), hl4, HO.out, HC.out, HG.out⟩
                case measure => simp [intOf]; omega
          · obtain rfl : J = 4 := by omega
            go_wp2
            go_roundw
            case rel => exact ⟨T + 1, l, _, _, by omega, by omega, by go_num, asc_mono HA.out (.inl (by omega)), hl4, HO.out, HC.out, HG.out⟩
            case measure => simp [intOf]; omega
      · obtain rfl : T = 3 := by omega
        obtain ⟨va, vc, rfl⟩ := Dk.slice_of HO.out
        have hcg := cur_i64 HC.out
        have hs3 := HG.out.size
        have HO1 := Lib.hid (World.ownsRow.alloc HO.out (.cells #[.int .i64 7, .int .i64 7, .int .i64 6, .int .i64 5, .int .i64 4, .int .i64 0] 3))
        have HC1 := Lib.hid (cur_alloc HC.out (.cells #[.int .i64 7, .int .i64 7, .int .i64 6, .int .i64 5, .int .i64 4, .int .i64 0] 3))
        have HG1 := Lib.hid (grown_trans HG.out (World.grownBy_alloc wr (.cells #[.int .i64 7, .int .i64 7, .int .i64 6, .int .i64 5, .int .i64 4, .int .i64 0] 3) (some g)))
        have hpc := fun j (hj : j < 6) => perms_cell wr 3 j hj
        have HPC := Lib.hid hpc
        clear hpc
        have hsa : (wr.alloc (.cells #[.int .i64 7, .int .i64 7, .int .i64 6, .int .i64 5, .int .i64 4, .int .i64 0] 3)).heap.size = wr.heap.size + 1 := by simp
        go_wp2_with fail
        generalize wr.alloc (.cells #[.int .i64 7, .int .i64 7, .int .i64 6, .int .i64 5, .int .i64 4, .int .i64 0] 3) = wa at HO1 HC1 HG1 HPC hsa ⊢
        refine (pick_any _ _ _ _ _ _ _ wr.heap.size 6 perms (by decide) (by decide) (by omega) HPC.out HC1.out).mono ?_
        rintro e w4 ⟨rfl, hc1, hg1⟩
        have HO4 := Lib.hid (own_grown HO1.out hgl hg1)
        have HG4 := Lib.hid (grown_trans HG1.out hg1)
        have hs4 := HG4.out.size
        have HC4 := Lib.hid hc1
        clear hc1 hg1
        have hp := perms_in (stepX ns i h % perms.length) (Nat.mod_lt _ (by decide))
        generalize perms.getD (stepX ns i h % perms.length) 0 = p at hp ⊢
        have HOK := Lib.hid (asc_mask (show Asc l 3 0 from HA.out) (by omega) hp.1 hp.2)
        have HO5 := Lib.hid (World.ownsRow.alloc HO4.out (.cells #[.int .i64 3, .int .i64 0, .int .i64 p] 69))
        go_wp2_with (first | (at_builtin; refine wpList_append_own _ rfl _ _ 24 rfl w.heap.size 69 j0 (.agg #[.int .i64 0, .int .i64 0, .int .i64 0]) 3 24 Tryd.underlying24 HJ.out HY0.out HY1.out HY2.out rfl (by decide) _ _ _ rfl HO5.out ⟨w4.heap.size, 0, none⟩ 1 1 [.int .i64 3, .int .i64 0, .int .i64 p] rfl rfl (cells3_at _ _ _ _ _) (by simp [Value.oneCell']) (by unfold maxLen; omega) (by omega) (by simp only [World.size_alloc]; omega) ?_))
        intro v9 w9 hown9 hg9 _
        have HO9 := Lib.hid hown9
        have HC9 := Lib.hid (cur_row (cur_alloc HC4.out (.cells #[.int .i64 3, .int .i64 0, .int .i64 p] 69)) hg9 (fun k hk => by have := (HO4.out.lt k hk).1; omega))
        have HG9 := Lib.hid (grown_row (grown_trans HG4.out (World.grownBy_alloc w4 (.cells #[.int .i64 3, .int .i64 0, .int .i64 p] 69) (some g))) hg9 (fun k hk => (HO4.out.lt k hk).1))
        clear hown9 hg9
        go_wp2
        go_ret
        exact ⟨_, l ++ [(3, 0, p)], rfl, HOK.out, by rw [List.length_append, List.length_singleton, Ae.cells_snoc]; exact HO9.out, HG9.out, _, _, HC9.out⟩


theorem i64_and511 (n : Int) : bits .and .i64 n 511 = n % 512 := by
  have h7 : (BitVec.ofInt 64 511).toNat = 2 ^ 9 - 1 := by decide
  have key : (BitVec.ofInt 64 n &&& BitVec.ofInt 64 511).toNat = (n % ((2 ^ 64 : Nat) : Int)).toNat % 2 ^ 9 := by
    rw [BitVec.toNat_and, BitVec.toNat_ofInt, h7, Nat.and_two_pow_sub_one_eq_mod]
  show IntKind.i64.wrap ((BitVec.ofInt 64 n &&& BitVec.ofInt 64 511).toNat : Nat) = n % 512
  rw [key, IntKind.wrap_i64]
  omega
set_option maxRecDepth 100000 in
set_option maxHeartbeats 1600000 in
/-- A number from 0 up to m, more than 256. -/
theorem big_any (w : World) (B g : Nat) (cv : Value) (ns : List Nat) (i : Nat) (h : Int) (m : Nat) (hm1 : 257 ≤ m) (hm2 : m ≤ 60000) (hc : IsCur w B g cv ns i h) :
    Calls Tryd.prog 61 #[.pointer (some ⟨g, 0, none⟩), .int .i64 m] w fun e w' => ∃ r : Nat, r < m ∧ e = .returned (.int .i64 r) ∧ (∃ (i' : Nat) (h' : Int), IsCur w' B g cv ns i' h') ∧ w.grownBy w' (some g) := by
  have hm0 : ¬ m = 0 := by omega
  have HC := Lib.hid hc
  clear hc
  go_enter Tryd.func61, Tryd.ntmps61
  go_wp2_with fail
  refine (byte_any _ _ _ _ _ _ _ HC.out).mono ?_
  rintro e w1 ⟨rfl, hc1, hg1⟩
  have hx1 := stepX_le ns i h
  replace HC := Lib.hid hc1
  have HG := Lib.hid hg1
  clear hc1 hg1
  generalize stepX ns i h = x1 at hx1 ⊢
  generalize stepI ns i = i1 at HC
  generalize nextH h = h1 at HC
  go_wp2_with fail
  refine (byte_any _ _ _ _ _ _ _ HC.out).mono ?_
  rintro e w2 ⟨rfl, hc1, hg1⟩
  have hx2 := stepX_le ns i1 h1
  replace HC := Lib.hid hc1
  replace HG := Lib.hid (grown_trans HG.out hg1)
  clear hc1 hg1
  generalize stepX ns i1 h1 = x2 at hx2 ⊢
  generalize stepI ns i1 = i2 at HC
  generalize nextH h1 = h2 at HC
  go_wp2_with fail
  refine (byte_any _ _ _ _ _ _ _ HC.out).mono ?_
  rintro e w3 ⟨rfl, hc1, hg1⟩
  have hx3 := stepX_le ns i2 h2
  replace HC := Lib.hid hc1
  replace HG := Lib.hid (grown_trans HG.out hg1)
  clear hc1 hg1
  generalize stepX ns i2 h2 = x3 at hx3 ⊢
  generalize stepI ns i2 = i3 at HC
  generalize nextH h2 = h3 at HC
  go_wp2_with fail
  refine (byte_any _ _ _ _ _ _ _ HC.out).mono ?_
  rintro e w4 ⟨rfl, hc1, hg1⟩
  have hx4 := stepX_le ns i3 h3
  replace HC := Lib.hid hc1
  replace HG := Lib.hid (grown_trans HG.out hg1)
  clear hc1 hg1
  generalize stepX ns i3 h3 = x4 at hx4 ⊢
  generalize stepI ns i3 = i4 at HC
  generalize nextH h3 = h4 at HC
  go_wp2
  go_ret
  exact ⟨(x1 * 16777216 + x2 * 65536 + x3 * 256 + x4) % m, Nat.mod_lt _ (by omega), Strs.ret_int (by rw [Int.natCast_emod]; congr 1 <;> omega), ⟨_, _, HC.out⟩, HG.out⟩

def edges : List Int := [9223372036854775807, -9223372036854775808, -1, 0, 1000000000]
theorem edges_cell (w : World) (T : TypeId) (j : Nat) (hj : j < 5) : (w.alloc (.cells #[.int .i64 9223372036854775807, .int .i64 (-9223372036854775808), .int .i64 (-1), .int .i64 0, .int .i64 1000000000] T)).cell? ⟨w.heap.size, j, none⟩ = some (.int .i64 (edges.getD j 0)) := by
  rw [World.cell?_alloc_at _ _ _ _ rfl]
  rcases (show j = 0 ∨ j = 1 ∨ j = 2 ∨ j = 3 ∨ j = 4 from by omega) with rfl | rfl | rfl | rfl | rfl
  all_goals rfl
set_option maxRecDepth 100000 in
set_option maxHeartbeats 1600000 in
theorem near_any (w : World) (B g : Nat) (cv : Value) (ns : List Nat) (i : Nat) (h : Int) (hc : IsCur w B g cv ns i h) :
    Calls Tryd.prog 78 #[.pointer (some ⟨g, 0, none⟩), .int .i64 0, .int .i64 2047] w fun e w' => ∃ v : Int, e = .returned (.int .i64 v) ∧ (∃ (i' : Nat) (h' : Int), IsCur w' B g cv ns i' h') ∧ w.grownBy w' (some g) := by
  have HC := Lib.hid hc
  have hgl := cur_i64 hc
  clear hc
  go_enter Tryd.func78, Tryd.ntmps78
  go_wp2_with fail
  refine (below_any _ _ _ _ _ _ _ 12 (by omega) (by omega) HC.out).mono ?_
  rintro e w1 ⟨rfl, hc1, hg1⟩
  have hr : stepX ns i h % 12 < 12 := Nat.mod_lt _ (by omega)
  replace HC := Lib.hid hc1
  have HG := Lib.hid hg1
  have hs1 := hg1.size
  clear hc1 hg1
  generalize stepX ns i h % 12 = r at hr ⊢
  generalize stepI ns i = i1 at HC
  generalize nextH h = h1 at HC
  by_cases h5 : r < 5
  · obtain rfl | rfl | rfl | rfl | rfl : r = 0 ∨ r = 1 ∨ r = 2 ∨ r = 3 ∨ r = 4 := by omega
    · go_wp2
      go_ret
      exact ⟨_, rfl, ⟨_, _, HC.out⟩, HG.out⟩
    · go_wp2
      go_ret
      exact ⟨_, rfl, ⟨_, _, HC.out⟩, HG.out⟩
    · go_wp2
      go_ret
      exact ⟨_, rfl, ⟨_, _, HC.out⟩, HG.out⟩
    · go_wp2
      go_ret
      exact ⟨_, rfl, ⟨_, _, HC.out⟩, HG.out⟩
    · have HC1 := Lib.hid (cur_alloc HC.out (.cells #[.int .i64 9223372036854775807, .int .i64 (-9223372036854775808), .int .i64 (-1), .int .i64 0, .int .i64 1000000000] 3))
      have HG1 := Lib.hid (grown_trans HG.out (World.grownBy_alloc w1 (.cells #[.int .i64 9223372036854775807, .int .i64 (-9223372036854775808), .int .i64 (-1), .int .i64 0, .int .i64 1000000000] 3) (some g)))
      have HPC := Lib.hid (fun j (hj : j < 5) => edges_cell w1 3 j hj)
      go_wp2_with fail
      refine (pick_any _ _ _ _ _ _ _ w1.heap.size 5 edges (by decide) (by decide) (by omega) HPC.out HC1.out).mono ?_
      rintro e w4 ⟨rfl, hc1, hg1⟩
      replace HC := Lib.hid hc1
      replace HG := Lib.hid (grown_trans HG1.out hg1)
      clear hc1 hg1
      generalize edges.getD _ 0 = v
      go_wp2
      go_ret
      exact ⟨v, rfl, ⟨_, _, HC.out⟩, HG.out⟩
  · have e0 : ((r : Int) == 0) = false := by simp; omega
    have e1 : ((r : Int) == 1) = false := by simp; omega
    have e2 : ((r : Int) == 2) = false := by simp; omega
    have e3 : ((r : Int) == 3) = false := by simp; omega
    have e4 : ((r : Int) == 4) = false := by simp; omega
    go_wp2_with fail
    refine (big_any _ _ _ _ _ _ _ 2048 (by omega) (by omega) HC.out).mono ?_
    rintro e w4 ⟨x, hx, rfl, ⟨i2, h2, hc1⟩, hg1⟩
    replace HC := Lib.hid hc1
    replace HG := Lib.hid (grown_trans HG.out hg1)
    clear hc1 hg1
    go_wp2
    go_ret
    exact ⟨_, rfl, ⟨_, _, HC.out⟩, HG.out⟩

def tops : List Int := [0, 0, 0, 1, 2, 3]
theorem tops_cell (w : World) (T : TypeId) (j : Nat) (hj : j < 6) : (w.alloc (.cells #[.int .i64 0, .int .i64 0, .int .i64 0, .int .i64 1, .int .i64 2, .int .i64 3] T)).cell? ⟨w.heap.size, j, none⟩ = some (.int .i64 (tops.getD j 0)) := by
  rw [World.cell?_alloc_at _ _ _ _ rfl]
  rcases (show j = 0 ∨ j = 1 ∨ j = 2 ∨ j = 3 ∨ j = 4 ∨ j = 5 from by omega) with rfl | rfl | rfl | rfl | rfl | rfl
  all_goals rfl
theorem tops_in (j : Nat) (hj : j < 6) : 0 ≤ tops.getD j 0 ∧ tops.getD j 0 ≤ 3 := by
  rcases (show j = 0 ∨ j = 1 ∨ j = 2 ∨ j = 3 ∨ j = 4 ∨ j = 5 from by omega) with rfl | rfl | rfl | rfl | rfl | rfl
  all_goals decide
set_option maxRecDepth 100000 in
set_option maxHeartbeats 1600000 in
theorem modes_any (w : World) (B g : Nat) (cv : Value) (ns : List Nat) (i : Nat) (h : Int) (hc : IsCur w B g cv ns i h) :
    Calls Tryd.prog 62 #[.pointer (some ⟨g, 0, none⟩)] w fun e w' => ∃ v : Int, e = .returned (.int .i64 v) ∧ (∃ (i' : Nat) (h' : Int), IsCur w' B g cv ns i' h') ∧ w.grownBy w' (some g) := by
  have HC := Lib.hid hc
  have hgl := cur_i64 hc
  clear hc
  go_enter Tryd.func62, Tryd.ntmps62
  go_wp2_with fail
  refine (once_any _ _ _ _ _ _ _ 12 (by omega) (by omega) HC.out).mono ?_
  rintro e w1 ⟨b, rfl, hc1, hg1⟩
  replace HC := Lib.hid hc1
  have HG := Lib.hid hg1
  have hs1 := hg1.size
  clear hc1 hg1
  generalize stepI ns i = i1 at HC
  generalize nextH h = h1 at HC
  cases b with
  | true =>
    go_wp2_with fail
    refine (near_any _ _ _ _ _ _ _ HC.out).mono ?_
    rintro e w2 ⟨v, rfl, ⟨i2, h2, hc1⟩, hg1⟩
    replace HC := Lib.hid hc1
    replace HG := Lib.hid (grown_trans HG.out hg1)
    clear hc1 hg1
    go_wp2
    go_ret
    exact ⟨v, rfl, ⟨_, _, HC.out⟩, HG.out⟩
  | false =>
    go_wp2_with fail
    refine (below_any _ _ _ _ _ _ _ 8 (by omega) (by omega) HC.out).mono ?_
    rintro e w2 ⟨rfl, hc1, hg1⟩
    have hx2 : stepX ns i1 h1 % 8 < 8 := Nat.mod_lt _ (by omega)
    replace HC := Lib.hid hc1
    replace HG := Lib.hid (grown_trans HG.out hg1)
    have hs2 := hg1.size
    clear hc1 hg1
    generalize stepX ns i1 h1 % 8 = x2 at hx2 ⊢
    generalize stepI ns i1 = i2 at HC
    generalize nextH h1 = h2 at HC
    go_wp2_with fail
    refine (below_any _ _ _ _ _ _ _ 8 (by omega) (by omega) HC.out).mono ?_
    rintro e w3 ⟨rfl, hc1, hg1⟩
    have hx3 : stepX ns i2 h2 % 8 < 8 := Nat.mod_lt _ (by omega)
    replace HC := Lib.hid hc1
    replace HG := Lib.hid (grown_trans HG.out hg1)
    have hs3 := hg1.size
    clear hc1 hg1
    generalize stepX ns i2 h2 % 8 = x3 at hx3 ⊢
    generalize stepI ns i2 = i3 at HC
    generalize nextH h2 = h3 at HC
    go_wp2_with fail
    refine (below_any _ _ _ _ _ _ _ 8 (by omega) (by omega) HC.out).mono ?_
    rintro e w4 ⟨rfl, hc1, hg1⟩
    have hx4 : stepX ns i3 h3 % 8 < 8 := Nat.mod_lt _ (by omega)
    replace HC := Lib.hid hc1
    replace HG := Lib.hid (grown_trans HG.out hg1)
    have hs4 := hg1.size
    clear hc1 hg1
    generalize stepX ns i3 h3 % 8 = x4 at hx4 ⊢
    generalize stepI ns i3 = i4 at HC
    generalize nextH h3 = h4 at HC
    have HC1 := Lib.hid (cur_alloc HC.out (.cells #[.int .i64 0, .int .i64 0, .int .i64 0, .int .i64 1, .int .i64 2, .int .i64 3] 3))
    have HG1 := Lib.hid (grown_trans HG.out (World.grownBy_alloc w4 (.cells #[.int .i64 0, .int .i64 0, .int .i64 0, .int .i64 1, .int .i64 2, .int .i64 3] 3) (some g)))
    have HPC := Lib.hid (fun j (hj : j < 6) => tops_cell w4 3 j hj)
    go_wp2_with fail
    refine (pick_any _ _ _ _ _ _ _ w4.heap.size 6 tops (by decide) (by decide) (by omega) HPC.out HC1.out).mono ?_
    rintro e w5 ⟨rfl, hc1, hg1⟩
    have hp := tops_in (stepX ns i4 h4 % tops.length) (Nat.mod_lt _ (by decide))
    replace HC := Lib.hid hc1
    replace HG := Lib.hid (grown_trans HG1.out hg1)
    clear hc1 hg1 HPC
    generalize tops.getD (stepX ns i4 h4 % tops.length) 0 = t at hp ⊢
    go_wp2
    go_ret
    exact ⟨_, rfl, ⟨_, _, HC.out⟩, HG.out⟩
    
end Go.Proofs.YthobdeidjagnhaaDoor.InDr

-- YthobdeidjagnhaaDoorInMk
/- Contracts of the laws' makers: a valid inode out of the drawn code, two. Conditions: as each theorem types them. -/
namespace Go.Proofs.YthobdeidjagnhaaDoor.InMk
open Go.ChangeShapes Go.WideShapes Go.ChangeAt Go.RowKit
open Cur AclV Bx Foot ModeV InoV InDr
open Go.Proofs.YthobdeidjagnhaaDoor.Make (cur_alloc)
open Go.Proofs.YthobdeidjagnhaaDoor.MakeBytes (cur_kept)
open AclS (forB)
open ADraw (grown_trans grown_row cur_row own_grown once_any own_fresh3 grown_of cur_below)
open CDraw (code_at grown_set one_new)
open InUi (in_own zero_own)
set_option linter.unusedVariables false

theorem getD_app {l : List Int} {x : Int} {i : Nat} (h : i < l.length) : (l ++ [x]).getD i 0 = l.getD i 0 := by
  rw [List.getD_eq_getElem?_getD, List.getD_eq_getElem?_getD, List.getElem?_append_left h]
theorem blk_app {l : List Int} {x : Int} {i : Nat} (h : i < l.length) : blkB (l ++ [x]) i = blkB l i := by
  unfold blkB
  rw [getD_app h, List.take_append_of_le_length (by omega)]
theorem blks_app {l : List Int} {x : Int} (h : blksB l l.length = true) (h1 : -1 ≤ x) (h2 : x ≤ 999) (h3 : x = -1 ∨ hasB l x = false) : blksB (l ++ [x]) (l ++ [x]).length = true := by
  rw [List.length_append, List.length_singleton, blks_succ, Bool.and_eq_true]
  constructor
  · unfold blksB at h ⊢
    rw [List.all_eq_true] at h ⊢
    intro i hi
    rw [blk_app (List.mem_range.1 hi)]
    exact h i hi
  · have e : (l ++ [x]).getD l.length 0 = x := by rw [List.getD_eq_getElem?_getD, List.getElem?_append_right (Nat.le_refl _)]; simp
    unfold blkB
    rw [e, List.take_append_of_le_length (Nat.le_refl _), List.take_of_length_le (Nat.le_refl _)]
    rcases h3 with rfl | h3
    · simp
    · simp [h1, h2, h3]
/-- The blocks that were drawn so far: holes, or numbers from 10 * lo on, no one twice. -/
def Drawn (l : List Int) (lo : Int) : Prop := blksB l l.length = true ∧ ∀ x ∈ l, x = -1 ∨ (10 * lo ≤ x ∧ x ≤ 999)
theorem drawn_nil (lo : Int) : Drawn [] lo := ⟨rfl, fun x hx => by cases hx⟩
theorem drawn_hole {l : List Int} {lo : Int} (h : Drawn l (lo + 1)) : Drawn (l ++ [-1]) lo := by
  refine ⟨blks_app h.1 (by omega) (by omega) (.inl rfl), fun x hx => ?_⟩
  rcases List.mem_append.1 hx with hx | hx
  · rcases h.2 x hx with e | e
    · exact .inl e
    · exact .inr (by omega)
  · exact .inl (List.mem_singleton.1 hx)
theorem drawn_num {l : List Int} {lo r : Int} (h : Drawn l (lo + 1)) (h0 : 0 ≤ lo) (h9 : lo ≤ 90) (hr0 : 0 ≤ r) (hr : r < 9) : Drawn (l ++ [10 * lo + r]) lo := by
  refine ⟨blks_app h.1 (by omega) (by omega) (.inr ?_), fun x hx => ?_⟩
  · unfold hasB
    rw [List.any_eq_false]
    intro y hy
    have := h.2 y hy
    simp only [decide_eq_true_eq]
    omega
  · rcases List.mem_append.1 hx with hx | hx
    · rcases h.2 x hx with e | e
      · exact .inl e
      · exact .inr (by omega)
    · have := List.mem_singleton.1 hx
      exact .inr (by omega)
/-- What was drawn is a valid inode. -/
theorem made_ok {ki mo us gr li si ti : Int} {bs : List Int} {ac df : List At} (h1 : ki = 1 ∨ ki = 2) (h2 : 0 ≤ mo ∧ mo < 512) (h3 : 0 ≤ us ∧ us < 4) (h4 : 0 ≤ gr ∧ gr < 4) (h5 : 0 ≤ li ∧ li < 4) (h6 : 0 ≤ si ∧ si < 100) (h7 : 0 ≤ ti ∧ ti < 50) (hb : Drawn bs 1) (hl : (bs.length : Int) = needV si) (ha : okB ac = true) (hd : okB df = true) (hk : ki = 1 → df = []) : okI ⟨ki, mo, us, gr, li, si, ti, bs, ac, df⟩ = true := by
  have hst : stickyB mo = false := decide_eq_false (by omega)
  have hbl := hl
  rw [okI, if_neg (show ¬ ki = 0 by omega), Bool.and_eq_true]
  refine ⟨?_, ?_⟩
  · simp only [numsB, Bool.and_eq_true, Bool.or_eq_true, decide_eq_true_eq, mode_iff, CredV.user_iff]
    refine ⟨⟨⟨⟨⟨⟨⟨h1, ?_⟩, ?_⟩, ?_⟩, ?_⟩, ?_⟩, ?_⟩, hl⟩
    all_goals omega
  · simp only [restB, Bool.and_eq_true]
    refine ⟨⟨hb.1, ?_⟩, ha, hd⟩
    unfold fileB
    rw [hst]
    by_cases hk1 : ki = 1
    · rw [hk hk1]; simp
    · simp [hk1]

/-- Ten cells of a box stored, one by one. -/
theorem set10 {w : World} {r : Nat} {t : TypeId} {d0 d1 d2 d3 d4 d5 d6 d7 d8 d9 : Value} (c0 c1 c2 c3 c4 c5 c6 c7 c8 c9 : Value) (h : Bk w r #[d0, d1, d2, d3, d4, d5, d6, d7, d8, d9] t) : Bk ((((((((((w.setCell ⟨r, 0, none⟩ (c0)).setCell ⟨r, 1, none⟩ (c1)).setCell ⟨r, 2, none⟩ (c2)).setCell ⟨r, 3, none⟩ (c3)).setCell ⟨r, 4, none⟩ (c4)).setCell ⟨r, 5, none⟩ (c5)).setCell ⟨r, 6, none⟩ (c6)).setCell ⟨r, 7, none⟩ (c7)).setCell ⟨r, 8, none⟩ (c8)).setCell ⟨r, 9, none⟩ (c9)) r #[c0, c1, c2, c3, c4, c5, c6, c7, c8, c9] t ∧ w.grownBy ((((((((((w.setCell ⟨r, 0, none⟩ (c0)).setCell ⟨r, 1, none⟩ (c1)).setCell ⟨r, 2, none⟩ (c2)).setCell ⟨r, 3, none⟩ (c3)).setCell ⟨r, 4, none⟩ (c4)).setCell ⟨r, 5, none⟩ (c5)).setCell ⟨r, 6, none⟩ (c6)).setCell ⟨r, 7, none⟩ (c7)).setCell ⟨r, 8, none⟩ (c8)).setCell ⟨r, 9, none⟩ (c9)) (some r) := by
  have h0 : Bk _ _ #[c0, d1, d2, d3, d4, d5, d6, d7, d8, d9] _ := h.put 0 c0
  have h1 : Bk _ _ #[c0, c1, d2, d3, d4, d5, d6, d7, d8, d9] _ := h0.put 1 c1
  have h2 : Bk _ _ #[c0, c1, c2, d3, d4, d5, d6, d7, d8, d9] _ := h1.put 2 c2
  have h3 : Bk _ _ #[c0, c1, c2, c3, d4, d5, d6, d7, d8, d9] _ := h2.put 3 c3
  have h4 : Bk _ _ #[c0, c1, c2, c3, c4, d5, d6, d7, d8, d9] _ := h3.put 4 c4
  have h5 : Bk _ _ #[c0, c1, c2, c3, c4, c5, d6, d7, d8, d9] _ := h4.put 5 c5
  have h6 : Bk _ _ #[c0, c1, c2, c3, c4, c5, c6, d7, d8, d9] _ := h5.put 6 c6
  have h7 : Bk _ _ #[c0, c1, c2, c3, c4, c5, c6, c7, d8, d9] _ := h6.put 7 c7
  have h8 : Bk _ _ #[c0, c1, c2, c3, c4, c5, c6, c7, c8, d9] _ := h7.put 8 c8
  have h9 : Bk _ _ #[c0, c1, c2, c3, c4, c5, c6, c7, c8, c9] _ := h8.put 9 c9
  exact ⟨h9, grown_trans (grown_trans (grown_trans (grown_trans (grown_trans (grown_trans (grown_trans (grown_trans (grown_trans (grown_set w r 0 c0) (grown_set _ r 1 c1)) (grown_set _ r 2 c2)) (grown_set _ r 3 c3)) (grown_set _ r 4 c4)) (grown_set _ r 5 c5)) (grown_set _ r 6 c6)) (grown_set _ r 7 c7)) (grown_set _ r 8 c8)) (grown_set _ r 9 c9)⟩
set_option maxRecDepth 100000 in
set_option maxHeartbeats 4000000 in
/-- A valid inode, the cursor moved on. -/
theorem draw_any (w : World) (B g : Nat) (cv : Value) (ns : List Nat) (i : Nat) (h : Int) (hc : IsCur w B g cv ns i h) :
    Calls Tryd.prog 22 #[.pointer (some ⟨g, 0, none⟩)] w fun e w' => ∃ (v : Value) (n : I) (S : List Nat), e = .returned v ∧ okI n = true ∧ In.Own w' w.heap.size v n S ∧ w.grownBy w' (some g) := by
  obtain ⟨j0, hj, hy0, hy1, hy2⟩ := info_parts Ni.intInfo
  have HJ := Lib.hid hj
  have HY0 := Lib.hid hy0
  have HY1 := Lib.hid hy1
  have HY2 := Lib.hid hy2
  clear hj hy0 hy1 hy2
  have hgl := cur_i64 hc
  have HC := Lib.hid (cur_alloc hc (.cells #[.int .i64 0, .int .i64 0, .int .i64 0, .int .i64 0, .int .i64 0, .int .i64 0, .int .i64 0, .slice none 0 0, .slice none 0 0, .slice none 0 0] 26))
  have HG := Lib.hid (World.grownBy_alloc w (.cells #[.int .i64 0, .int .i64 0, .int .i64 0, .int .i64 0, .int .i64 0, .int .i64 0, .int .i64 0, .slice none 0 0, .slice none 0 0, .slice none 0 0] 26) (some g))
  have hR := new w #[.int .i64 0, .int .i64 0, .int .i64 0, .int .i64 0, .int .i64 0, .int .i64 0, .int .i64 0, .slice none 0 0, .slice none 0 0, .slice none 0 0] 26
  have hs0 : w.heap.size < (w.alloc (.cells #[.int .i64 0, .int .i64 0, .int .i64 0, .int .i64 0, .int .i64 0, .int .i64 0, .int .i64 0, .slice none 0 0, .slice none 0 0, .slice none 0 0] 26)).heap.size := by simp
  clear hc
  go_enter Tryd.func22, Tryd.ntmps22
  go_wp2_with fail
  generalize w.alloc (.cells #[.int .i64 0, .int .i64 0, .int .i64 0, .int .i64 0, .int .i64 0, .int .i64 0, .int .i64 0, .slice none 0 0, .slice none 0 0, .slice none 0 0] 26) = w0 at HC HG hR hs0 ⊢
  have HR := Lib.hid hR
  clear hR
  refine (once_any _ _ _ _ _ _ _ 10 (by omega) (by omega) HC.out).mono ?_
  rintro e w1 ⟨bb, rfl, hc1, hg1⟩
  replace HC := Lib.hid hc1
  replace HR := Lib.hid (Bk.grown HR.out hg1 (by simp; omega))
  replace HG := Lib.hid (grown_trans HG.out hg1)
  have hs1 := hg1.size
  clear hc1 hg1
  generalize stepI ns i = i1 at HC
  generalize nextH h = h1 at HC
  cases bb with
  | true =>
    have c0 : w1.cell? ⟨w.heap.size, 0, none⟩ = some (.int .i64 0) := (HR.out).cell 0
    have c1 : w1.cell? ⟨w.heap.size, 1, none⟩ = some (.int .i64 0) := (HR.out).cell 1
    have c2 : w1.cell? ⟨w.heap.size, 2, none⟩ = some (.int .i64 0) := (HR.out).cell 2
    have c3 : w1.cell? ⟨w.heap.size, 3, none⟩ = some (.int .i64 0) := (HR.out).cell 3
    have c4 : w1.cell? ⟨w.heap.size, 4, none⟩ = some (.int .i64 0) := (HR.out).cell 4
    have c5 : w1.cell? ⟨w.heap.size, 5, none⟩ = some (.int .i64 0) := (HR.out).cell 5
    have c6 : w1.cell? ⟨w.heap.size, 6, none⟩ = some (.int .i64 0) := (HR.out).cell 6
    have c7 : w1.cell? ⟨w.heap.size, 7, none⟩ = some (.slice none 0 0) := (HR.out).cell 7
    have c8 : w1.cell? ⟨w.heap.size, 8, none⟩ = some (.slice none 0 0) := (HR.out).cell 8
    have c9 : w1.cell? ⟨w.heap.size, 9, none⟩ = some (.slice none 0 0) := (HR.out).cell 9
    have f0 : w1.frozen? ⟨w.heap.size, 0, none⟩ = false := (HR.out).free 0
    have f1 : w1.frozen? ⟨w.heap.size, 1, none⟩ = false := (HR.out).free 1
    have f2 : w1.frozen? ⟨w.heap.size, 2, none⟩ = false := (HR.out).free 2
    have f3 : w1.frozen? ⟨w.heap.size, 3, none⟩ = false := (HR.out).free 3
    have f4 : w1.frozen? ⟨w.heap.size, 4, none⟩ = false := (HR.out).free 4
    have f5 : w1.frozen? ⟨w.heap.size, 5, none⟩ = false := (HR.out).free 5
    have f6 : w1.frozen? ⟨w.heap.size, 6, none⟩ = false := (HR.out).free 6
    have f7 : w1.frozen? ⟨w.heap.size, 7, none⟩ = false := (HR.out).free 7
    have f8 : w1.frozen? ⟨w.heap.size, 8, none⟩ = false := (HR.out).free 8
    have f9 : w1.frozen? ⟨w.heap.size, 9, none⟩ = false := (HR.out).free 9
    go_wp2
    have hF := set10 (.int .i64 0) (.int .i64 0) (.int .i64 0) (.int .i64 0) (.int .i64 0) (.int .i64 0) (.int .i64 0) (.slice none 0 0) (.slice none 0 0) (.slice none 0 0) HR.out
    generalize (((((((((w1.setCell ⟨w.heap.size, 0, none⟩ (.int .i64 0)).setCell ⟨w.heap.size, 1, none⟩ (.int .i64 0)).setCell ⟨w.heap.size, 2, none⟩ (.int .i64 0)).setCell ⟨w.heap.size, 3, none⟩ (.int .i64 0)).setCell ⟨w.heap.size, 4, none⟩ (.int .i64 0)).setCell ⟨w.heap.size, 5, none⟩ (.int .i64 0)).setCell ⟨w.heap.size, 6, none⟩ (.int .i64 0)).setCell ⟨w.heap.size, 7, none⟩ (.slice none 0 0)).setCell ⟨w.heap.size, 8, none⟩ (.slice none 0 0)).setCell ⟨w.heap.size, 9, none⟩ (.slice none 0 0) = wf at hF ⊢
    obtain ⟨hF, hgf⟩ := hF
    have HGF := Lib.hid (grown_row HG.out hgf (fun q hq => by cases hq; omega))
    clear c0 c1 c2 c3 c4 c5 c6 c7 c8 c9 f0 f1 f2 f3 f4 f5 f6 f7 f8 f9
    have c0 : wf.cell? ⟨w.heap.size, 0, none⟩ = some (.int .i64 0) := (hF).cell 0
    have c1 : wf.cell? ⟨w.heap.size, 1, none⟩ = some (.int .i64 0) := (hF).cell 1
    have c2 : wf.cell? ⟨w.heap.size, 2, none⟩ = some (.int .i64 0) := (hF).cell 2
    have c3 : wf.cell? ⟨w.heap.size, 3, none⟩ = some (.int .i64 0) := (hF).cell 3
    have c4 : wf.cell? ⟨w.heap.size, 4, none⟩ = some (.int .i64 0) := (hF).cell 4
    have c5 : wf.cell? ⟨w.heap.size, 5, none⟩ = some (.int .i64 0) := (hF).cell 5
    have c6 : wf.cell? ⟨w.heap.size, 6, none⟩ = some (.int .i64 0) := (hF).cell 6
    have c7 : wf.cell? ⟨w.heap.size, 7, none⟩ = some (.slice none 0 0) := (hF).cell 7
    have c8 : wf.cell? ⟨w.heap.size, 8, none⟩ = some (.slice none 0 0) := (hF).cell 8
    have c9 : wf.cell? ⟨w.heap.size, 9, none⟩ = some (.slice none 0 0) := (hF).cell 9
    exact bodyPost_ret (v := .agg #[.int .i64 0, .int .i64 0, .int .i64 0, .int .i64 0, .int .i64 0, .int .i64 0, .int .i64 0, .slice none 0 0, .slice none 0 0, .slice none 0 0]) (by simp [results, Tryd.results22, go_sem, c0, c1, c2, c3, c4, c5, c6, c7, c8, c9]) rfl ⟨_, InoV.zero, [], rfl, ok_zero, zero_own _ _, HGF.out⟩
  | false =>
    go_wp2_with fail
    refine (below_any _ _ _ _ _ _ _ 2 (by omega) (by omega) HC.out).mono ?_
    rintro e w2 ⟨rfl, hc1, hg1⟩
    have hkd : stepX ns i1 h1 % 2 < 2 := Nat.mod_lt _ (by omega)
    replace HC := Lib.hid hc1
    replace HR := Lib.hid (Bk.grown HR.out hg1 (by simp; omega))
    replace HG := Lib.hid (grown_trans HG.out hg1)
    have hs2 := hg1.size
    clear hc1 hg1
    generalize stepX ns i1 h1 % 2 = kd at hkd ⊢
    generalize stepI ns i1 = i2 at HC
    generalize nextH h1 = h2 at HC
    go_wp2_with fail
    refine (modes_any _ _ _ _ _ _ _ HC.out).mono ?_
    rintro e w3 ⟨v, rfl, ⟨i3, h3, hc1⟩, hg1⟩
    replace HC := Lib.hid hc1
    replace HR := Lib.hid (Bk.grown HR.out hg1 (by simp; omega))
    replace HG := Lib.hid (grown_trans HG.out hg1)
    have hs3 := hg1.size
    clear hc1 hg1
    obtain ⟨mo, hmo⟩ : ∃ mo, mo = v % 512 := ⟨_, rfl⟩
    have hm0 : 0 ≤ mo ∧ mo < 512 := by omega
    have hand : bits .and .i64 v 511 = mo := by rw [i64_and511, hmo]
    clear hmo
    go_wp2_with fail
    refine (below_any _ _ _ _ _ _ _ 4 (by omega) (by omega) HC.out).mono ?_
    rintro e w4 ⟨rfl, hc1, hg1⟩
    have hus : stepX ns i3 h3 % 4 < 4 := Nat.mod_lt _ (by omega)
    replace HC := Lib.hid hc1
    replace HR := Lib.hid (Bk.grown HR.out hg1 (by simp; omega))
    replace HG := Lib.hid (grown_trans HG.out hg1)
    have hs4 := hg1.size
    clear hc1 hg1
    generalize stepX ns i3 h3 % 4 = us at hus ⊢
    generalize stepI ns i3 = i4 at HC
    generalize nextH h3 = h4 at HC
    go_wp2_with fail
    refine (below_any _ _ _ _ _ _ _ 4 (by omega) (by omega) HC.out).mono ?_
    rintro e w5 ⟨rfl, hc1, hg1⟩
    have hgr : stepX ns i4 h4 % 4 < 4 := Nat.mod_lt _ (by omega)
    replace HC := Lib.hid hc1
    replace HR := Lib.hid (Bk.grown HR.out hg1 (by simp; omega))
    replace HG := Lib.hid (grown_trans HG.out hg1)
    have hs5 := hg1.size
    clear hc1 hg1
    generalize stepX ns i4 h4 % 4 = gr at hgr ⊢
    generalize stepI ns i4 = i5 at HC
    generalize nextH h4 = h5 at HC
    go_wp2_with fail
    refine (below_any _ _ _ _ _ _ _ 4 (by omega) (by omega) HC.out).mono ?_
    rintro e w6 ⟨rfl, hc1, hg1⟩
    have hli : stepX ns i5 h5 % 4 < 4 := Nat.mod_lt _ (by omega)
    replace HC := Lib.hid hc1
    replace HR := Lib.hid (Bk.grown HR.out hg1 (by simp; omega))
    replace HG := Lib.hid (grown_trans HG.out hg1)
    have hs6 := hg1.size
    clear hc1 hg1
    generalize stepX ns i5 h5 % 4 = li at hli ⊢
    generalize stepI ns i5 = i6 at HC
    generalize nextH h5 = h6 at HC
    go_wp2_with fail
    refine (below_any _ _ _ _ _ _ _ 100 (by omega) (by omega) HC.out).mono ?_
    rintro e w7 ⟨rfl, hc1, hg1⟩
    have hsi : stepX ns i6 h6 % 100 < 100 := Nat.mod_lt _ (by omega)
    replace HC := Lib.hid hc1
    replace HR := Lib.hid (Bk.grown HR.out hg1 (by simp; omega))
    replace HG := Lib.hid (grown_trans HG.out hg1)
    have hs7 := hg1.size
    clear hc1 hg1
    generalize stepX ns i6 h6 % 100 = si at hsi ⊢
    generalize stepI ns i6 = i7 at HC
    generalize nextH h6 = h7 at HC
    go_wp2_with fail
    refine (below_any _ _ _ _ _ _ _ 50 (by omega) (by omega) HC.out).mono ?_
    rintro e w8 ⟨rfl, hc1, hg1⟩
    have hti : stepX ns i7 h7 % 50 < 50 := Nat.mod_lt _ (by omega)
    replace HC := Lib.hid hc1
    replace HR := Lib.hid (Bk.grown HR.out hg1 (by simp; omega))
    replace HG := Lib.hid (grown_trans HG.out hg1)
    have hs8 := hg1.size
    clear hc1 hg1
    generalize stepX ns i7 h7 % 50 = ti at hti ⊢
    generalize stepI ns i7 = i8 at HC
    generalize nextH h7 = h8 at HC
    obtain ⟨b, hb⟩ : ∃ b, b = w8.heap.size := ⟨_, rfl⟩
    have hX := new w8 #[.int .i64 (1 + kd), .int .i64 mo, .int .i64 us, .int .i64 gr, .int .i64 li, .int .i64 si, .int .i64 ti, .slice none 0 0, .slice none 0 0, .slice none 0 0] 26
    rw [← hb] at hX
    have HX := Lib.hid hX
    replace HR := Lib.hid (Bk.alloc HR.out (.cells #[.int .i64 (1 + kd), .int .i64 mo, .int .i64 us, .int .i64 gr, .int .i64 li, .int .i64 si, .int .i64 ti, .slice none 0 0, .slice none 0 0, .slice none 0 0] 26))
    replace HC := Lib.hid (cur_alloc HC.out (.cells #[.int .i64 (1 + kd), .int .i64 mo, .int .i64 us, .int .i64 gr, .int .i64 li, .int .i64 si, .int .i64 ti, .slice none 0 0, .slice none 0 0, .slice none 0 0] 26))
    replace HG := Lib.hid (grown_trans HG.out (World.grownBy_alloc w8 (.cells #[.int .i64 (1 + kd), .int .i64 mo, .int .i64 us, .int .i64 gr, .int .i64 li, .int .i64 si, .int .i64 ti, .slice none 0 0, .slice none 0 0, .slice none 0 0] 26) (some g)))
    have hwb : w.heap.size < b := by omega
    have hgb : g < b := by omega
    clear hX
    go_wp2_with fail
    rw [← hb]
    have hbw : b < (w8.alloc (.cells #[.int .i64 (1 + kd), .int .i64 mo, .int .i64 us, .int .i64 gr, .int .i64 li, .int .i64 si, .int .i64 ti, .slice none 0 0, .slice none 0 0, .slice none 0 0] 26)).heap.size := by simp; omega
    clear hb hs0 hs1 hs2 hs3 hs4 hs5 hs6 hs7 hs8
    generalize w8.alloc (.cells #[.int .i64 (1 + kd), .int .i64 mo, .int .i64 us, .int .i64 gr, .int .i64 li, .int .i64 si, .int .i64 ti, .slice none 0 0, .slice none 0 0, .slice none 0 0] 26) = wa at HC HR HG HX hbw ⊢
    obtain ⟨ki, hki⟩ : ∃ ki : Int, ki = 1 + (kd : Int) := ⟨_, rfl⟩
    rw [← hki] at HX ⊢
    have hk12 : ki = 1 ∨ ki = 2 := by omega
    clear hki hand hkd
    refine (InEq.need_spec si wa (by unfold Rg; omega)).mono ?_
    rintro e wb ⟨rfl, rfl⟩
    obtain ⟨nb, hnb, hnb8⟩ : ∃ nb : Nat, needV si = (nb : Int) ∧ nb ≤ 8 := by
      have := need_range (n := (si : Int)) (by omega) (by omega)
      exact ⟨(needV si).toNat, by omega, by omega⟩
    rw [hnb]
    have HNB := Lib.hid hnb
    clear hnb
    go_wp2_with fail
    go_loopw [4] (fun iv wr => ∃ (k : Nat) (l : List Int) (a : Option Addr) (c : Nat) (i : Nat) (h : Int), iv = .int .i64 k ∧ l.length + k = nb ∧ Drawn l ((k : Int) + 1) ∧ Bk wr w.heap.size #[.int .i64 0, .int .i64 0, .int .i64 0, .int .i64 0, .int .i64 0, .int .i64 0, .int .i64 0, .slice none 0 0, .slice none 0 0, .slice none 0 0] 26 ∧ Bk wr b #[.int .i64 ki, .int .i64 mo, .int .i64 us, .int .i64 gr, .int .i64 li, .int .i64 si, .int .i64 ti, .slice a l.length c, .slice none 0 0, .slice none 0 0] 26 ∧ wr.ownsRow (b + 1) 3 1 (.slice a l.length c) l.length (NiF.cells l) ∧ IsCur wr B g cv ns i h ∧ w.grownBy wr (some g)) (fun iv _ => (intOf iv).toNat)
    case atStart => exact ⟨nb, [], none, 0, _, _, rfl, by simp, drawn_nil _, HR.out, HX.out, ⟨rfl, .inl ⟨rfl, rfl⟩⟩, HC.out, HG.out⟩
    case round =>
      clear HC HG HR HX hbw
      obtain ⟨k, l, a, c, i, h, rfl, hlk, hdr, hR, hX, hown, hc, hg⟩ := hrel
      have HDR := Lib.hid hdr
      have HR := Lib.hid hR
      have HX := Lib.hid hX
      have HO := Lib.hid hown
      have HC := Lib.hid hc
      have HG := Lib.hid hg
      have hbl := hX.lt
      clear hdr hR hX hown hc hg
      by_cases hk : 0 < k
      · go_wp2_with fail
        refine (once_any _ _ _ _ _ _ _ 4 (by omega) (by omega) HC.out).mono ?_
        rintro e w3 ⟨o, rfl, hc1, hg1⟩
        replace HC := Lib.hid hc1
        replace HR := Lib.hid (Bk.grown HR.out hg1 (by simp; omega))
        replace HX := Lib.hid (Bk.grown HX.out hg1 (by simp; omega))
        replace HO := Lib.hid (own_grown HO.out (by omega) hg1)
        replace HG := Lib.hid (grown_trans HG.out hg1)
        have hs3 := hg1.size
        clear hc1 hg1
        generalize stepI ns i = i3 at HC
        generalize nextH h = h3 at HC
        have hb3 : b < w3.heap.size := by omega
        cases o with
        | true =>
          have HO2 := Lib.hid (World.ownsRow.alloc HO.out (.cells #[.int .i64 (-1)] 3))
          have x0 : w3.cell? ⟨b, 0, none⟩ = some (.int .i64 ki) := (HX.out).cell 0
          have x1 : w3.cell? ⟨b, 1, none⟩ = some (.int .i64 mo) := (HX.out).cell 1
          have x2 : w3.cell? ⟨b, 2, none⟩ = some (.int .i64 us) := (HX.out).cell 2
          have x3 : w3.cell? ⟨b, 3, none⟩ = some (.int .i64 gr) := (HX.out).cell 3
          have x4 : w3.cell? ⟨b, 4, none⟩ = some (.int .i64 li) := (HX.out).cell 4
          have x5 : w3.cell? ⟨b, 5, none⟩ = some (.int .i64 si) := (HX.out).cell 5
          have x6 : w3.cell? ⟨b, 6, none⟩ = some (.int .i64 ti) := (HX.out).cell 6
          have x7 : w3.cell? ⟨b, 7, none⟩ = some (.slice a l.length c) := (HX.out).cell 7
          have x8 : w3.cell? ⟨b, 8, none⟩ = some (.slice none 0 0) := (HX.out).cell 8
          have x9 : w3.cell? ⟨b, 9, none⟩ = some (.slice none 0 0) := (HX.out).cell 9
          have y0 : w3.frozen? ⟨b, 0, none⟩ = false := (HX.out).free 0
          have y1 : w3.frozen? ⟨b, 1, none⟩ = false := (HX.out).free 1
          have y2 : w3.frozen? ⟨b, 2, none⟩ = false := (HX.out).free 2
          have y3 : w3.frozen? ⟨b, 3, none⟩ = false := (HX.out).free 3
          have y4 : w3.frozen? ⟨b, 4, none⟩ = false := (HX.out).free 4
          have y5 : w3.frozen? ⟨b, 5, none⟩ = false := (HX.out).free 5
          have y6 : w3.frozen? ⟨b, 6, none⟩ = false := (HX.out).free 6
          have y7 : w3.frozen? ⟨b, 7, none⟩ = false := (HX.out).free 7
          have y8 : w3.frozen? ⟨b, 8, none⟩ = false := (HX.out).free 8
          have y9 : w3.frozen? ⟨b, 9, none⟩ = false := (HX.out).free 9
          go_wp2_with (first | (at_builtin; refine wpList_append_own _ rfl _ _ 23 rfl (b + 1) 3 j0 (.int .i64 0) 1 8 Tryd.underlying23 HJ.out HY0.out HY1.out HY2.out rfl (by decide) _ _ _ rfl HO2.out ⟨w3.heap.size, 0, none⟩ 1 1 [.int .i64 (-1)] rfl rfl (one_new _ _ _) (by simp [Value.oneCell']) (by unfold maxLen; omega) (by omega) (by simp only [World.size_alloc]; omega) ?_))
          intro v9 w9 hown9 hg9 _
          obtain ⟨a9, c9, rfl⟩ := Dk.slice_of hown9
          have hob : ∀ q, Value.ownBlock (.slice a l.length c) = some q → b + 1 ≤ q := fun q hq => (HO.out.lt q hq).1
          have hne : ∀ q, q ≤ b → some q ≠ Value.ownBlock (.slice a l.length c) := fun q hq he => (by have := hob q he.symm; omega)
          replace HC := Lib.hid (cur_row (cur_alloc HC.out (.cells #[.int .i64 (-1)] 3)) hg9 (fun q hq => by have := hob q hq; omega))
          replace HR := Lib.hid (Bk.grown (Bk.alloc HR.out (.cells #[.int .i64 (-1)] 3)) hg9 (hne _ (by omega)))
          replace HX := Lib.hid (Bk.grown (Bk.alloc HX.out (.cells #[.int .i64 (-1)] 3)) hg9 (hne _ (Nat.le_refl _)))
          replace HG := Lib.hid (grown_row (grown_trans HG.out (World.grownBy_alloc w3 (.cells #[.int .i64 (-1)] 3) (some g))) hg9 (fun q hq => by have := hob q hq; omega))
          have HO9 := Lib.hid hown9
          have hs9 := hg9.size
          clear hown9 hg9 hob hne
          clear x0 x1 x2 x3 x4 x5 x6 x7 x8 x9 y0 y1 y2 y3 y4 y5 y6 y7 y8 y9
          have x0 : w9.cell? ⟨b, 0, none⟩ = some (.int .i64 ki) := (HX.out).cell 0
          have x1 : w9.cell? ⟨b, 1, none⟩ = some (.int .i64 mo) := (HX.out).cell 1
          have x2 : w9.cell? ⟨b, 2, none⟩ = some (.int .i64 us) := (HX.out).cell 2
          have x3 : w9.cell? ⟨b, 3, none⟩ = some (.int .i64 gr) := (HX.out).cell 3
          have x4 : w9.cell? ⟨b, 4, none⟩ = some (.int .i64 li) := (HX.out).cell 4
          have x5 : w9.cell? ⟨b, 5, none⟩ = some (.int .i64 si) := (HX.out).cell 5
          have x6 : w9.cell? ⟨b, 6, none⟩ = some (.int .i64 ti) := (HX.out).cell 6
          have x7 : w9.cell? ⟨b, 7, none⟩ = some (.slice a l.length c) := (HX.out).cell 7
          have x8 : w9.cell? ⟨b, 8, none⟩ = some (.slice none 0 0) := (HX.out).cell 8
          have x9 : w9.cell? ⟨b, 9, none⟩ = some (.slice none 0 0) := (HX.out).cell 9
          have y0 : w9.frozen? ⟨b, 0, none⟩ = false := (HX.out).free 0
          have y1 : w9.frozen? ⟨b, 1, none⟩ = false := (HX.out).free 1
          have y2 : w9.frozen? ⟨b, 2, none⟩ = false := (HX.out).free 2
          have y3 : w9.frozen? ⟨b, 3, none⟩ = false := (HX.out).free 3
          have y4 : w9.frozen? ⟨b, 4, none⟩ = false := (HX.out).free 4
          have y5 : w9.frozen? ⟨b, 5, none⟩ = false := (HX.out).free 5
          have y6 : w9.frozen? ⟨b, 6, none⟩ = false := (HX.out).free 6
          have y7 : w9.frozen? ⟨b, 7, none⟩ = false := (HX.out).free 7
          have y8 : w9.frozen? ⟨b, 8, none⟩ = false := (HX.out).free 8
          have y9 : w9.frozen? ⟨b, 9, none⟩ = false := (HX.out).free 9
          go_wp2
          clear x0 x1 x2 x3 x4 x5 x6 x7 x8 x9 y0 y1 y2 y3 y4 y5 y6 y7 y8 y9
          have hgf := grown_set w9 b 7 (.slice a9 (l.length + 1) c9)
          have hXF : Bk _ _ #[.int .i64 ki, .int .i64 mo, .int .i64 us, .int .i64 gr, .int .i64 li, .int .i64 si, .int .i64 ti, .slice a9 (l.length + 1) c9, .slice none 0 0, .slice none 0 0] _ := Bk.put HX.out 7 (.slice a9 (l.length + 1) c9)
          generalize w9.setCell ⟨b, 7, none⟩ (.slice a9 (l.length + 1) c9) = wf at hgf hXF ⊢
          have HXF := Lib.hid hXF
          replace HR := Lib.hid (Bk.grown HR.out hgf (by simp; omega))
          replace HO9 := Lib.hid (own_grown HO9.out (by omega) hgf)
          replace HC := Lib.hid (cur_row HC.out hgf (fun q hq => by cases hq; omega))
          replace HG := Lib.hid (grown_row HG.out hgf (fun q hq => by cases hq; omega))
          clear hgf hXF
          go_wp2
          go_roundw
          case rel => exact ⟨k - 1, l ++ [-1], a9, c9, _, _, by go_num, by rw [List.length_append, List.length_singleton]; omega, by rw [show ((k - 1 : Nat) : Int) + 1 = (k : Int) from by omega]; exact drawn_hole HDR.out, HR.out, by rw [List.length_append, List.length_singleton]; exact HXF.out, by rw [List.length_append, List.length_singleton]; simpa [NiF.cells] using HO9.out, HC.out, HG.out⟩
          case measure => simp [intOf]; omega
        | false =>
          have hk8 : (k : Int) ≤ 8 := by omega
          have hk0 : (0 : Int) < (k : Int) := by omega
          have hw1 : IntKind.i64.wrap (10 * (k : Int)) = 10 * (k : Int) := by rw [IntKind.wrap_i64]; omega
          have x0 : w3.drew.cell? ⟨b, 0, none⟩ = some (.int .i64 ki) := (HX.out).cell 0
          have x1 : w3.drew.cell? ⟨b, 1, none⟩ = some (.int .i64 mo) := (HX.out).cell 1
          have x2 : w3.drew.cell? ⟨b, 2, none⟩ = some (.int .i64 us) := (HX.out).cell 2
          have x3 : w3.drew.cell? ⟨b, 3, none⟩ = some (.int .i64 gr) := (HX.out).cell 3
          have x4 : w3.drew.cell? ⟨b, 4, none⟩ = some (.int .i64 li) := (HX.out).cell 4
          have x5 : w3.drew.cell? ⟨b, 5, none⟩ = some (.int .i64 si) := (HX.out).cell 5
          have x6 : w3.drew.cell? ⟨b, 6, none⟩ = some (.int .i64 ti) := (HX.out).cell 6
          have x7 : w3.drew.cell? ⟨b, 7, none⟩ = some (.slice a l.length c) := (HX.out).cell 7
          have x8 : w3.drew.cell? ⟨b, 8, none⟩ = some (.slice none 0 0) := (HX.out).cell 8
          have x9 : w3.drew.cell? ⟨b, 9, none⟩ = some (.slice none 0 0) := (HX.out).cell 9
          have y0 : w3.drew.frozen? ⟨b, 0, none⟩ = false := (HX.out).free 0
          have y1 : w3.drew.frozen? ⟨b, 1, none⟩ = false := (HX.out).free 1
          have y2 : w3.drew.frozen? ⟨b, 2, none⟩ = false := (HX.out).free 2
          have y3 : w3.drew.frozen? ⟨b, 3, none⟩ = false := (HX.out).free 3
          have y4 : w3.drew.frozen? ⟨b, 4, none⟩ = false := (HX.out).free 4
          have y5 : w3.drew.frozen? ⟨b, 5, none⟩ = false := (HX.out).free 5
          have y6 : w3.drew.frozen? ⟨b, 6, none⟩ = false := (HX.out).free 6
          have y7 : w3.drew.frozen? ⟨b, 7, none⟩ = false := (HX.out).free 7
          have y8 : w3.drew.frozen? ⟨b, 8, none⟩ = false := (HX.out).free 8
          have y9 : w3.drew.frozen? ⟨b, 9, none⟩ = false := (HX.out).free 9
          go_wp2
          go_region_law (first | (go_simp; go_at_call 61; refine (below_any _ _ _ _ _ _ _ 9 (by omega) (by omega) (cur_below HC.out (Below.drew (Below.refl _ _)))).mono ?_; rintro e w5 ⟨rfl, hc5, hg5⟩; have hq : stepX ns i3 h3 % 9 < 9 := Nat.mod_lt _ (by omega); generalize stepX ns i3 h3 % 9 = q at hq ⊢; have hq0 : (0 : Int) ≤ (q : Int) := (by omega); have hq9 : (q : Int) < 9 := (by omega); have hw2 : IntKind.i64.wrap (10 * (k : Int) + (q : Int)) = 10 * (k : Int) + (q : Int) := (by rw [IntKind.wrap_i64]; omega); replace hg5 := grown_trans (grown_of (Below.drew (Below.refl _ w3)) (some g)) hg5; have s5 := hg5.size; replace HO := Lib.hid (own_grown HO.out (by omega) hg5); replace HX := Lib.hid (Bk.grown HX.out hg5 (by simp; omega)); replace HR := Lib.hid (Bk.grown HR.out hg5 (by simp; omega)); replace HC := Lib.hid hc5; replace HG := Lib.hid (grown_trans HG.out hg5); clear hc5 hg5; have z0 : w5.cell? ⟨b, 0, none⟩ = some (.int .i64 ki) := (HX.out).cell 0; have z1 : w5.cell? ⟨b, 1, none⟩ = some (.int .i64 mo) := (HX.out).cell 1; have z2 : w5.cell? ⟨b, 2, none⟩ = some (.int .i64 us) := (HX.out).cell 2; have z3 : w5.cell? ⟨b, 3, none⟩ = some (.int .i64 gr) := (HX.out).cell 3; have z4 : w5.cell? ⟨b, 4, none⟩ = some (.int .i64 li) := (HX.out).cell 4; have z5 : w5.cell? ⟨b, 5, none⟩ = some (.int .i64 si) := (HX.out).cell 5; have z6 : w5.cell? ⟨b, 6, none⟩ = some (.int .i64 ti) := (HX.out).cell 6; have z7 : w5.cell? ⟨b, 7, none⟩ = some (.slice a l.length c) := (HX.out).cell 7; have z8 : w5.cell? ⟨b, 8, none⟩ = some (.slice none 0 0) := (HX.out).cell 8; have z9 : w5.cell? ⟨b, 9, none⟩ = some (.slice none 0 0) := (HX.out).cell 9; have v0 : w5.frozen? ⟨b, 0, none⟩ = false := (HX.out).free 0; have v1 : w5.frozen? ⟨b, 1, none⟩ = false := (HX.out).free 1; have v2 : w5.frozen? ⟨b, 2, none⟩ = false := (HX.out).free 2; have v3 : w5.frozen? ⟨b, 3, none⟩ = false := (HX.out).free 3; have v4 : w5.frozen? ⟨b, 4, none⟩ = false := (HX.out).free 4; have v5 : w5.frozen? ⟨b, 5, none⟩ = false := (HX.out).free 5; have v6 : w5.frozen? ⟨b, 6, none⟩ = false := (HX.out).free 6; have v7 : w5.frozen? ⟨b, 7, none⟩ = false := (HX.out).free 7; have v8 : w5.frozen? ⟨b, 8, none⟩ = false := (HX.out).free 8; have v9 : w5.frozen? ⟨b, 9, none⟩ = false := (HX.out).free 9; have r0 : (w5.alloc (.cells #[.int .i64 (10 * (k : Int) + (q : Int))] 3)).cell? ⟨b, 0, none⟩ = some (.int .i64 ki) := (HX.out.alloc (.cells #[.int .i64 (10 * (k : Int) + (q : Int))] 3)).cell 0; have r1 : (w5.alloc (.cells #[.int .i64 (10 * (k : Int) + (q : Int))] 3)).cell? ⟨b, 1, none⟩ = some (.int .i64 mo) := (HX.out.alloc (.cells #[.int .i64 (10 * (k : Int) + (q : Int))] 3)).cell 1; have r2 : (w5.alloc (.cells #[.int .i64 (10 * (k : Int) + (q : Int))] 3)).cell? ⟨b, 2, none⟩ = some (.int .i64 us) := (HX.out.alloc (.cells #[.int .i64 (10 * (k : Int) + (q : Int))] 3)).cell 2; have r3 : (w5.alloc (.cells #[.int .i64 (10 * (k : Int) + (q : Int))] 3)).cell? ⟨b, 3, none⟩ = some (.int .i64 gr) := (HX.out.alloc (.cells #[.int .i64 (10 * (k : Int) + (q : Int))] 3)).cell 3; have r4 : (w5.alloc (.cells #[.int .i64 (10 * (k : Int) + (q : Int))] 3)).cell? ⟨b, 4, none⟩ = some (.int .i64 li) := (HX.out.alloc (.cells #[.int .i64 (10 * (k : Int) + (q : Int))] 3)).cell 4; have r5 : (w5.alloc (.cells #[.int .i64 (10 * (k : Int) + (q : Int))] 3)).cell? ⟨b, 5, none⟩ = some (.int .i64 si) := (HX.out.alloc (.cells #[.int .i64 (10 * (k : Int) + (q : Int))] 3)).cell 5; have r6 : (w5.alloc (.cells #[.int .i64 (10 * (k : Int) + (q : Int))] 3)).cell? ⟨b, 6, none⟩ = some (.int .i64 ti) := (HX.out.alloc (.cells #[.int .i64 (10 * (k : Int) + (q : Int))] 3)).cell 6; have r7 : (w5.alloc (.cells #[.int .i64 (10 * (k : Int) + (q : Int))] 3)).cell? ⟨b, 7, none⟩ = some (.slice a l.length c) := (HX.out.alloc (.cells #[.int .i64 (10 * (k : Int) + (q : Int))] 3)).cell 7; have r8 : (w5.alloc (.cells #[.int .i64 (10 * (k : Int) + (q : Int))] 3)).cell? ⟨b, 8, none⟩ = some (.slice none 0 0) := (HX.out.alloc (.cells #[.int .i64 (10 * (k : Int) + (q : Int))] 3)).cell 8; have r9 : (w5.alloc (.cells #[.int .i64 (10 * (k : Int) + (q : Int))] 3)).cell? ⟨b, 9, none⟩ = some (.slice none 0 0) := (HX.out.alloc (.cells #[.int .i64 (10 * (k : Int) + (q : Int))] 3)).cell 9; have t0 : (w5.alloc (.cells #[.int .i64 (10 * (k : Int) + (q : Int))] 3)).frozen? ⟨b, 0, none⟩ = false := (HX.out.alloc (.cells #[.int .i64 (10 * (k : Int) + (q : Int))] 3)).free 0; have t1 : (w5.alloc (.cells #[.int .i64 (10 * (k : Int) + (q : Int))] 3)).frozen? ⟨b, 1, none⟩ = false := (HX.out.alloc (.cells #[.int .i64 (10 * (k : Int) + (q : Int))] 3)).free 1; have t2 : (w5.alloc (.cells #[.int .i64 (10 * (k : Int) + (q : Int))] 3)).frozen? ⟨b, 2, none⟩ = false := (HX.out.alloc (.cells #[.int .i64 (10 * (k : Int) + (q : Int))] 3)).free 2; have t3 : (w5.alloc (.cells #[.int .i64 (10 * (k : Int) + (q : Int))] 3)).frozen? ⟨b, 3, none⟩ = false := (HX.out.alloc (.cells #[.int .i64 (10 * (k : Int) + (q : Int))] 3)).free 3; have t4 : (w5.alloc (.cells #[.int .i64 (10 * (k : Int) + (q : Int))] 3)).frozen? ⟨b, 4, none⟩ = false := (HX.out.alloc (.cells #[.int .i64 (10 * (k : Int) + (q : Int))] 3)).free 4; have t5 : (w5.alloc (.cells #[.int .i64 (10 * (k : Int) + (q : Int))] 3)).frozen? ⟨b, 5, none⟩ = false := (HX.out.alloc (.cells #[.int .i64 (10 * (k : Int) + (q : Int))] 3)).free 5; have t6 : (w5.alloc (.cells #[.int .i64 (10 * (k : Int) + (q : Int))] 3)).frozen? ⟨b, 6, none⟩ = false := (HX.out.alloc (.cells #[.int .i64 (10 * (k : Int) + (q : Int))] 3)).free 6; have t7 : (w5.alloc (.cells #[.int .i64 (10 * (k : Int) + (q : Int))] 3)).frozen? ⟨b, 7, none⟩ = false := (HX.out.alloc (.cells #[.int .i64 (10 * (k : Int) + (q : Int))] 3)).free 7; have t8 : (w5.alloc (.cells #[.int .i64 (10 * (k : Int) + (q : Int))] 3)).frozen? ⟨b, 8, none⟩ = false := (HX.out.alloc (.cells #[.int .i64 (10 * (k : Int) + (q : Int))] 3)).free 8; have t9 : (w5.alloc (.cells #[.int .i64 (10 * (k : Int) + (q : Int))] 3)).frozen? ⟨b, 9, none⟩ = false := (HX.out.alloc (.cells #[.int .i64 (10 * (k : Int) + (q : Int))] 3)).free 9) | (refine HexOf.step_append_own rfl _ _ 23 rfl (b + 1) 3 j0 (.int .i64 0) 1 8 Tryd.underlying23 HJ.out HY0.out HY1.out HY2.out rfl (by decide) _ _ _ rfl (World.ownsRow.alloc HO.out _) ⟨w5.heap.size, 0, none⟩ 1 1 [.int .i64 (10 * (k : Int) + (q : Int))] rfl rfl (one_new _ _ _) (by simp [Value.oneCell']) (by unfold maxLen; omega) (by omega) (by simp; omega) ?_; intro v9 w9 hown9 hg9 _; obtain ⟨a9, c9, rfl⟩ := Dk.slice_of hown9; have hob : ∀ q, Value.ownBlock (.slice a l.length c) = some q → b + 1 ≤ q := fun q hq => (HO.out.lt q hq).1; have hne : ∀ q, q ≤ b → some q ≠ Value.ownBlock (.slice a l.length c) := fun q hq he => (by have := hob q he.symm; omega); replace HC := Lib.hid (cur_row (cur_alloc HC.out (.cells #[.int .i64 (10 * (k : Int) + (q : Int))] 3)) hg9 (fun q hq => by have := hob q hq; omega)); replace HR := Lib.hid (Bk.grown (Bk.alloc HR.out (.cells #[.int .i64 (10 * (k : Int) + (q : Int))] 3)) hg9 (hne _ (by omega))); replace HX := Lib.hid (Bk.grown (Bk.alloc HX.out (.cells #[.int .i64 (10 * (k : Int) + (q : Int))] 3)) hg9 (hne _ (Nat.le_refl _))); replace HG := Lib.hid (grown_row (grown_trans HG.out (World.grownBy_alloc w5 (.cells #[.int .i64 (10 * (k : Int) + (q : Int))] 3) (some g))) hg9 (fun q hq => by have := hob q hq; omega)); have HO9 := Lib.hid hown9; have hs9 := hg9.size; clear hown9 hg9 hob hne; have p0 : w9.cell? ⟨b, 0, none⟩ = some (.int .i64 ki) := (HX.out).cell 0; have p1 : w9.cell? ⟨b, 1, none⟩ = some (.int .i64 mo) := (HX.out).cell 1; have p2 : w9.cell? ⟨b, 2, none⟩ = some (.int .i64 us) := (HX.out).cell 2; have p3 : w9.cell? ⟨b, 3, none⟩ = some (.int .i64 gr) := (HX.out).cell 3; have p4 : w9.cell? ⟨b, 4, none⟩ = some (.int .i64 li) := (HX.out).cell 4; have p5 : w9.cell? ⟨b, 5, none⟩ = some (.int .i64 si) := (HX.out).cell 5; have p6 : w9.cell? ⟨b, 6, none⟩ = some (.int .i64 ti) := (HX.out).cell 6; have p7 : w9.cell? ⟨b, 7, none⟩ = some (.slice a l.length c) := (HX.out).cell 7; have p8 : w9.cell? ⟨b, 8, none⟩ = some (.slice none 0 0) := (HX.out).cell 8; have p9 : w9.cell? ⟨b, 9, none⟩ = some (.slice none 0 0) := (HX.out).cell 9; have u0 : w9.frozen? ⟨b, 0, none⟩ = false := (HX.out).free 0; have u1 : w9.frozen? ⟨b, 1, none⟩ = false := (HX.out).free 1; have u2 : w9.frozen? ⟨b, 2, none⟩ = false := (HX.out).free 2; have u3 : w9.frozen? ⟨b, 3, none⟩ = false := (HX.out).free 3; have u4 : w9.frozen? ⟨b, 4, none⟩ = false := (HX.out).free 4; have u5 : w9.frozen? ⟨b, 5, none⟩ = false := (HX.out).free 5; have u6 : w9.frozen? ⟨b, 6, none⟩ = false := (HX.out).free 6; have u7 : w9.frozen? ⟨b, 7, none⟩ = false := (HX.out).free 7; have u8 : w9.frozen? ⟨b, 8, none⟩ = false := (HX.out).free 8; have u9 : w9.frozen? ⟨b, 9, none⟩ = false := (HX.out).free 9))
          all_goals
            clear x0 x1 x2 x3 x4 x5 x6 x7 x8 x9 y0 y1 y2 y3 y4 y5 y6 y7 y8 y9 z0 z1 z2 z3 z4 z5 z6 z7 z8 z9 v0 v1 v2 v3 v4 v5 v6 v7 v8 v9 r0 r1 r2 r3 r4 r5 r6 r7 r8 r9 t0 t1 t2 t3 t4 t5 t6 t7 t8 t9 p0 p1 p2 p3 p4 p5 p6 p7 p8 p9 u0 u1 u2 u3 u4 u5 u6 u7 u8 u9
            have hgf := grown_set w9 b 7 (.slice a9 (l.length + 1) c9)
            have hXF : Bk _ _ #[.int .i64 ki, .int .i64 mo, .int .i64 us, .int .i64 gr, .int .i64 li, .int .i64 si, .int .i64 ti, .slice a9 (l.length + 1) c9, .slice none 0 0, .slice none 0 0] _ := Bk.put HX.out 7 (.slice a9 (l.length + 1) c9)
            generalize w9.setCell ⟨b, 7, none⟩ (.slice a9 (l.length + 1) c9) = wf at hgf hXF ⊢
            have HXF := Lib.hid hXF
            replace HR := Lib.hid (Bk.grown HR.out hgf (by simp; omega))
            replace HO9 := Lib.hid (own_grown HO9.out (by omega) hgf)
            replace HC := Lib.hid (cur_row HC.out hgf (fun q hq => by cases hq; omega))
            replace HG := Lib.hid (grown_row HG.out hgf (fun q hq => by cases hq; omega))
            clear hgf hXF
            go_wp2
            go_roundw
            case rel => exact ⟨k - 1, l ++ [10 * (k : Int) + (q : Int)], a9, c9, _, _, by go_num, by rw [List.length_append, List.length_singleton]; omega, by rw [show ((k - 1 : Nat) : Int) + 1 = (k : Int) from by omega]; exact drawn_num HDR.out (by omega) (by omega) (by omega) (by omega), HR.out, by rw [List.length_append, List.length_singleton]; exact HXF.out, by rw [List.length_append, List.length_singleton]; simpa [NiF.cells] using HO9.out, HC.out, HG.out⟩
            case measure => simp [intOf]; omega
      · obtain rfl : k = 0 := by omega
        have HDR1 := Lib.hid (show Drawn l 1 from by simpa using HDR.out)
        have HNB1 := Lib.hid (show (l.length : Int) = needV si from by rw [HNB.out]; omega)
        have HLB := Lib.hid (row_lies HO.out)
        go_wp2_with fail
        refine (draw_cur _ _ _ _ _ _ _ HC.out).mono ?_
        rintro e wc ⟨av, al, rfl, hal, hown, hg1, i9, h9, hc1⟩
        obtain ⟨aa, ac, rfl⟩ := Dk.slice_of hown
        have HLA := Lib.hid (row_lies hown)
        have HAL := Lib.hid hal
        have HA := Lib.hid hown
        replace HC := Lib.hid hc1
        replace HR := Lib.hid (Bk.grown HR.out hg1 (by simp; omega))
        replace HX := Lib.hid (Bk.grown HX.out hg1 (by simp; omega))
        replace HO := Lib.hid (own_grown HO.out (by omega) hg1)
        replace HG := Lib.hid (grown_trans HG.out hg1)
        have hsc := hg1.size
        clear hal hown hg1 hc1
        rcases hk12 with rfl | rfl
        · skip
          have x0 : wc.cell? ⟨b, 0, none⟩ = some (.int .i64 1) := (HX.out).cell 0
          have x1 : wc.cell? ⟨b, 1, none⟩ = some (.int .i64 mo) := (HX.out).cell 1
          have x2 : wc.cell? ⟨b, 2, none⟩ = some (.int .i64 us) := (HX.out).cell 2
          have x3 : wc.cell? ⟨b, 3, none⟩ = some (.int .i64 gr) := (HX.out).cell 3
          have x4 : wc.cell? ⟨b, 4, none⟩ = some (.int .i64 li) := (HX.out).cell 4
          have x5 : wc.cell? ⟨b, 5, none⟩ = some (.int .i64 si) := (HX.out).cell 5
          have x6 : wc.cell? ⟨b, 6, none⟩ = some (.int .i64 ti) := (HX.out).cell 6
          have x7 : wc.cell? ⟨b, 7, none⟩ = some (.slice a l.length c) := (HX.out).cell 7
          have x8 : wc.cell? ⟨b, 8, none⟩ = some (.slice none 0 0) := (HX.out).cell 8
          have x9 : wc.cell? ⟨b, 9, none⟩ = some (.slice none 0 0) := (HX.out).cell 9
          have y0 : wc.frozen? ⟨b, 0, none⟩ = false := (HX.out).free 0
          have y1 : wc.frozen? ⟨b, 1, none⟩ = false := (HX.out).free 1
          have y2 : wc.frozen? ⟨b, 2, none⟩ = false := (HX.out).free 2
          have y3 : wc.frozen? ⟨b, 3, none⟩ = false := (HX.out).free 3
          have y4 : wc.frozen? ⟨b, 4, none⟩ = false := (HX.out).free 4
          have y5 : wc.frozen? ⟨b, 5, none⟩ = false := (HX.out).free 5
          have y6 : wc.frozen? ⟨b, 6, none⟩ = false := (HX.out).free 6
          have y7 : wc.frozen? ⟨b, 7, none⟩ = false := (HX.out).free 7
          have y8 : wc.frozen? ⟨b, 8, none⟩ = false := (HX.out).free 8
          have y9 : wc.frozen? ⟨b, 9, none⟩ = false := (HX.out).free 9
          have r0 : wc.cell? ⟨w.heap.size, 0, none⟩ = some (.int .i64 0) := (HR.out).cell 0
          have r1 : wc.cell? ⟨w.heap.size, 1, none⟩ = some (.int .i64 0) := (HR.out).cell 1
          have r2 : wc.cell? ⟨w.heap.size, 2, none⟩ = some (.int .i64 0) := (HR.out).cell 2
          have r3 : wc.cell? ⟨w.heap.size, 3, none⟩ = some (.int .i64 0) := (HR.out).cell 3
          have r4 : wc.cell? ⟨w.heap.size, 4, none⟩ = some (.int .i64 0) := (HR.out).cell 4
          have r5 : wc.cell? ⟨w.heap.size, 5, none⟩ = some (.int .i64 0) := (HR.out).cell 5
          have r6 : wc.cell? ⟨w.heap.size, 6, none⟩ = some (.int .i64 0) := (HR.out).cell 6
          have r7 : wc.cell? ⟨w.heap.size, 7, none⟩ = some (.slice none 0 0) := (HR.out).cell 7
          have r8 : wc.cell? ⟨w.heap.size, 8, none⟩ = some (.slice none 0 0) := (HR.out).cell 8
          have r9 : wc.cell? ⟨w.heap.size, 9, none⟩ = some (.slice none 0 0) := (HR.out).cell 9
          have t0 : wc.frozen? ⟨w.heap.size, 0, none⟩ = false := (HR.out).free 0
          have t1 : wc.frozen? ⟨w.heap.size, 1, none⟩ = false := (HR.out).free 1
          have t2 : wc.frozen? ⟨w.heap.size, 2, none⟩ = false := (HR.out).free 2
          have t3 : wc.frozen? ⟨w.heap.size, 3, none⟩ = false := (HR.out).free 3
          have t4 : wc.frozen? ⟨w.heap.size, 4, none⟩ = false := (HR.out).free 4
          have t5 : wc.frozen? ⟨w.heap.size, 5, none⟩ = false := (HR.out).free 5
          have t6 : wc.frozen? ⟨w.heap.size, 6, none⟩ = false := (HR.out).free 6
          have t7 : wc.frozen? ⟨w.heap.size, 7, none⟩ = false := (HR.out).free 7
          have t8 : wc.frozen? ⟨w.heap.size, 8, none⟩ = false := (HR.out).free 8
          have t9 : wc.frozen? ⟨w.heap.size, 9, none⟩ = false := (HR.out).free 9
          go_wp2
          clear x0 x1 x2 x3 x4 x5 x6 x7 x8 x9 y0 y1 y2 y3 y4 y5 y6 y7 y8 y9 r0 r1 r2 r3 r4 r5 r6 r7 r8 r9 t0 t1 t2 t3 t4 t5 t6 t7 t8 t9
          have hgf := grown_set wc b 8 (.slice aa al.length ac)
          have hXF : Bk _ _ #[.int .i64 1, .int .i64 mo, .int .i64 us, .int .i64 gr, .int .i64 li, .int .i64 si, .int .i64 ti, .slice a l.length c, .slice aa al.length ac, .slice none 0 0] _ := Bk.put HX.out 8 (.slice aa al.length ac)
          have hsd : wc.heap.size ≤ (wc.setCell ⟨b, 8, none⟩ (.slice aa al.length ac)).heap.size := by simp
          generalize wc.setCell ⟨b, 8, none⟩ (.slice aa al.length ac) = wd at hgf hXF hsd ⊢
          have HXF := Lib.hid hXF
          replace HR := Lib.hid (Bk.grown HR.out hgf (by simp; omega))
          replace HO := Lib.hid (own_grown HO.out (by omega) hgf)
          replace HA := Lib.hid (own_grown HA.out (by omega) hgf)
          replace HC := Lib.hid (cur_row HC.out hgf (fun q hq => by cases hq; omega))
          replace HG := Lib.hid (grown_row HG.out hgf (fun q hq => by cases hq; omega))
          clear hgf hXF
          have hF := set10 (.int .i64 1) (.int .i64 mo) (.int .i64 us) (.int .i64 gr) (.int .i64 li) (.int .i64 si) (.int .i64 ti) (.slice a l.length c) (.slice aa al.length ac) (.slice none 0 0) HR.out
          generalize (((((((((wd.setCell ⟨w.heap.size, 0, none⟩ (.int .i64 1)).setCell ⟨w.heap.size, 1, none⟩ (.int .i64 mo)).setCell ⟨w.heap.size, 2, none⟩ (.int .i64 us)).setCell ⟨w.heap.size, 3, none⟩ (.int .i64 gr)).setCell ⟨w.heap.size, 4, none⟩ (.int .i64 li)).setCell ⟨w.heap.size, 5, none⟩ (.int .i64 si)).setCell ⟨w.heap.size, 6, none⟩ (.int .i64 ti)).setCell ⟨w.heap.size, 7, none⟩ (.slice a l.length c)).setCell ⟨w.heap.size, 8, none⟩ (.slice aa al.length ac)).setCell ⟨w.heap.size, 9, none⟩ (.slice none 0 0) = wf at hF ⊢
          obtain ⟨hF, hgf⟩ := hF
          have HOF := Lib.hid (row_mono (own_grown HO.out (by omega) hgf) (show w.heap.size ≤ b + 1 by omega))
          have HAF := Lib.hid (row_mono (own_grown HA.out (by omega) hgf) (show w.heap.size ≤ wr.heap.size by omega))
          have HGF := Lib.hid (grown_row HG.out hgf (fun q hq => by cases hq; omega))
          clear hgf
          have n0 : wf.cell? ⟨w.heap.size, 0, none⟩ = some (.int .i64 1) := (hF).cell 0
          have n1 : wf.cell? ⟨w.heap.size, 1, none⟩ = some (.int .i64 mo) := (hF).cell 1
          have n2 : wf.cell? ⟨w.heap.size, 2, none⟩ = some (.int .i64 us) := (hF).cell 2
          have n3 : wf.cell? ⟨w.heap.size, 3, none⟩ = some (.int .i64 gr) := (hF).cell 3
          have n4 : wf.cell? ⟨w.heap.size, 4, none⟩ = some (.int .i64 li) := (hF).cell 4
          have n5 : wf.cell? ⟨w.heap.size, 5, none⟩ = some (.int .i64 si) := (hF).cell 5
          have n6 : wf.cell? ⟨w.heap.size, 6, none⟩ = some (.int .i64 ti) := (hF).cell 6
          have n7 : wf.cell? ⟨w.heap.size, 7, none⟩ = some (.slice a l.length c) := (hF).cell 7
          have n8 : wf.cell? ⟨w.heap.size, 8, none⟩ = some (.slice aa al.length ac) := (hF).cell 8
          have n9 : wf.cell? ⟨w.heap.size, 9, none⟩ = some (.slice none 0 0) := (hF).cell 9
          exact bodyPost_ret (v := .agg #[.int .i64 1, .int .i64 mo, .int .i64 us, .int .i64 gr, .int .i64 li, .int .i64 si, .int .i64 ti, .slice a l.length c, .slice aa al.length ac, .slice none 0 0]) (by simp [results, Tryd.results22, go_sem, n0, n1, n2, n3, n4, n5, n6, n7, n8, n9]) rfl ⟨_, ⟨1, mo, us, gr, li, si, ti, l, al, []⟩, _, rfl, made_ok (by omega) hm0 (by omega) (by omega) (by omega) (by omega) (by omega) HDR1.out HNB1.out HAL.out rfl (by intro _; rfl), in_own ⟨rfl, rfl, rfl, rfl, rfl, rfl, rfl⟩ ⟨HOF.out, rfl⟩ ⟨HAF.out, rfl⟩ ⟨AclU.own_nil3 _ _ _, rfl⟩ (Lies.apart HLB.out HLA.out (Nat.le_refl _)) (fun k _ hh => by cases hh) (fun k _ hh => by cases hh), HGF.out⟩
        · skip
          have x0 : wc.cell? ⟨b, 0, none⟩ = some (.int .i64 2) := (HX.out).cell 0
          have x1 : wc.cell? ⟨b, 1, none⟩ = some (.int .i64 mo) := (HX.out).cell 1
          have x2 : wc.cell? ⟨b, 2, none⟩ = some (.int .i64 us) := (HX.out).cell 2
          have x3 : wc.cell? ⟨b, 3, none⟩ = some (.int .i64 gr) := (HX.out).cell 3
          have x4 : wc.cell? ⟨b, 4, none⟩ = some (.int .i64 li) := (HX.out).cell 4
          have x5 : wc.cell? ⟨b, 5, none⟩ = some (.int .i64 si) := (HX.out).cell 5
          have x6 : wc.cell? ⟨b, 6, none⟩ = some (.int .i64 ti) := (HX.out).cell 6
          have x7 : wc.cell? ⟨b, 7, none⟩ = some (.slice a l.length c) := (HX.out).cell 7
          have x8 : wc.cell? ⟨b, 8, none⟩ = some (.slice none 0 0) := (HX.out).cell 8
          have x9 : wc.cell? ⟨b, 9, none⟩ = some (.slice none 0 0) := (HX.out).cell 9
          have y0 : wc.frozen? ⟨b, 0, none⟩ = false := (HX.out).free 0
          have y1 : wc.frozen? ⟨b, 1, none⟩ = false := (HX.out).free 1
          have y2 : wc.frozen? ⟨b, 2, none⟩ = false := (HX.out).free 2
          have y3 : wc.frozen? ⟨b, 3, none⟩ = false := (HX.out).free 3
          have y4 : wc.frozen? ⟨b, 4, none⟩ = false := (HX.out).free 4
          have y5 : wc.frozen? ⟨b, 5, none⟩ = false := (HX.out).free 5
          have y6 : wc.frozen? ⟨b, 6, none⟩ = false := (HX.out).free 6
          have y7 : wc.frozen? ⟨b, 7, none⟩ = false := (HX.out).free 7
          have y8 : wc.frozen? ⟨b, 8, none⟩ = false := (HX.out).free 8
          have y9 : wc.frozen? ⟨b, 9, none⟩ = false := (HX.out).free 9
          go_wp2_with fail
          clear x0 x1 x2 x3 x4 x5 x6 x7 x8 x9 y0 y1 y2 y3 y4 y5 y6 y7 y8 y9
          have hgf := grown_set wc b 8 (.slice aa al.length ac)
          have hXF : Bk _ _ #[.int .i64 2, .int .i64 mo, .int .i64 us, .int .i64 gr, .int .i64 li, .int .i64 si, .int .i64 ti, .slice a l.length c, .slice aa al.length ac, .slice none 0 0] _ := Bk.put HX.out 8 (.slice aa al.length ac)
          have hsd : wc.heap.size ≤ (wc.setCell ⟨b, 8, none⟩ (.slice aa al.length ac)).heap.size := by simp
          generalize wc.setCell ⟨b, 8, none⟩ (.slice aa al.length ac) = wd at hgf hXF hsd ⊢
          have HXF := Lib.hid hXF
          replace HR := Lib.hid (Bk.grown HR.out hgf (by simp; omega))
          replace HO := Lib.hid (own_grown HO.out (by omega) hgf)
          replace HA := Lib.hid (own_grown HA.out (by omega) hgf)
          replace HC := Lib.hid (cur_row HC.out hgf (fun q hq => by cases hq; omega))
          replace HG := Lib.hid (grown_row HG.out hgf (fun q hq => by cases hq; omega))
          clear hgf hXF
          replace HX := HXF
          clear HXF
          refine (draw_cur _ _ _ _ _ _ _ HC.out).mono ?_
          rintro e we ⟨dv, dl, rfl, hdl, hown, hg1, i10, h10, hc1⟩
          obtain ⟨da, dc, rfl⟩ := Dk.slice_of hown
          have HLD := Lib.hid (row_lies hown)
          have HDL := Lib.hid hdl
          have HD := Lib.hid hown
          replace HC := Lib.hid hc1
          replace HR := Lib.hid (Bk.grown HR.out hg1 (by simp; omega))
          replace HX := Lib.hid (Bk.grown HX.out hg1 (by simp; omega))
          replace HO := Lib.hid (own_grown HO.out (by omega) hg1)
          replace HA := Lib.hid (own_grown HA.out (by omega) hg1)
          replace HG := Lib.hid (grown_trans HG.out hg1)
          have hse := hg1.size
          clear hdl hown hg1 hc1
          have x0 : we.cell? ⟨b, 0, none⟩ = some (.int .i64 2) := (HX.out).cell 0
          have x1 : we.cell? ⟨b, 1, none⟩ = some (.int .i64 mo) := (HX.out).cell 1
          have x2 : we.cell? ⟨b, 2, none⟩ = some (.int .i64 us) := (HX.out).cell 2
          have x3 : we.cell? ⟨b, 3, none⟩ = some (.int .i64 gr) := (HX.out).cell 3
          have x4 : we.cell? ⟨b, 4, none⟩ = some (.int .i64 li) := (HX.out).cell 4
          have x5 : we.cell? ⟨b, 5, none⟩ = some (.int .i64 si) := (HX.out).cell 5
          have x6 : we.cell? ⟨b, 6, none⟩ = some (.int .i64 ti) := (HX.out).cell 6
          have x7 : we.cell? ⟨b, 7, none⟩ = some (.slice a l.length c) := (HX.out).cell 7
          have x8 : we.cell? ⟨b, 8, none⟩ = some (.slice aa al.length ac) := (HX.out).cell 8
          have x9 : we.cell? ⟨b, 9, none⟩ = some (.slice none 0 0) := (HX.out).cell 9
          have y0 : we.frozen? ⟨b, 0, none⟩ = false := (HX.out).free 0
          have y1 : we.frozen? ⟨b, 1, none⟩ = false := (HX.out).free 1
          have y2 : we.frozen? ⟨b, 2, none⟩ = false := (HX.out).free 2
          have y3 : we.frozen? ⟨b, 3, none⟩ = false := (HX.out).free 3
          have y4 : we.frozen? ⟨b, 4, none⟩ = false := (HX.out).free 4
          have y5 : we.frozen? ⟨b, 5, none⟩ = false := (HX.out).free 5
          have y6 : we.frozen? ⟨b, 6, none⟩ = false := (HX.out).free 6
          have y7 : we.frozen? ⟨b, 7, none⟩ = false := (HX.out).free 7
          have y8 : we.frozen? ⟨b, 8, none⟩ = false := (HX.out).free 8
          have y9 : we.frozen? ⟨b, 9, none⟩ = false := (HX.out).free 9
          have r0 : we.cell? ⟨w.heap.size, 0, none⟩ = some (.int .i64 0) := (HR.out).cell 0
          have r1 : we.cell? ⟨w.heap.size, 1, none⟩ = some (.int .i64 0) := (HR.out).cell 1
          have r2 : we.cell? ⟨w.heap.size, 2, none⟩ = some (.int .i64 0) := (HR.out).cell 2
          have r3 : we.cell? ⟨w.heap.size, 3, none⟩ = some (.int .i64 0) := (HR.out).cell 3
          have r4 : we.cell? ⟨w.heap.size, 4, none⟩ = some (.int .i64 0) := (HR.out).cell 4
          have r5 : we.cell? ⟨w.heap.size, 5, none⟩ = some (.int .i64 0) := (HR.out).cell 5
          have r6 : we.cell? ⟨w.heap.size, 6, none⟩ = some (.int .i64 0) := (HR.out).cell 6
          have r7 : we.cell? ⟨w.heap.size, 7, none⟩ = some (.slice none 0 0) := (HR.out).cell 7
          have r8 : we.cell? ⟨w.heap.size, 8, none⟩ = some (.slice none 0 0) := (HR.out).cell 8
          have r9 : we.cell? ⟨w.heap.size, 9, none⟩ = some (.slice none 0 0) := (HR.out).cell 9
          have t0 : we.frozen? ⟨w.heap.size, 0, none⟩ = false := (HR.out).free 0
          have t1 : we.frozen? ⟨w.heap.size, 1, none⟩ = false := (HR.out).free 1
          have t2 : we.frozen? ⟨w.heap.size, 2, none⟩ = false := (HR.out).free 2
          have t3 : we.frozen? ⟨w.heap.size, 3, none⟩ = false := (HR.out).free 3
          have t4 : we.frozen? ⟨w.heap.size, 4, none⟩ = false := (HR.out).free 4
          have t5 : we.frozen? ⟨w.heap.size, 5, none⟩ = false := (HR.out).free 5
          have t6 : we.frozen? ⟨w.heap.size, 6, none⟩ = false := (HR.out).free 6
          have t7 : we.frozen? ⟨w.heap.size, 7, none⟩ = false := (HR.out).free 7
          have t8 : we.frozen? ⟨w.heap.size, 8, none⟩ = false := (HR.out).free 8
          have t9 : we.frozen? ⟨w.heap.size, 9, none⟩ = false := (HR.out).free 9
          go_wp2
          clear x0 x1 x2 x3 x4 x5 x6 x7 x8 x9 y0 y1 y2 y3 y4 y5 y6 y7 y8 y9 r0 r1 r2 r3 r4 r5 r6 r7 r8 r9 t0 t1 t2 t3 t4 t5 t6 t7 t8 t9
          have hgf := grown_set we b 9 (.slice da dl.length dc)
          have hXF : Bk _ _ #[.int .i64 2, .int .i64 mo, .int .i64 us, .int .i64 gr, .int .i64 li, .int .i64 si, .int .i64 ti, .slice a l.length c, .slice aa al.length ac, .slice da dl.length dc] _ := Bk.put HX.out 9 (.slice da dl.length dc)
          have hsd : we.heap.size ≤ (we.setCell ⟨b, 9, none⟩ (.slice da dl.length dc)).heap.size := by simp
          generalize we.setCell ⟨b, 9, none⟩ (.slice da dl.length dc) = wg at hgf hXF hsd ⊢
          have HXF := Lib.hid hXF
          replace HR := Lib.hid (Bk.grown HR.out hgf (by simp; omega))
          replace HO := Lib.hid (own_grown HO.out (by omega) hgf)
          replace HA := Lib.hid (own_grown HA.out (by omega) hgf)
          replace HC := Lib.hid (cur_row HC.out hgf (fun q hq => by cases hq; omega))
          replace HG := Lib.hid (grown_row HG.out hgf (fun q hq => by cases hq; omega))
          replace HD := Lib.hid (own_grown HD.out (by omega) hgf)
          clear hgf hXF
          have hF := set10 (.int .i64 2) (.int .i64 mo) (.int .i64 us) (.int .i64 gr) (.int .i64 li) (.int .i64 si) (.int .i64 ti) (.slice a l.length c) (.slice aa al.length ac) (.slice da dl.length dc) HR.out
          generalize (((((((((wg.setCell ⟨w.heap.size, 0, none⟩ (.int .i64 2)).setCell ⟨w.heap.size, 1, none⟩ (.int .i64 mo)).setCell ⟨w.heap.size, 2, none⟩ (.int .i64 us)).setCell ⟨w.heap.size, 3, none⟩ (.int .i64 gr)).setCell ⟨w.heap.size, 4, none⟩ (.int .i64 li)).setCell ⟨w.heap.size, 5, none⟩ (.int .i64 si)).setCell ⟨w.heap.size, 6, none⟩ (.int .i64 ti)).setCell ⟨w.heap.size, 7, none⟩ (.slice a l.length c)).setCell ⟨w.heap.size, 8, none⟩ (.slice aa al.length ac)).setCell ⟨w.heap.size, 9, none⟩ (.slice da dl.length dc) = wf at hF ⊢
          obtain ⟨hF, hgf⟩ := hF
          have HOF := Lib.hid (row_mono (own_grown HO.out (by omega) hgf) (show w.heap.size ≤ b + 1 by omega))
          have HAF := Lib.hid (row_mono (own_grown HA.out (by omega) hgf) (show w.heap.size ≤ wr.heap.size by omega))
          have HDF := Lib.hid (row_mono (own_grown HD.out (by omega) hgf) (show w.heap.size ≤ wd.heap.size by omega))
          have HGF := Lib.hid (grown_row HG.out hgf (fun q hq => by cases hq; omega))
          clear hgf
          have n0 : wf.cell? ⟨w.heap.size, 0, none⟩ = some (.int .i64 2) := (hF).cell 0
          have n1 : wf.cell? ⟨w.heap.size, 1, none⟩ = some (.int .i64 mo) := (hF).cell 1
          have n2 : wf.cell? ⟨w.heap.size, 2, none⟩ = some (.int .i64 us) := (hF).cell 2
          have n3 : wf.cell? ⟨w.heap.size, 3, none⟩ = some (.int .i64 gr) := (hF).cell 3
          have n4 : wf.cell? ⟨w.heap.size, 4, none⟩ = some (.int .i64 li) := (hF).cell 4
          have n5 : wf.cell? ⟨w.heap.size, 5, none⟩ = some (.int .i64 si) := (hF).cell 5
          have n6 : wf.cell? ⟨w.heap.size, 6, none⟩ = some (.int .i64 ti) := (hF).cell 6
          have n7 : wf.cell? ⟨w.heap.size, 7, none⟩ = some (.slice a l.length c) := (hF).cell 7
          have n8 : wf.cell? ⟨w.heap.size, 8, none⟩ = some (.slice aa al.length ac) := (hF).cell 8
          have n9 : wf.cell? ⟨w.heap.size, 9, none⟩ = some (.slice da dl.length dc) := (hF).cell 9
          exact bodyPost_ret (v := .agg #[.int .i64 2, .int .i64 mo, .int .i64 us, .int .i64 gr, .int .i64 li, .int .i64 si, .int .i64 ti, .slice a l.length c, .slice aa al.length ac, .slice da dl.length dc]) (by simp [results, Tryd.results22, go_sem, n0, n1, n2, n3, n4, n5, n6, n7, n8, n9]) rfl ⟨_, ⟨2, mo, us, gr, li, si, ti, l, al, dl⟩, _, rfl, made_ok (by omega) hm0 (by omega) (by omega) (by omega) (by omega) (by omega) HDR1.out HNB1.out HAL.out HDL.out (by intro hh; omega), in_own ⟨rfl, rfl, rfl, rfl, rfl, rfl, rfl⟩ ⟨HOF.out, rfl⟩ ⟨HAF.out, rfl⟩ ⟨HDF.out, rfl⟩ (Lies.apart HLB.out HLA.out (Nat.le_refl _)) (Lies.apart HLB.out HLD.out (by omega)) (Lies.apart HLA.out HLD.out (by omega)), HGF.out⟩
end Go.Proofs.YthobdeidjagnhaaDoor.InMk

-- YthobdeidjagnhaaDoorLaidN
/- What the rows' listed variable gives the walks: the table of an inode's fields reads as it is laid; and the heap that the door's run leaves meets the list. No condition of its own. -/
namespace Go.Proofs.YthobdeidjagnhaaDoor.LaidN
open Go.ChangeShapes Go.WideShapes Go.ChangeAt Go.RowKit
open InOk (Vars NF)
set_option linter.unusedVariables false

theorem gN : Tryd.prog.globalNamed "loop.example/g00817/impl.numberFields" = some 0 := by kernel_rfl
theorem gNType : (Tryd.prog.globals[0]?).map (·.type) = some 62 := by kernel_rfl
def list1 : List (String × DataW Unit) := [("loop.example/g00817/impl.numberFields", Rows.laid_loop_example_g00817_impl_numberFields)]
theorem elem_of {H : Type} {enc : TypeId × Value → H} {w : World} {base : Nat} {sp : Nat → Bool} {held : Bool} {m : Nat} {a b : Int} {u v : Value} {z : DataW H × List MemPlace}
    (h : DataW.trod enc Tryd.prog w base sp held m 61 [u, v] = some z) (hz : z.1 = .agg [.lit (.int .i64 a), .lit (.int .i64 b)]) : u = .int .i64 a ∧ v = .int .i64 b := by
  obtain ⟨y0, y1, n, rfl, hl, h0, h1⟩ := trod_struct2 Tryd.underlying61 h
  have hci : Tryd.prog.cellsOf 3 = 1 := by kernel_rfl
  obtain ⟨i0, e0, rfl, _⟩ := DataW.trod_int Tryd.underlying3 h0
  obtain ⟨i1, e1, rfl, _⟩ := DataW.trod_int Tryd.underlying3 h1
  simp only [DataW.agg.injEq, List.cons.injEq, DataW.lit.injEq, Lit.int.injEq, true_and, and_true] at hz
  obtain ⟨rfl, rfl⟩ := hz
  exact ⟨by simpa [hci] using e0, by simpa [hci] using e1⟩
set_option maxRecDepth 100000 in
theorem cells_of {H : Type} {enc : TypeId × Value → H} {w : World} {base : Nat} {sp : Nat → Bool} {held : Bool} {fuel : Nat} {cs : List Value} {p : List MemPlace}
    (h : DataW.trod enc Tryd.prog w base sp held fuel 62 cs = some (Rows.laid_loop_example_g00817_impl_numberFields, p)) : cs = NF.map (Value.int .i64) := by
  obtain ⟨xs, m, rfl, hx, hl, hxl, hf⟩ := DataW.trod_array Tryd.underlying62 h
  rw [show Tryd.prog.cellsOf 62 = 14 from by kernel_rfl] at hl
  rw [show Tryd.prog.cellsOf 61 = 2 from by kernel_rfl] at hf
  obtain ⟨z0, z1, z2, z3, z4, z5, z6, rfl⟩ : ∃ z0 z1 z2 z3 z4 z5 z6, xs = [z0, z1, z2, z3, z4, z5, z6] := by
    match xs, hxl with
    | [z0, z1, z2, z3, z4, z5, z6], _ => exact ⟨_, _, _, _, _, _, _, rfl⟩
  obtain ⟨c0, c1, c2, c3, c4, c5, c6, c7, c8, c9, ca, cb, cc, cd, rfl⟩ : ∃ c0 c1 c2 c3 c4 c5 c6 c7 c8 c9 ca cb cc cd, cs = [c0, c1, c2, c3, c4, c5, c6, c7, c8, c9, ca, cb, cc, cd] := by
    match cs, hl with
    | [c0, c1, c2, c3, c4, c5, c6, c7, c8, c9, ca, cb, cc, cd], _ => exact ⟨_, _, _, _, _, _, _, _, _, _, _, _, _, _, rfl⟩
  have hx1 := congrArg Prod.fst hx
  simp only [Rows.laid_loop_example_g00817_impl_numberFields, List.map_cons, List.map_nil, DataW.agg.injEq, List.cons.injEq, and_true] at hx1
  obtain ⟨q0, q1, q2, q3, q4, q5, q6⟩ := hx1
  obtain ⟨rfl, rfl⟩ := elem_of (hf 0 (by omega)) q0.symm
  obtain ⟨rfl, rfl⟩ := elem_of (hf 1 (by omega)) q1.symm
  obtain ⟨rfl, rfl⟩ := elem_of (hf 2 (by omega)) q2.symm
  obtain ⟨rfl, rfl⟩ := elem_of (hf 3 (by omega)) q3.symm
  obtain ⟨rfl, rfl⟩ := elem_of (hf 4 (by omega)) q4.symm
  obtain ⟨rfl, rfl⟩ := elem_of (hf 5 (by omega)) q5.symm
  obtain ⟨rfl, rfl⟩ := elem_of (hf 6 (by omega)) q6.symm
  rfl
theorem vars_of {W : World} (h : laidMetH Tryd.prog list1 W) : Vars W := by
  rw [MakeChecks.laidMetH_plain _ _ _ (by kernel_rfl)] at h
  obtain ⟨ps, ⟨g', t', cs, fuel, p, q, hg', ht', hvar, hd, _, _⟩, _⟩ := h
  obtain rfl := Option.some.inj (gN.symm.trans hg')
  obtain rfl := Option.some.inj (gNType.symm.trans ht')
  have hcs := cells_of hd
  have hc : ∀ j, j < 14 → W.cell? ⟨0, j, none⟩ = some (.int .i64 (NF.getD j 0)) := by
    intro j hj
    have := World.var?_cell gN hvar j
    rw [this, ← Array.getElem?_toList, hcs, List.getElem?_map]
    have hl : j < NF.length := by simpa [NF] using hj
    rw [List.getElem?_eq_getElem hl, List.getD_eq_getElem?_getD, List.getElem?_eq_getElem hl]; rfl
  refine ⟨?_, hc⟩
  have := hc 0 (by omega)
  simp only [World.cell?] at this
  split at this
  · rename_i heq; exact (Array.getElem?_eq_some_iff.1 heq).1
  · cases this
theorem door1 (os : Os) (args : Array Value) : laidMetH Tryd.prog list1 ((World.doorLaid Tryd.prog 400 os).forCall (fun _ _ => 0) ⟨#[], args, []⟩).memory :=
  laidMetH_of_parts3 (fuel := 8) (laidMet_of_run' 8 (by kernel_rfl) (by kernel_rfl)) (by kernel_rfl) (by kernel_rfl)
end Go.Proofs.YthobdeidjagnhaaDoor.LaidN

-- YthobdeidjagnhaaDoorKitV
/- A law's call returned true and left every block below the old heap's size as it was; then the row's post holds, named variables and all. No condition. -/
namespace Go.Proofs.YthobdeidjagnhaaDoor.KitV
open Go.ChangeShapes Go.WideShapes Go.ChangeAt Go.RowKit
set_option linter.unusedVariables false

theorem vars_length {H : Type} {enc : TypeId × Value → H} {P : Program} {W : World} {sp : Nat → Bool} : ∀ {ns : List String} {gs : List (DataW H)} {ps : List MemPlace}, DataW.TrodVars enc P W sp ns gs ps → gs.length = ns.length
  | [], [], _, _ => rfl
  | [], _ :: _, _, h => h.elim
  | _ :: _, [], _, h => h.elim
  | n :: ns, d :: ds, ps, h => by
    obtain ⟨g, t, cs, fuel, p, q, h1, h2, h3, h4, hs, e⟩ := h
    simp [vars_length hs]
theorem all_length {H : Type} {enc : TypeId × Value → H} {P : Program} {W : World} {b : Nat} {sp : Nat → Bool} {hh : Bool} : ∀ (ts : List TypeId) (vs : List Value) (ds : List (DataW H)) (ps : List MemPlace), DataW.TrodAll enc P W b sp hh ts vs ds ps → ds.length = ts.length := by
  intro ts
  induction ts with
  | nil => intro vs ds ps h; cases vs <;> cases ds <;> first | rfl | exact h.elim
  | cons t ts ih =>
    intro vs ds ps h
    cases vs with
    | nil => cases ds <;> exact h.elim
    | cons v vs =>
      cases ds with
      | nil => exact h.elim
      | cons d ds => obtain ⟨p, q, _, h1, _⟩ := h; simp [ih _ _ _ h1]
/-- THE LAW's POST, where the row names variables. -/
theorem law_post {H : Type} {enc : TypeId × Value → H} {P : Program} {f : Func} {s : ChangeSpec} {T : TypeId} {W W' : World} {args : Array Value} {ds gs : List (DataW H)} {before : List MemPlace}
    (hl : laidOutB P = true) (hr0 : (f.params.toList.all fun t => P.readableRec t && decide (t < P.types.size)) = true) (hv : varsRowed P s.vars = true) (hT : P.underlying T = some .bool)
    (hres : f.resultTypes = #[T])
    (hs : ∀ (H : Type) (ds gs : List (DataW H)), ds.length = f.params.toList.length → gs.length = s.vars.length → s.fn H (ds ++ gs) = { results := [.lit (.bool true)], args := ds, vars := gs })
    (hW : DataW.Whole enc P f.params.toList s.vars false W args.toList ds gs before)
    (hb : Below W.heap.size W W') :
    s.post enc P f false true false false W args (.bool true) W' := by
  have hW0 := hW
  have hr : ∀ t ∈ f.params.toList, P.readableRec t = true ∧ t < P.types.size := by
    intro t ht
    have := List.all_eq_true.1 hr0 t ht
    simpa using this
  obtain ⟨p, q, hA, hV, hpq, hfz, hnd⟩ := hW
  have hfn := hs H ds gs (all_length _ _ _ _ hA) (vars_length hV)
  refine ⟨ds, gs, before, [], p, q, hW0, ?_, ?_, ?_, hb.frame _, fun h => by cases h⟩
  · rw [hfn, hres]
    exact trodAll_mk1 (shut_bool hT _)
  · rw [hfn]
    exact Kit.trodAll_below hl hb _ _ _ _ hr hA
  · rw [hfn]
    exact Below.trodVars hl hb hv hV
end Go.Proofs.YthobdeidjagnhaaDoor.KitV
