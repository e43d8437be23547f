/- Contracts and plain facts that a law of this seat leans on. Conditions: as each theorem types them. -/
import Derived.Test.YtjdehgadfjopiaaCur
namespace Go.Proofs.Ytjdehgadfjopiaa.Cur
open Go.ChangeShapes Go.WideShapes Go.ChangeAt Go.RowKit
set_option linter.unusedVariables false

theorem i64_and30 (n : Int) : bits .and .i64 n 1073741823 = n % 1073741824 := by
  have h30 : (BitVec.ofInt 64 1073741823).toNat = 2 ^ 30 - 1 := by decide
  have key : (BitVec.ofInt 64 n &&& BitVec.ofInt 64 1073741823).toNat = (n % ((2 ^ 64 : Nat) : Int)).toNat % 2 ^ 30 := by
    rw [BitVec.toNat_and, BitVec.toNat_ofInt, h30, Nat.and_two_pow_sub_one_eq_mod]
  show IntKind.i64.wrap ((BitVec.ofInt 64 n &&& BitVec.ofInt 64 1073741823).toNat : Nat) = n % 1073741824
  rw [key, IntKind.wrap_i64]
  omega
/-- The seed number behind k bytes. -/
def seedH (ns : List Nat) : Nat → Nat
  | 0 => 1263 + ns.length
  | k + 1 => (seedH ns k * 73 + ns.getD k 0 + 7) % 1073741824
def newH (ns : List Nat) : Nat := seedH ns (min ns.length 4000)
theorem seedH_le (ns : List Nat) (h : ns.length ≤ 1048576) (k : Nat) : seedH ns k ≤ 1073741824 := by
  cases k with
  | zero => simp only [seedH]; omega
  | succ k => simp only [seedH]; omega
theorem cur_new {w : World} {cv : Value} {ns : List Nat} (hc : CodeIn w w.heap.size cv ns) (h : Int) : IsCur (w.alloc (.cells #[cv, .int .i64 0, .int .i64 h] 86)) w.heap.size w.heap.size cv ns 0 h := by
  refine ⟨Nat.le_refl _, code_kept hc (fun k hk => Below.heap_alloc _ _ _ hk), Nat.zero_le _, ?_⟩
  exact (MapKept.heap_alloc w _).1

set_option maxHeartbeats 400000 in
set_option maxRecDepth 100000 in
theorem new_any (w : World) (cv : Value) (ns : List Nat) (hc : CodeIn w w.heap.size cv ns) :
    Calls Try.prog 68 #[cv] w fun e w' => e = .returned (.pointer (some ⟨w.heap.size, 0, none⟩)) ∧ IsCur w' w.heap.size w.heap.size cv ns 0 (newH ns) ∧ Below w.heap.size w w' ∧ w.heap.size < w'.heap.size := by
  have HCC := Lib.hid hc
  obtain ⟨a, cap, rfl, hn, hx, hcells⟩ := hc
  have HX := Lib.hid hx
  have HC := Lib.hid hcells
  have HS := Lib.hid (seedH_le ns hn)
  clear hx hcells
  obtain ⟨n, hN⟩ : ∃ n, n = ns.length := ⟨_, rfl⟩
  rw [← hN] at hn ⊢
  have HN := Lib.hid hN
  clear hN
  have hcase : n = 0 ∨ ∃ b o, a = some ⟨b, o, none⟩ ∧ ∀ j, j < n → w.cell? ⟨b, o + j, none⟩ = some (.int .u8 (ns.getD j 0 : Nat)) := by
    by_cases h0 : n = 0
    · exact .inl h0
    · obtain ⟨b, o, h1, _, h2⟩ := HC.out (by rw [← HN.out]; omega)
      exact .inr ⟨b, o, h1, fun j hj => h2 j (by rw [← HN.out]; exact hj)⟩
  rcases hcase with h0 | ⟨b, o, rfl, hcl⟩
  · subst h0
    go_enter Try.func68, Try.ntmps68
    go_wp2
    refine wp_loop_rounds 1 ?_
    rw [rounds_succ]
    go_wp2
    go_ret
    have hz : ns.length = 0 := HN.out.symm
    have e : (newH ns : Int) = 1263 := by rw [newH, hz]; simp [seedH, hz]
    have hcn := cur_new HCC.out 1263
    rw [e]
    rw [hz] at hcn
    exact ⟨rfl, hcn, (Below.refl _ _).alloc (Nat.le_refl _) _, by simp⟩
  · have HCL := Lib.hid hcl
    clear hcl
    go_enter Try.func68, Try.ntmps68
    go_wp2
    go_loop [3, 4] (fun hv iv => ∃ k s : Nat, k ≤ n ∧ k ≤ 4000 ∧ iv = .int .i64 k ∧ hv = .int .i64 s ∧ s = seedH ns k) (fun _ iv => n - (intOf iv).toNat)
    case atStart => exact ⟨0, 1263 + n, Nat.zero_le _, Nat.zero_le _, rfl, by go_num, by rw [seedH, HN.out]⟩
    case round =>
      obtain ⟨k, s, hk, hk4, rfl, rfl, hs⟩ := hrel
      have hsl := HS.out k
      rw [← hs] at hsl
      have HSD := Lib.hid hs
      clear hs
      by_cases hlt : k < n
      · by_cases h4 : k < 4000
        · have g1 := HCL.out k hlt
          have hxx : ns.getD k 0 ≤ 255 := by
            have hl : k < ns.length := by rw [← HN.out]; exact hlt
            rw [List.getD_eq_getElem?_getD, List.getElem?_eq_getElem hl]
            exact HX.out _ (List.getElem_mem hl)
          have HSN := Lib.hid (show seedH ns (k + 1) = (s * 73 + ns.getD k 0 + 7) % 1073741824 by rw [seedH, ← HSD.out])
          generalize ns.getD k 0 = x at g1 hxx HSN
          go_wp2
          rw [i64_and30]
          go_round
          case rel => exact ⟨k + 1, (s * 73 + x + 7) % 1073741824, by omega, by omega, by go_num, by go_num, HSN.out.symm⟩
          case measure => simp [intOf]; omega
        · have hnh := Lib.hid (show s = newH ns by rw [newH, ← HN.out, show min n 4000 = k by omega]; exact HSD.out)
          go_wp2
          go_ret
          have hcn := cur_new HCC.out s
          rw [← hnh.out]
          rw [← HN.out] at hcn
          exact ⟨rfl, hcn, (Below.refl _ _).alloc (Nat.le_refl _) _, by simp⟩
      · have hnh := Lib.hid (show s = newH ns by rw [newH, ← HN.out, show min n 4000 = k by omega]; exact HSD.out)
        go_wp2
        go_ret
        have hcn := cur_new HCC.out s
        rw [← hnh.out]
        rw [← HN.out] at hcn
        exact ⟨rfl, hcn, (Below.refl _ _).alloc (Nat.le_refl _) _, by simp⟩

/-- The state behind m steps. -/
def after (ns : List Nat) (i : Nat) (h : Int) : Nat → Nat × Int
  | 0 => (i, h)
  | m + 1 => (stepI ns (after ns i h m).1, nextH (after ns i h m).2)
theorem below_at {w W w' : World} {g : Nat} (hb : Below w.heap.size w W) (hlt : w.heap.size ≤ g) (hg : W.grownBy w' (some g)) : Below w.heap.size w w' :=
  hb.grown hg hb.size (fun k hk => by cases hk; exact hlt)
theorem cur_i64 {w : World} {B g : Nat} {cv : Value} {ns : List Nat} {i : Nat} {h : Int} (hc : IsCur w B g cv ns i h) : g < w.heap.size := (Array.getElem?_eq_some_iff.1 hc.2.2.2).1

set_option maxRecDepth 100000 in
set_option maxHeartbeats 400000 in
/-- A number from 0 up to n (1 to 256). -/
theorem below_any (w : World) (B g : Nat) (cv : Value) (ns : List Nat) (i : Nat) (h : Int) (m : Nat) (hm1 : 1 ≤ m) (hm2 : m ≤ 256) (hc : IsCur w B g cv ns i h) :
    Calls Try.prog 66 #[.pointer (some ⟨g, 0, none⟩), .int .i64 m] w fun e w' => e = .returned (.int .i64 (stepX ns i h % m : Nat)) ∧ IsCur w' B g cv ns (stepI ns i) (nextH h) ∧ w.grownBy w' (some g) := by
  have H1 := Lib.hid (byte_any w B g cv ns i h hc)
  clear hc
  have hx := stepX_le ns i h
  generalize stepX ns i h = x at H1 hx ⊢
  have hm0 : ¬ m = 0 := by omega
  go_enter Try.func66, Try.ntmps66
  go_wp2_with fail
  refine H1.out.mono ?_
  rintro e w1 ⟨rfl, hc1, hg1⟩
  go_wp2
  go_ret
  exact ⟨by congr 1, hc1, hg1⟩

set_option maxRecDepth 100000 in
set_option maxHeartbeats 400000 in
/-- A new cursor, moved on by m bytes. -/
theorem moved_any (w : World) (cv : Value) (ns : List Nat) (m : Nat) (hm : m ≤ 1000000) (hc : CodeIn w w.heap.size cv ns) :
    Calls Try.prog 39 #[cv, .int .i64 m] w fun e w' => e = .returned (.pointer (some ⟨w.heap.size, 0, none⟩)) ∧ IsCur w' w.heap.size w.heap.size cv ns (after ns 0 (newH ns) m).1 (after ns 0 (newH ns) m).2 ∧ Below w.heap.size w w' := by
  have H1 := Lib.hid (new_any w cv ns hc)
  clear hc
  go_enter Try.func39, Try.ntmps39
  go_wp2_with fail
  refine H1.out.mono ?_
  rintro e w1 ⟨rfl, hc1, hb1, _⟩
  have HC1 := Lib.hid hc1
  have HB1 := Lib.hid hb1
  clear hc1 hb1
  go_wp2_with fail
  go_loopw [6] (fun iv wr => ∃ k : Nat, k ≤ m ∧ iv = .int .i64 k ∧ IsCur wr w.heap.size w.heap.size cv ns (after ns 0 (newH ns) k).1 (after ns 0 (newH ns) k).2 ∧ Below w.heap.size w wr) (fun iv _ => m - (intOf iv).toNat)
  case atStart => exact ⟨0, Nat.zero_le _, rfl, HC1.out, HB1.out⟩
  case round =>
    obtain ⟨k, hk, rfl, hc, hb⟩ := hrel
    have HC := Lib.hid hc
    have HB := Lib.hid hb
    clear hc hb
    by_cases hlt : k < m
    · go_wp2_with fail
      refine (byte_any _ _ _ _ _ _ _ HC.out).mono ?_
      rintro e w2 ⟨rfl, hc2, hg2⟩
      have HC2 := Lib.hid hc2
      have HB2 := Lib.hid (below_at HB.out (Nat.le_refl _) hg2)
      clear hc2 hg2
      go_wp2
      go_roundw
      case rel => exact ⟨k + 1, by omega, by go_num, HC2.out, HB2.out⟩
      case measure => simp [intOf]; omega
    · obtain rfl : k = m := by omega
      go_wp2_with fail
      go_ret
      exact ⟨rfl, HC.out, HB.out⟩

end Go.Proofs.Ytjdehgadfjopiaa.Cur
