/- Contracts: the program's AclPerm and MaskOf and the model's return, for every list of entries, the perm of the first entry that is asked for. Condition: the list's length. -/
import Derived.Test.YthppbcnejapbiaaGreatDoorAclI
namespace Go.Proofs.YthppbcnejapbiaaGreatDoor.AclQ
open Go.ChangeShapes Go.WideShapes Go.ChangeAt Go.RowKit
open AclV AclS AclB
open Strs (ret_int)
set_option linter.unusedVariables false

def res (x : Int × Bool) : Ending := .returned (.tuple #[.int .i64 x.1, .bool x.2])
/-- The first k entries are not asked for. -/
def NoneTo (l : List At) (p : At → Bool) (k : Nat) : Prop := ∀ i, i < k → p (l.getD i a0) = false
theorem none_zero (l : List At) (p : At → Bool) : NoneTo l p 0 := fun i h => absurd h (Nat.not_lt_zero _)
theorem none_succ {l : List At} {p : At → Bool} {k : Nat} (h : NoneTo l p k) (hk : p (l.getD k a0) = false) : NoneTo l p (k + 1) := fun i hi => by
  rcases Nat.lt_or_ge i k with hji | hji
  · exact h i hji
  · rw [show i = k from by omega]; exact hk
theorem none_all {l : List At} {p : At → Bool} (h : NoneTo l p l.length) : l.find? p = none := by
  have := find_none l p l.length (Nat.le_refl _) h
  rwa [List.take_length] at this
theorem perm_none {l : List At} {t i : Int} (h : NoneTo l (fun x => forB x t i) l.length) : permV l t i = (0, false) := by
  have := none_all h
  unfold permV
  unfold forB at this
  rw [this]
theorem perm_at {l : List At} {t i : Int} {k : Nat} (hk : k < l.length) (h : NoneTo l (fun x => forB x t i) k) (hp : forB (l.getD k a0) t i = true) : permV l t i = ((l.getD k a0).2.2, true) := by
  have := find_at l (fun x => forB x t i) k hk h hp
  unfold permV
  unfold forB at this
  rw [this]
theorem mask_none {l : List At} (h : NoneTo l (fun x => decide (x.1 = 3)) l.length) : maskV l = 7 := by
  unfold maskV
  rw [none_all h]
theorem mask_at {l : List At} {k : Nat} (hk : k < l.length) (h : NoneTo l (fun x => decide (x.1 = 3)) k) (hp : decide ((l.getD k a0).1 = 3) = true) : maskV l = (l.getD k a0).2.2 := by
  unfold maskV
  rw [find_at l (fun x => decide (x.1 = 3)) k hk h hp]


set_option maxRecDepth 100000 in
set_option maxHeartbeats 800000 in
theorem perm_spec (w : World) (v : Value) (l : List At) (t i : Int) (hn : l.length ≤ 1073741824) (h : Ae.Holds w v l) :
    Calls Tryz.prog 179 #[v, .int .i64 t, .int .i64 i] w fun e w' => e = res (permV l t i) ∧ Below w.heap.size w w' := by
  obtain ⟨a, c, rfl, hc⟩ := Ae.atL h
  clear h
  have HC := Lib.hid hc
  clear hc
  obtain ⟨N, hN⟩ : ∃ N, N = l.length := ⟨_, rfl⟩
  rw [← hN] at hn ⊢
  have HN := Lib.hid hN
  clear hN
  go_enter Tryz.func179, Tryz.ntmps179
  go_wp2_with fail
  go_loopw [12] (fun iv wr => ∃ k : Nat, k ≤ N ∧ iv = .int .i64 k ∧ NoneTo l (fun x => forB x t i) k ∧ Below w.heap.size w wr) (fun iv _ => N - (intOf iv).toNat)
  case atStart => exact ⟨0, Nat.zero_le _, rfl, none_zero _ _, Below.refl _ _⟩
  case round =>
    obtain ⟨k, hk, rfl, hno, hbel⟩ := hrel
    have HNO := Lib.hid hno
    have HBEL := Lib.hid hbel
    have hsz := hbel.size
    clear hno hbel
    by_cases hlt : k < N
    · have hlx : k < l.length := by rw [← HN.out]; exact hlt
      obtain ⟨b, o, rfl, hb, g0, g1, g2⟩ := HC.out k hlx
      rw [← HBEL.out.cell (p := ⟨b, _, none⟩) hb] at g0 g1 g2
      cases hp : forB (l.getD k a0) t i
      · have HS := Lib.hid (none_succ HNO.out (show (fun x => forB x t i) (l.getD k a0) = false from hp))
        generalize l.getD k a0 = x at g0 g1 g2 hp
        obtain ⟨n0, n1, n2⟩ := x
        dsimp only at g0 g1 g2
        have HB := Lib.hid (HBEL.out.alloc hsz (.cells #[.int .i64 n0, .int .i64 n1, .int .i64 n2] 161))
        have hp1 : ¬ (n0 = t ∧ n1 = i) := by intro hh; simp [forB, hh.1, hh.2] at hp
        clear hp
        by_cases h0 : n0 = t
        · have h1 : (n1 == i) = false := beq_eq_false_iff_ne.2 (fun hh => hp1 ⟨h0, hh⟩)
          subst h0
          clear hp1
          go_wp2
          go_roundw
          case rel => exact ⟨k + 1, by omega, by go_num, HS.out, HB.out⟩
          case measure => simp [intOf]; omega
        · have h1 : (n0 == t) = false := beq_eq_false_iff_ne.2 h0
          clear hp1
          go_wp2
          go_roundw
          case rel => exact ⟨k + 1, by omega, by go_num, HS.out, HB.out⟩
          case measure => simp [intOf]; omega
      · have HV := Lib.hid (perm_at hlx HNO.out hp)
        generalize l.getD k a0 = x at g0 g1 g2 hp HV
        obtain ⟨n0, n1, n2⟩ := x
        dsimp only at g0 g1 g2 HV
        have HB := Lib.hid (HBEL.out.alloc hsz (.cells #[.int .i64 n0, .int .i64 n1, .int .i64 n2] 161))
        have hp1 : n0 = t ∧ n1 = i := by simpa [forB] using hp
        clear hp
        obtain ⟨rfl, rfl⟩ := hp1
        go_wp2
        go_ret2
        exact ⟨by rw [HV.out]; rfl, HB.out⟩
    · obtain rfl : k = N := by omega
      have HV := Lib.hid (perm_none (l := l) (by rw [← HN.out]; exact HNO.out))
      go_wp2
      go_ret2
      exact ⟨by rw [HV.out]; rfl, HBEL.out⟩

set_option maxRecDepth 100000 in
set_option maxHeartbeats 800000 in
theorem perm_impl (w : World) (v : Value) (l : List At) (t i : Int) (hn : l.length ≤ 1073741824) (h : Ae.Holds w v l) :
    Calls Tryz.prog 216 #[v, .int .i64 t, .int .i64 i] w fun e w' => e = res (permV l t i) ∧ Below w.heap.size w w' := by
  obtain ⟨a, c, rfl, hc⟩ := Ae.atL h
  clear h
  have HC := Lib.hid hc
  clear hc
  obtain ⟨N, hN⟩ : ∃ N, N = l.length := ⟨_, rfl⟩
  rw [← hN] at hn ⊢
  have HN := Lib.hid hN
  clear hN
  go_enter Tryz.func216, Tryz.ntmps216
  go_wp2_with fail
  go_loopw [12] (fun iv wr => ∃ k : Nat, k ≤ N ∧ iv = .int .i64 k ∧ NoneTo l (fun x => forB x t i) k ∧ Below w.heap.size w wr) (fun iv _ => N - (intOf iv).toNat)
  case atStart => exact ⟨0, Nat.zero_le _, rfl, none_zero _ _, Below.refl _ _⟩
  case round =>
    obtain ⟨k, hk, rfl, hno, hbel⟩ := hrel
    have HNO := Lib.hid hno
    have HBEL := Lib.hid hbel
    have hsz := hbel.size
    clear hno hbel
    by_cases hlt : k < N
    · have hlx : k < l.length := by rw [← HN.out]; exact hlt
      obtain ⟨b, o, rfl, hb, g0, g1, g2⟩ := HC.out k hlx
      rw [← HBEL.out.cell (p := ⟨b, _, none⟩) hb] at g0 g1 g2
      cases hp : forB (l.getD k a0) t i
      · have HS := Lib.hid (none_succ HNO.out (show (fun x => forB x t i) (l.getD k a0) = false from hp))
        generalize l.getD k a0 = x at g0 g1 g2 hp
        obtain ⟨n0, n1, n2⟩ := x
        dsimp only at g0 g1 g2
        have he : ∀ W : World, Calls Tryz.prog 237 #[.agg #[.int .i64 n0, .int .i64 n1, .int .i64 n2], .int .i64 t, .int .i64 i] W fun e w' => e = .returned (.bool false) ∧ Below W.heap.size W w' := fun W => by
          have := for_any (n0, n1, n2) t i W
          rw [hp] at this; exact this
        have HE := Lib.hid he
        have HB := Lib.hid (HBEL.out.alloc hsz (.cells #[.int .i64 n0, .int .i64 n1, .int .i64 n2] 161))
        have y2 := cells_new wr #[.int .i64 n0, .int .i64 n1, .int .i64 n2] 161 2 _ rfl
        clear he hp
        go_wp2_with fail
        refine (HE.out _).mono ?_
        rintro e w1 ⟨rfl, hb1⟩
        have q2 := hb1.cell (p := ⟨wr.heap.size, 2, none⟩) (by simp)
        rw [y2] at q2
        replace HB := Lib.hid (HB.out.trans (hb1.mono HB.out.size))
        clear hb1 y2
        go_wp2
        go_roundw
        case rel => exact ⟨k + 1, by omega, by go_num, HS.out, HB.out⟩
        case measure => simp [intOf]; omega
      · have HV := Lib.hid (perm_at hlx HNO.out hp)
        generalize l.getD k a0 = x at g0 g1 g2 hp HV
        obtain ⟨n0, n1, n2⟩ := x
        dsimp only at g0 g1 g2 HV
        have he : ∀ W : World, Calls Tryz.prog 237 #[.agg #[.int .i64 n0, .int .i64 n1, .int .i64 n2], .int .i64 t, .int .i64 i] W fun e w' => e = .returned (.bool true) ∧ Below W.heap.size W w' := fun W => by
          have := for_any (n0, n1, n2) t i W
          rw [hp] at this; exact this
        have HE := Lib.hid he
        have HB := Lib.hid (HBEL.out.alloc hsz (.cells #[.int .i64 n0, .int .i64 n1, .int .i64 n2] 161))
        have y2 := cells_new wr #[.int .i64 n0, .int .i64 n1, .int .i64 n2] 161 2 _ rfl
        clear he hp
        go_wp2_with fail
        refine (HE.out _).mono ?_
        rintro e w1 ⟨rfl, hb1⟩
        have q2 := hb1.cell (p := ⟨wr.heap.size, 2, none⟩) (by simp)
        rw [y2] at q2
        replace HB := Lib.hid (HB.out.trans (hb1.mono HB.out.size))
        clear hb1 y2
        go_wp2
        go_ret2
        exact ⟨by rw [HV.out]; rfl, HB.out⟩
    · obtain rfl : k = N := by omega
      have HV := Lib.hid (perm_none (l := l) (by rw [← HN.out]; exact HNO.out))
      go_wp2
      go_ret2
      exact ⟨by rw [HV.out]; rfl, HBEL.out⟩

set_option maxRecDepth 100000 in
set_option maxHeartbeats 800000 in
theorem mask_spec (w : World) (v : Value) (l : List At) (hn : l.length ≤ 1073741824) (h : Ae.Holds w v l) :
    Calls Tryz.prog 178 #[v] w fun e w' => e = .returned (.int .i64 (maskV l)) ∧ Below w.heap.size w w' := by
  obtain ⟨a, c, rfl, hc⟩ := Ae.atL h
  clear h
  have HC := Lib.hid hc
  clear hc
  obtain ⟨N, hN⟩ : ∃ N, N = l.length := ⟨_, rfl⟩
  rw [← hN] at hn ⊢
  have HN := Lib.hid hN
  clear hN
  go_enter Tryz.func178, Tryz.ntmps178
  go_wp2_with fail
  go_loopw [7] (fun iv wr => ∃ k : Nat, k ≤ N ∧ iv = .int .i64 k ∧ NoneTo l (fun x => decide (x.1 = 3)) k ∧ Below w.heap.size w wr) (fun iv _ => N - (intOf iv).toNat)
  case atStart => exact ⟨0, Nat.zero_le _, rfl, none_zero _ _, Below.refl _ _⟩
  case round =>
    obtain ⟨k, hk, rfl, hno, hbel⟩ := hrel
    have HNO := Lib.hid hno
    have HBEL := Lib.hid hbel
    have hsz := hbel.size
    clear hno hbel
    by_cases hlt : k < N
    · have hlx : k < l.length := by rw [← HN.out]; exact hlt
      obtain ⟨b, o, rfl, hb, g0, g1, g2⟩ := HC.out k hlx
      rw [← HBEL.out.cell (p := ⟨b, _, none⟩) hb] at g0 g1 g2
      by_cases hp : (l.getD k a0).1 = 3
      · have HV := Lib.hid (mask_at hlx HNO.out (decide_eq_true hp))
        generalize l.getD k a0 = x at g0 g1 g2 hp HV
        obtain ⟨n0, n1, n2⟩ := x
        dsimp only at g0 g1 g2 hp HV
        subst hp
        have HB := Lib.hid (HBEL.out.alloc hsz (.cells #[.int .i64 3, .int .i64 n1, .int .i64 n2] 161))
        go_wp2
        go_ret
        exact ⟨ret_int HV.out.symm, HB.out⟩
      · have HS := Lib.hid (none_succ HNO.out (show (fun x : At => decide (x.1 = 3)) (l.getD k a0) = false from decide_eq_false hp))
        generalize l.getD k a0 = x at g0 g1 g2 hp
        obtain ⟨n0, n1, n2⟩ := x
        dsimp only at g0 g1 g2 hp
        have h1 : (n0 == 3) = false := beq_eq_false_iff_ne.2 hp
        have HB := Lib.hid (HBEL.out.alloc hsz (.cells #[.int .i64 n0, .int .i64 n1, .int .i64 n2] 161))
        go_wp2
        go_roundw
        case rel => exact ⟨k + 1, by omega, by go_num, HS.out, HB.out⟩
        case measure => simp [intOf]; omega
    · obtain rfl : k = N := by omega
      have HV := Lib.hid (mask_none (l := l) (by rw [← HN.out]; exact HNO.out))
      go_wp2
      go_ret
      exact ⟨ret_int HV.out.symm, HBEL.out⟩

set_option maxRecDepth 100000 in
set_option maxHeartbeats 800000 in
theorem mask_impl (w : World) (v : Value) (l : List At) (hn : l.length ≤ 1073741824) (h : Ae.Holds w v l) :
    Calls Tryz.prog 188 #[v] w fun e w' => e = .returned (.int .i64 (maskV l)) ∧ Below w.heap.size w w' := by
  obtain ⟨a, c, rfl, hc⟩ := Ae.atL h
  clear h
  have HC := Lib.hid hc
  clear hc
  obtain ⟨N, hN⟩ : ∃ N, N = l.length := ⟨_, rfl⟩
  rw [← hN] at hn ⊢
  have HN := Lib.hid hN
  clear hN
  go_enter Tryz.func188, Tryz.ntmps188
  go_wp2_with fail
  go_loopw [7] (fun iv wr => ∃ k : Nat, k ≤ N ∧ iv = .int .i64 k ∧ NoneTo l (fun x => decide (x.1 = 3)) k ∧ Below w.heap.size w wr) (fun iv _ => N - (intOf iv).toNat)
  case atStart => exact ⟨0, Nat.zero_le _, rfl, none_zero _ _, Below.refl _ _⟩
  case round =>
    obtain ⟨k, hk, rfl, hno, hbel⟩ := hrel
    have HNO := Lib.hid hno
    have HBEL := Lib.hid hbel
    have hsz := hbel.size
    clear hno hbel
    by_cases hlt : k < N
    · have hlx : k < l.length := by rw [← HN.out]; exact hlt
      obtain ⟨b, o, rfl, hb, g0, g1, g2⟩ := HC.out k hlx
      rw [← HBEL.out.cell (p := ⟨b, _, none⟩) hb] at g0 g1 g2
      by_cases hp : (l.getD k a0).1 = 3
      · have HV := Lib.hid (mask_at hlx HNO.out (decide_eq_true hp))
        generalize l.getD k a0 = x at g0 g1 g2 hp HV
        obtain ⟨n0, n1, n2⟩ := x
        dsimp only at g0 g1 g2 hp HV
        subst hp
        have HB := Lib.hid (HBEL.out.alloc hsz (.cells #[.int .i64 3, .int .i64 n1, .int .i64 n2] 161))
        go_wp2
        go_ret
        exact ⟨ret_int HV.out.symm, HB.out⟩
      · have HS := Lib.hid (none_succ HNO.out (show (fun x : At => decide (x.1 = 3)) (l.getD k a0) = false from decide_eq_false hp))
        generalize l.getD k a0 = x at g0 g1 g2 hp
        obtain ⟨n0, n1, n2⟩ := x
        dsimp only at g0 g1 g2 hp
        have h1 : (n0 == 3) = false := beq_eq_false_iff_ne.2 hp
        have HB := Lib.hid (HBEL.out.alloc hsz (.cells #[.int .i64 n0, .int .i64 n1, .int .i64 n2] 161))
        go_wp2
        go_roundw
        case rel => exact ⟨k + 1, by omega, by go_num, HS.out, HB.out⟩
        case measure => simp [intOf]; omega
    · obtain rfl : k = N := by omega
      have HV := Lib.hid (mask_none (l := l) (by rw [← HN.out]; exact HNO.out))
      go_wp2
      go_ret
      exact ⟨ret_int HV.out.symm, HBEL.out⟩
end Go.Proofs.YthppbcnejapbiaaGreatDoor.AclQ
