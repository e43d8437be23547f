/- A part. -/
import Derived.Test.YthppbcnejapbiaaGreatDoorAclS
import Derived.Deep.RegionHeld3
import Derived.Deep.RegionLaw
import Derived.StillTailTactics
namespace Go.Proofs.YthppbcnejapbiaaGreatDoor.AclB
set_option maxHeartbeats 800000
set_option maxRecDepth 100000
open Go.ChangeShapes Go.WideShapes Go.ChangeAt Go.RowKit
open AclV AclS
open Dk (ret_bool blk_new)
set_option linter.unusedVariables false
theorem entry_any (x : At) (w : World) :
  Calls Tryz.prog 213 #[.agg #[.int .i64 x.1, .int .i64 x.2.1, .int .i64 x.2.2]] w fun e w' => e = .returned (.bool (entB x)) /\ Below w.heap.size w w' := by
 obtain ⟨n0, n1, n2⟩ := x
 dsimp only
 have HU : ∀ W : World, Calls Tryz.prog 181 #[.int .i64 n1] W fun e w' => e = .returned (.bool (decide (0 <= n1) && decide (n1 <= 3))) /\ W = w' := fun W => user_any n1 W
 have HP : ∀ W : World, Calls Tryz.prog 184 #[.int .i64 n2] W fun e w' => e = .returned (.bool (decide (0 <= n2) && decide (n2 <= 7))) /\ W = w' := fun W => perm_any n2 W
 have HF : ∀ W : World, Calls Tryz.prog 237 #[.agg #[.int .i64 n0, .int .i64 n1, .int .i64 n2], .int .i64 3, .int .i64 0] W fun e w' => e = .returned (.bool (forB (n0, n1, n2) 3 0)) /\ Below W.heap.size W w' := fun W => for_any (n0, n1, n2) 3 0 W
 obtain ⟨u, hu⟩ : ∃ b : Bool, b = (decide (0 <= n1) && decide (n1 <= 3)) := ⟨_, rfl⟩
 obtain ⟨p, hp⟩ : ∃ b : Bool, b = (decide (0 <= n2) && decide (n2 <= 7)) := ⟨_, rfl⟩
 obtain ⟨f, hf⟩ : ∃ b : Bool, b = forB (n0, n1, n2) 3 0 := ⟨_, rfl⟩
 rw [<- hu] at HU
 rw [<- hp] at HP
 rw [<- hf] at HF
 have hv : entB (n0, n1, n2) = (p && (((decide (n0 = 1) || decide (n0 = 2)) && u) || f)) := by
  rw [hu, hp, hf]; simp only [entB, forB, Bool.and_assoc]
 have HU := Lib.hid HU
 have HP := Lib.hid HP
 have HF := Lib.hid HF
 have HV := Lib.hid hv
 clear hu hp hf hv
 have hcase : n0 = 1 \/ n0 = 2 \/ ((n0 == 1) = false /\ (n0 == 2) = false) := by
  by_cases h1 : n0 = 1
  ·exact .inl h1
  ·by_cases h2 : n0 = 2
   ·exact .inr (.inl h2)
   ·exact .inr (.inr ⟨beq_eq_false_iff_ne.2 h1, beq_eq_false_iff_ne.2 h2⟩)
 rcases hcase with rfl | rfl | ⟨e1, e2⟩ <;> cases u <;> cases p
 all_goals
  go_enter Tryz.func213, Tryz.ntmps213
  go_wp2_with fail
  try (refine (HU.out _).mono ?_; rintro e wq ⟨rfl, rfl⟩; go_wp2_with fail)
  refine (HP.out _).mono ?_
  rintro e wq ⟨rfl, rfl⟩
  go_wp2_with fail
  try (refine (HF.out _).mono ?_; rintro e wq ⟨rfl, hb⟩; go_wp2)
  go_ret
  first
   | exact ⟨ret_bool (by rw [HV.out]; first | (simp_all; done) | (simp_all; rfl)), (Below.refl w.heap.size w).alloc (Nat.le_refl _) _⟩
   | exact ⟨ret_bool (by rw [HV.out]; simp_all), ((Below.refl w.heap.size w).alloc (Nat.le_refl _) _).trans (hb.mono (by simp))⟩
theorem cells_new (w : World) (cs : Array Value) (t : TypeId) (j : Nat) (u : Value) (hj : cs[j]? = some u) : (w.alloc (.cells cs t)).cell? ⟨w.heap.size, j, none⟩ = some u := by
 rw [World.cell?_alloc_at _ _ _ _ rfl]; simpa using hj
theorem before_val (n0 n1 n2 m0 m1 m2 : Int) : ltB (n0, n1, n2) (m0, m1, m2) = decide ((if cmpV n0 m0 = 0 then cmpV n1 m1 else cmpV n0 m0) < 0) := by
 simp only [ltB, cmpV]
 by_cases h1 : n0 < m0
 ·simp [h1]
 ·by_cases h2 : m0 < n0
  ·have h3 : ¬ n0 = m0 := by omega
   simp [h1, h2, h3]
  ·have h3 : n0 = m0 := by omega
   by_cases h4 : n1 < m1
   ·simp [h3, h4]
   ·by_cases h5 : m1 < n1 <;> simp [h3, h4, h5]
theorem before_any (x y : At) (w : World) :
  Calls Tryz.prog 214 #[.agg #[.int .i64 x.1, .int .i64 x.2.1, .int .i64 x.2.2], .agg #[.int .i64 y.1, .int .i64 y.2.1, .int .i64 y.2.2]] w fun e w' => e = .returned (.bool (ltB x y)) /\ Below w.heap.size w w' := by
 obtain ⟨n0, n1, n2⟩ := x
 obtain ⟨m0, m1, m2⟩ := y
 dsimp only
 have H1 : ∀ W : World, Calls Tryz.prog 239 #[.int .i64 n0, .int .i64 m0] W fun e w' => e = .returned (.int .i64 (cmpV n0 m0)) /\ W = w' := fun W => cmp_any n0 m0 W
 have H2 : ∀ W : World, Calls Tryz.prog 239 #[.int .i64 n1, .int .i64 m1] W fun e w' => e = .returned (.int .i64 (cmpV n1 m1)) /\ W = w' := fun W => cmp_any n1 m1 W
 have hv := before_val n0 n1 n2 m0 m1 m2
 generalize cmpV n0 m0 = c at H1 hv
 generalize cmpV n1 m1 = d at H2 hv
 have HC := Lib.hid H1
 have HD := Lib.hid H2
 have HV := Lib.hid hv
 clear H1 H2 hv
 go_enter Tryz.func214, Tryz.ntmps214
 go_wp2
 have HC2 := Lib.hid (fun W => (HC.out W).mono (fun e w' (h : e = Ending.returned (Value.int .i64 c) /\ W = w') => (⟨h.1, h.2.symm⟩ : e = Ending.returned (Value.int .i64 c) /\ w' = W)))
 have HD2 := Lib.hid (fun W => (HD.out W).mono (fun e w' (h : e = Ending.returned (Value.int .i64 d) /\ W = w') => (⟨h.1, h.2.symm⟩ : e = Ending.returned (Value.int .i64 d) /\ w' = W)))
 have hb0 := ((Below.refl w.heap.size w).alloc (Nat.le_refl _) (.cells #[.int .i64 n0, .int .i64 n1, .int .i64 n2] 161)).alloc (by simp) (.cells #[.int .i64 m0, .int .i64 m1, .int .i64 m2] 161)
 have x0 : ∀ j u, (#[Value.int .i64 n0, .int .i64 n1, .int .i64 n2] : Array Value)[j]? = some u -> ((w.alloc (.cells #[.int .i64 n0, .int .i64 n1, .int .i64 n2] 161)).alloc (.cells #[.int .i64 m0, .int .i64 m1, .int .i64 m2] 161)).cell? ⟨w.heap.size, j, none⟩ = some u := fun j u h => by
  rw [World.cell?_alloc_lt _ _ _ (by simp)]; exact cells_new _ _ _ _ _ h
 have x1 : ∀ j u, (#[Value.int .i64 m0, .int .i64 m1, .int .i64 m2] : Array Value)[j]? = some u -> ((w.alloc (.cells #[.int .i64 n0, .int .i64 n1, .int .i64 n2] 161)).alloc (.cells #[.int .i64 m0, .int .i64 m1, .int .i64 m2] 161)).cell? ⟨w.heap.size + 1, j, none⟩ = some u := fun j u h => by
  have := cells_new (w.alloc (.cells #[.int .i64 n0, .int .i64 n1, .int .i64 n2] 161)) #[.int .i64 m0, .int .i64 m1, .int .i64 m2] 161 j u h
  rwa [World.size_alloc] at this
 generalize (w.alloc (.cells #[.int .i64 n0, .int .i64 n1, .int .i64 n2] 161)).alloc (.cells #[.int .i64 m0, .int .i64 m1, .int .i64 m2] 161) = w0 at hb0 x0 x1 ⊢
 have y0 : w0.drew.cell? ⟨w.heap.size, 0, none⟩ = some (.int .i64 n0) := x0 0 _ rfl
 have y1 : w0.drew.cell? ⟨w.heap.size, 1, none⟩ = some (.int .i64 n1) := x0 1 _ rfl
 have z0 : w0.drew.cell? ⟨w.heap.size + 1, 0, none⟩ = some (.int .i64 m0) := x1 0 _ rfl
 have z1 : w0.drew.cell? ⟨w.heap.size + 1, 1, none⟩ = some (.int .i64 m1) := x1 1 _ rfl
 have HB := Lib.hid hb0.drew
 refine wp_region_still_tail 10 (by kernel_rfl) (by kernel_rfl) ?_
 change wpStill _ _ w0.drew (fun a' => wpList _ _ _ _ a' w0.drew) _ _
 generalize w0.drew = w1 at y0 y1 z0 z1 HB ⊢
 clear hb0 x0 x1
 simp only [List.take_succ_cons, List.take_zero, List.drop_succ_cons, List.drop_zero]
 iterate 4 still_step
 still_call (HC2.out _)
 iterate 4 still_step
 still_call (HD2.out _)
 refine wpStill_nil ?_
 go_wp2_with fail
 refine (or_any c d _ _ (cells_new _ _ _ 0 _ rfl) (cells_new _ _ _ 1 _ rfl)).mono ?_
 rintro e w2 ⟨rfl, rfl⟩
 go_wp2
 all_goals
  go_ret
  exact ⟨ret_bool (by rw [HV.out]; simp_all), HB.out.alloc HB.out.size _⟩
theorem spec_entry_any (x : At) (w : World) :
  Calls Tryz.prog 209 #[.agg #[.int .i64 x.1, .int .i64 x.2.1, .int .i64 x.2.2]] w fun e w' => e = .returned (.bool (entB x)) /\ Below w.heap.size w w' := by
 obtain ⟨n0, n1, n2⟩ := x
 dsimp only
 have HU : ∀ W : World, Calls Tryz.prog 103 #[.int .i64 n1, .int .i64 0, .int .i64 3] W fun e w' => e = .returned (.bool (decide (0 <= n1) && decide (n1 <= 3))) /\ W = w' := fun W => in_any n1 0 3 W
 have HP : ∀ W : World, Calls Tryz.prog 103 #[.int .i64 n2, .int .i64 0, .int .i64 7] W fun e w' => e = .returned (.bool (decide (0 <= n2) && decide (n2 <= 7))) /\ W = w' := fun W => in_any n2 0 7 W
 obtain ⟨u, hu⟩ : ∃ b : Bool, b = (decide (0 <= n1) && decide (n1 <= 3)) := ⟨_, rfl⟩
 obtain ⟨p, hp⟩ : ∃ b : Bool, b = (decide (0 <= n2) && decide (n2 <= 7)) := ⟨_, rfl⟩
 rw [<- hu] at HU
 rw [<- hp] at HP
 have hv : entB (n0, n1, n2) = (p && (((decide (n0 = 1) || decide (n0 = 2)) && u) || (decide (n0 = 3) && decide (n1 = 0)))) := by
  rw [hu, hp]; simp only [entB, Bool.and_assoc]
 have HU := Lib.hid HU
 have HP := Lib.hid HP
 have HV := Lib.hid hv
 clear hu hp hv
 have hcase : n0 = 1 \/ n0 = 2 \/ n0 = 3 \/ ((n0 == 1) = false /\ (n0 == 2) = false /\ (n0 == 3) = false) := by
  by_cases h1 : n0 = 1
  ·exact .inl h1
  ·by_cases h2 : n0 = 2
   ·exact .inr (.inl h2)
   ·by_cases h3 : n0 = 3
    ·exact .inr (.inr (.inl h3))
    ·exact .inr (.inr (.inr ⟨beq_eq_false_iff_ne.2 h1, beq_eq_false_iff_ne.2 h2, beq_eq_false_iff_ne.2 h3⟩))
 rcases hcase with rfl | rfl | rfl | ⟨e1, e2, e3⟩ <;> cases p
 all_goals
  go_enter Tryz.func209, Tryz.ntmps209
  go_wp2_with fail
  refine (HP.out _).mono ?_
  rintro e wq ⟨rfl, rfl⟩
  go_wp2_with fail
  try (refine (HU.out _).mono ?_; rintro e wq ⟨rfl, rfl⟩; go_wp2_with fail)
  go_ret
  exact ⟨ret_bool (by rw [HV.out]; first | (simp_all; done) | (simp_all; rfl)), (Below.refl w.heap.size w).alloc (Nat.le_refl _) _⟩
end Go.Proofs.YthppbcnejapbiaaGreatDoor.AclB
