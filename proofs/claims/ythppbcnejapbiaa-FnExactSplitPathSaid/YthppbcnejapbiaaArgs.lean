/- The arguments of a call of four to twelve parameters, each with its reading. No condition. -/
import Derived.Test.YthppbcnejapbiaaKit
namespace Go.Proofs.Ythppbcnejapbiaa.Args
open Go.ChangeShapes Go.WideShapes
set_option linter.unusedVariables false
section
variable {H : Type} {enc : TypeId × Value → H} {P : Program} {w : World} {base : Nat} {spare : Nat → Bool} {held : Bool}

theorem opened4 {t0 t1 t2 t3 : TypeId} {args : Array Value} {ds : List (DataW H)} {ps : List MemPlace} (h : DataW.TrodAll enc P w base spare held [t0, t1, t2, t3] args.toList ds ps) :
    ∃ v0 v1 v2 v3 d0 d1 d2 d3, args = #[v0, v1, v2, v3] ∧ ds = [d0, d1, d2, d3] ∧ (∃ p, DataW.Trod enc P w base spare held t0 v0 d0 p) ∧ (∃ p, DataW.Trod enc P w base spare held t1 v1 d1 p) ∧ (∃ p, DataW.Trod enc P w base spare held t2 v2 d2 p) ∧ (∃ p, DataW.Trod enc P w base spare held t3 v3 d3 p) := by
  obtain ⟨v0, r0, d0, s0, p0, q0, hargs, rfl, rfl, e0, i0⟩ := trodAll_cons h
  obtain ⟨v1, r1, d1, s1, p1, q1, rfl, rfl, rfl, e1, i1⟩ := trodAll_cons i0
  obtain ⟨v2, r2, d2, s2, p2, q2, rfl, rfl, rfl, e2, i2⟩ := trodAll_cons i1
  obtain ⟨v3, r3, d3, s3, p3, q3, rfl, rfl, rfl, e3, i3⟩ := trodAll_cons i2
  obtain ⟨rfl, rfl, rfl⟩ := trodAll_nil i3
  exact ⟨v0, v1, v2, v3, d0, d1, d2, d3, by cases args; simp_all, rfl, ⟨_, e0⟩, ⟨_, e1⟩, ⟨_, e2⟩, ⟨_, e3⟩⟩
theorem opened5 {t0 t1 t2 t3 t4 : TypeId} {args : Array Value} {ds : List (DataW H)} {ps : List MemPlace} (h : DataW.TrodAll enc P w base spare held [t0, t1, t2, t3, t4] args.toList ds ps) :
    ∃ v0 v1 v2 v3 v4 d0 d1 d2 d3 d4, args = #[v0, v1, v2, v3, v4] ∧ ds = [d0, d1, d2, d3, d4] ∧ (∃ p, DataW.Trod enc P w base spare held t0 v0 d0 p) ∧ (∃ p, DataW.Trod enc P w base spare held t1 v1 d1 p) ∧ (∃ p, DataW.Trod enc P w base spare held t2 v2 d2 p) ∧ (∃ p, DataW.Trod enc P w base spare held t3 v3 d3 p) ∧ (∃ p, DataW.Trod enc P w base spare held t4 v4 d4 p) := by
  obtain ⟨v0, r0, d0, s0, p0, q0, hargs, rfl, rfl, e0, i0⟩ := trodAll_cons h
  obtain ⟨v1, r1, d1, s1, p1, q1, rfl, rfl, rfl, e1, i1⟩ := trodAll_cons i0
  obtain ⟨v2, r2, d2, s2, p2, q2, rfl, rfl, rfl, e2, i2⟩ := trodAll_cons i1
  obtain ⟨v3, r3, d3, s3, p3, q3, rfl, rfl, rfl, e3, i3⟩ := trodAll_cons i2
  obtain ⟨v4, r4, d4, s4, p4, q4, rfl, rfl, rfl, e4, i4⟩ := trodAll_cons i3
  obtain ⟨rfl, rfl, rfl⟩ := trodAll_nil i4
  exact ⟨v0, v1, v2, v3, v4, d0, d1, d2, d3, d4, by cases args; simp_all, rfl, ⟨_, e0⟩, ⟨_, e1⟩, ⟨_, e2⟩, ⟨_, e3⟩, ⟨_, e4⟩⟩
theorem opened6 {t0 t1 t2 t3 t4 t5 : TypeId} {args : Array Value} {ds : List (DataW H)} {ps : List MemPlace} (h : DataW.TrodAll enc P w base spare held [t0, t1, t2, t3, t4, t5] args.toList ds ps) :
    ∃ v0 v1 v2 v3 v4 v5 d0 d1 d2 d3 d4 d5, args = #[v0, v1, v2, v3, v4, v5] ∧ ds = [d0, d1, d2, d3, d4, d5] ∧ (∃ p, DataW.Trod enc P w base spare held t0 v0 d0 p) ∧ (∃ p, DataW.Trod enc P w base spare held t1 v1 d1 p) ∧ (∃ p, DataW.Trod enc P w base spare held t2 v2 d2 p) ∧ (∃ p, DataW.Trod enc P w base spare held t3 v3 d3 p) ∧ (∃ p, DataW.Trod enc P w base spare held t4 v4 d4 p) ∧ (∃ p, DataW.Trod enc P w base spare held t5 v5 d5 p) := by
  obtain ⟨v0, r0, d0, s0, p0, q0, hargs, rfl, rfl, e0, i0⟩ := trodAll_cons h
  obtain ⟨v1, r1, d1, s1, p1, q1, rfl, rfl, rfl, e1, i1⟩ := trodAll_cons i0
  obtain ⟨v2, r2, d2, s2, p2, q2, rfl, rfl, rfl, e2, i2⟩ := trodAll_cons i1
  obtain ⟨v3, r3, d3, s3, p3, q3, rfl, rfl, rfl, e3, i3⟩ := trodAll_cons i2
  obtain ⟨v4, r4, d4, s4, p4, q4, rfl, rfl, rfl, e4, i4⟩ := trodAll_cons i3
  obtain ⟨v5, r5, d5, s5, p5, q5, rfl, rfl, rfl, e5, i5⟩ := trodAll_cons i4
  obtain ⟨rfl, rfl, rfl⟩ := trodAll_nil i5
  exact ⟨v0, v1, v2, v3, v4, v5, d0, d1, d2, d3, d4, d5, by cases args; simp_all, rfl, ⟨_, e0⟩, ⟨_, e1⟩, ⟨_, e2⟩, ⟨_, e3⟩, ⟨_, e4⟩, ⟨_, e5⟩⟩
theorem opened7 {t0 t1 t2 t3 t4 t5 t6 : TypeId} {args : Array Value} {ds : List (DataW H)} {ps : List MemPlace} (h : DataW.TrodAll enc P w base spare held [t0, t1, t2, t3, t4, t5, t6] args.toList ds ps) :
    ∃ v0 v1 v2 v3 v4 v5 v6 d0 d1 d2 d3 d4 d5 d6, args = #[v0, v1, v2, v3, v4, v5, v6] ∧ ds = [d0, d1, d2, d3, d4, d5, d6] ∧ (∃ p, DataW.Trod enc P w base spare held t0 v0 d0 p) ∧ (∃ p, DataW.Trod enc P w base spare held t1 v1 d1 p) ∧ (∃ p, DataW.Trod enc P w base spare held t2 v2 d2 p) ∧ (∃ p, DataW.Trod enc P w base spare held t3 v3 d3 p) ∧ (∃ p, DataW.Trod enc P w base spare held t4 v4 d4 p) ∧ (∃ p, DataW.Trod enc P w base spare held t5 v5 d5 p) ∧ (∃ p, DataW.Trod enc P w base spare held t6 v6 d6 p) := by
  obtain ⟨v0, r0, d0, s0, p0, q0, hargs, rfl, rfl, e0, i0⟩ := trodAll_cons h
  obtain ⟨v1, r1, d1, s1, p1, q1, rfl, rfl, rfl, e1, i1⟩ := trodAll_cons i0
  obtain ⟨v2, r2, d2, s2, p2, q2, rfl, rfl, rfl, e2, i2⟩ := trodAll_cons i1
  obtain ⟨v3, r3, d3, s3, p3, q3, rfl, rfl, rfl, e3, i3⟩ := trodAll_cons i2
  obtain ⟨v4, r4, d4, s4, p4, q4, rfl, rfl, rfl, e4, i4⟩ := trodAll_cons i3
  obtain ⟨v5, r5, d5, s5, p5, q5, rfl, rfl, rfl, e5, i5⟩ := trodAll_cons i4
  obtain ⟨v6, r6, d6, s6, p6, q6, rfl, rfl, rfl, e6, i6⟩ := trodAll_cons i5
  obtain ⟨rfl, rfl, rfl⟩ := trodAll_nil i6
  exact ⟨v0, v1, v2, v3, v4, v5, v6, d0, d1, d2, d3, d4, d5, d6, by cases args; simp_all, rfl, ⟨_, e0⟩, ⟨_, e1⟩, ⟨_, e2⟩, ⟨_, e3⟩, ⟨_, e4⟩, ⟨_, e5⟩, ⟨_, e6⟩⟩
theorem opened8 {t0 t1 t2 t3 t4 t5 t6 t7 : TypeId} {args : Array Value} {ds : List (DataW H)} {ps : List MemPlace} (h : DataW.TrodAll enc P w base spare held [t0, t1, t2, t3, t4, t5, t6, t7] args.toList ds ps) :
    ∃ v0 v1 v2 v3 v4 v5 v6 v7 d0 d1 d2 d3 d4 d5 d6 d7, args = #[v0, v1, v2, v3, v4, v5, v6, v7] ∧ ds = [d0, d1, d2, d3, d4, d5, d6, d7] ∧ (∃ p, DataW.Trod enc P w base spare held t0 v0 d0 p) ∧ (∃ p, DataW.Trod enc P w base spare held t1 v1 d1 p) ∧ (∃ p, DataW.Trod enc P w base spare held t2 v2 d2 p) ∧ (∃ p, DataW.Trod enc P w base spare held t3 v3 d3 p) ∧ (∃ p, DataW.Trod enc P w base spare held t4 v4 d4 p) ∧ (∃ p, DataW.Trod enc P w base spare held t5 v5 d5 p) ∧ (∃ p, DataW.Trod enc P w base spare held t6 v6 d6 p) ∧ (∃ p, DataW.Trod enc P w base spare held t7 v7 d7 p) := by
  obtain ⟨v0, r0, d0, s0, p0, q0, hargs, rfl, rfl, e0, i0⟩ := trodAll_cons h
  obtain ⟨v1, r1, d1, s1, p1, q1, rfl, rfl, rfl, e1, i1⟩ := trodAll_cons i0
  obtain ⟨v2, r2, d2, s2, p2, q2, rfl, rfl, rfl, e2, i2⟩ := trodAll_cons i1
  obtain ⟨v3, r3, d3, s3, p3, q3, rfl, rfl, rfl, e3, i3⟩ := trodAll_cons i2
  obtain ⟨v4, r4, d4, s4, p4, q4, rfl, rfl, rfl, e4, i4⟩ := trodAll_cons i3
  obtain ⟨v5, r5, d5, s5, p5, q5, rfl, rfl, rfl, e5, i5⟩ := trodAll_cons i4
  obtain ⟨v6, r6, d6, s6, p6, q6, rfl, rfl, rfl, e6, i6⟩ := trodAll_cons i5
  obtain ⟨v7, r7, d7, s7, p7, q7, rfl, rfl, rfl, e7, i7⟩ := trodAll_cons i6
  obtain ⟨rfl, rfl, rfl⟩ := trodAll_nil i7
  exact ⟨v0, v1, v2, v3, v4, v5, v6, v7, d0, d1, d2, d3, d4, d5, d6, d7, by cases args; simp_all, rfl, ⟨_, e0⟩, ⟨_, e1⟩, ⟨_, e2⟩, ⟨_, e3⟩, ⟨_, e4⟩, ⟨_, e5⟩, ⟨_, e6⟩, ⟨_, e7⟩⟩
theorem opened9 {t0 t1 t2 t3 t4 t5 t6 t7 t8 : TypeId} {args : Array Value} {ds : List (DataW H)} {ps : List MemPlace} (h : DataW.TrodAll enc P w base spare held [t0, t1, t2, t3, t4, t5, t6, t7, t8] args.toList ds ps) :
    ∃ v0 v1 v2 v3 v4 v5 v6 v7 v8 d0 d1 d2 d3 d4 d5 d6 d7 d8, args = #[v0, v1, v2, v3, v4, v5, v6, v7, v8] ∧ ds = [d0, d1, d2, d3, d4, d5, d6, d7, d8] ∧ (∃ p, DataW.Trod enc P w base spare held t0 v0 d0 p) ∧ (∃ p, DataW.Trod enc P w base spare held t1 v1 d1 p) ∧ (∃ p, DataW.Trod enc P w base spare held t2 v2 d2 p) ∧ (∃ p, DataW.Trod enc P w base spare held t3 v3 d3 p) ∧ (∃ p, DataW.Trod enc P w base spare held t4 v4 d4 p) ∧ (∃ p, DataW.Trod enc P w base spare held t5 v5 d5 p) ∧ (∃ p, DataW.Trod enc P w base spare held t6 v6 d6 p) ∧ (∃ p, DataW.Trod enc P w base spare held t7 v7 d7 p) ∧ (∃ p, DataW.Trod enc P w base spare held t8 v8 d8 p) := by
  obtain ⟨v0, r0, d0, s0, p0, q0, hargs, rfl, rfl, e0, i0⟩ := trodAll_cons h
  obtain ⟨v1, r1, d1, s1, p1, q1, rfl, rfl, rfl, e1, i1⟩ := trodAll_cons i0
  obtain ⟨v2, r2, d2, s2, p2, q2, rfl, rfl, rfl, e2, i2⟩ := trodAll_cons i1
  obtain ⟨v3, r3, d3, s3, p3, q3, rfl, rfl, rfl, e3, i3⟩ := trodAll_cons i2
  obtain ⟨v4, r4, d4, s4, p4, q4, rfl, rfl, rfl, e4, i4⟩ := trodAll_cons i3
  obtain ⟨v5, r5, d5, s5, p5, q5, rfl, rfl, rfl, e5, i5⟩ := trodAll_cons i4
  obtain ⟨v6, r6, d6, s6, p6, q6, rfl, rfl, rfl, e6, i6⟩ := trodAll_cons i5
  obtain ⟨v7, r7, d7, s7, p7, q7, rfl, rfl, rfl, e7, i7⟩ := trodAll_cons i6
  obtain ⟨v8, r8, d8, s8, p8, q8, rfl, rfl, rfl, e8, i8⟩ := trodAll_cons i7
  obtain ⟨rfl, rfl, rfl⟩ := trodAll_nil i8
  exact ⟨v0, v1, v2, v3, v4, v5, v6, v7, v8, d0, d1, d2, d3, d4, d5, d6, d7, d8, by cases args; simp_all, rfl, ⟨_, e0⟩, ⟨_, e1⟩, ⟨_, e2⟩, ⟨_, e3⟩, ⟨_, e4⟩, ⟨_, e5⟩, ⟨_, e6⟩, ⟨_, e7⟩, ⟨_, e8⟩⟩
theorem opened10 {t0 t1 t2 t3 t4 t5 t6 t7 t8 t9 : TypeId} {args : Array Value} {ds : List (DataW H)} {ps : List MemPlace} (h : DataW.TrodAll enc P w base spare held [t0, t1, t2, t3, t4, t5, t6, t7, t8, t9] args.toList ds ps) :
    ∃ v0 v1 v2 v3 v4 v5 v6 v7 v8 v9 d0 d1 d2 d3 d4 d5 d6 d7 d8 d9, args = #[v0, v1, v2, v3, v4, v5, v6, v7, v8, v9] ∧ ds = [d0, d1, d2, d3, d4, d5, d6, d7, d8, d9] ∧ (∃ p, DataW.Trod enc P w base spare held t0 v0 d0 p) ∧ (∃ p, DataW.Trod enc P w base spare held t1 v1 d1 p) ∧ (∃ p, DataW.Trod enc P w base spare held t2 v2 d2 p) ∧ (∃ p, DataW.Trod enc P w base spare held t3 v3 d3 p) ∧ (∃ p, DataW.Trod enc P w base spare held t4 v4 d4 p) ∧ (∃ p, DataW.Trod enc P w base spare held t5 v5 d5 p) ∧ (∃ p, DataW.Trod enc P w base spare held t6 v6 d6 p) ∧ (∃ p, DataW.Trod enc P w base spare held t7 v7 d7 p) ∧ (∃ p, DataW.Trod enc P w base spare held t8 v8 d8 p) ∧ (∃ p, DataW.Trod enc P w base spare held t9 v9 d9 p) := by
  obtain ⟨v0, r0, d0, s0, p0, q0, hargs, rfl, rfl, e0, i0⟩ := trodAll_cons h
  obtain ⟨v1, r1, d1, s1, p1, q1, rfl, rfl, rfl, e1, i1⟩ := trodAll_cons i0
  obtain ⟨v2, r2, d2, s2, p2, q2, rfl, rfl, rfl, e2, i2⟩ := trodAll_cons i1
  obtain ⟨v3, r3, d3, s3, p3, q3, rfl, rfl, rfl, e3, i3⟩ := trodAll_cons i2
  obtain ⟨v4, r4, d4, s4, p4, q4, rfl, rfl, rfl, e4, i4⟩ := trodAll_cons i3
  obtain ⟨v5, r5, d5, s5, p5, q5, rfl, rfl, rfl, e5, i5⟩ := trodAll_cons i4
  obtain ⟨v6, r6, d6, s6, p6, q6, rfl, rfl, rfl, e6, i6⟩ := trodAll_cons i5
  obtain ⟨v7, r7, d7, s7, p7, q7, rfl, rfl, rfl, e7, i7⟩ := trodAll_cons i6
  obtain ⟨v8, r8, d8, s8, p8, q8, rfl, rfl, rfl, e8, i8⟩ := trodAll_cons i7
  obtain ⟨v9, r9, d9, s9, p9, q9, rfl, rfl, rfl, e9, i9⟩ := trodAll_cons i8
  obtain ⟨rfl, rfl, rfl⟩ := trodAll_nil i9
  exact ⟨v0, v1, v2, v3, v4, v5, v6, v7, v8, v9, d0, d1, d2, d3, d4, d5, d6, d7, d8, d9, by cases args; simp_all, rfl, ⟨_, e0⟩, ⟨_, e1⟩, ⟨_, e2⟩, ⟨_, e3⟩, ⟨_, e4⟩, ⟨_, e5⟩, ⟨_, e6⟩, ⟨_, e7⟩, ⟨_, e8⟩, ⟨_, e9⟩⟩
theorem opened11 {t0 t1 t2 t3 t4 t5 t6 t7 t8 t9 t10 : TypeId} {args : Array Value} {ds : List (DataW H)} {ps : List MemPlace} (h : DataW.TrodAll enc P w base spare held [t0, t1, t2, t3, t4, t5, t6, t7, t8, t9, t10] args.toList ds ps) :
    ∃ v0 v1 v2 v3 v4 v5 v6 v7 v8 v9 v10 d0 d1 d2 d3 d4 d5 d6 d7 d8 d9 d10, args = #[v0, v1, v2, v3, v4, v5, v6, v7, v8, v9, v10] ∧ ds = [d0, d1, d2, d3, d4, d5, d6, d7, d8, d9, d10] ∧ (∃ p, DataW.Trod enc P w base spare held t0 v0 d0 p) ∧ (∃ p, DataW.Trod enc P w base spare held t1 v1 d1 p) ∧ (∃ p, DataW.Trod enc P w base spare held t2 v2 d2 p) ∧ (∃ p, DataW.Trod enc P w base spare held t3 v3 d3 p) ∧ (∃ p, DataW.Trod enc P w base spare held t4 v4 d4 p) ∧ (∃ p, DataW.Trod enc P w base spare held t5 v5 d5 p) ∧ (∃ p, DataW.Trod enc P w base spare held t6 v6 d6 p) ∧ (∃ p, DataW.Trod enc P w base spare held t7 v7 d7 p) ∧ (∃ p, DataW.Trod enc P w base spare held t8 v8 d8 p) ∧ (∃ p, DataW.Trod enc P w base spare held t9 v9 d9 p) ∧ (∃ p, DataW.Trod enc P w base spare held t10 v10 d10 p) := by
  obtain ⟨v0, r0, d0, s0, p0, q0, hargs, rfl, rfl, e0, i0⟩ := trodAll_cons h
  obtain ⟨v1, r1, d1, s1, p1, q1, rfl, rfl, rfl, e1, i1⟩ := trodAll_cons i0
  obtain ⟨v2, r2, d2, s2, p2, q2, rfl, rfl, rfl, e2, i2⟩ := trodAll_cons i1
  obtain ⟨v3, r3, d3, s3, p3, q3, rfl, rfl, rfl, e3, i3⟩ := trodAll_cons i2
  obtain ⟨v4, r4, d4, s4, p4, q4, rfl, rfl, rfl, e4, i4⟩ := trodAll_cons i3
  obtain ⟨v5, r5, d5, s5, p5, q5, rfl, rfl, rfl, e5, i5⟩ := trodAll_cons i4
  obtain ⟨v6, r6, d6, s6, p6, q6, rfl, rfl, rfl, e6, i6⟩ := trodAll_cons i5
  obtain ⟨v7, r7, d7, s7, p7, q7, rfl, rfl, rfl, e7, i7⟩ := trodAll_cons i6
  obtain ⟨v8, r8, d8, s8, p8, q8, rfl, rfl, rfl, e8, i8⟩ := trodAll_cons i7
  obtain ⟨v9, r9, d9, s9, p9, q9, rfl, rfl, rfl, e9, i9⟩ := trodAll_cons i8
  obtain ⟨v10, r10, d10, s10, p10, q10, rfl, rfl, rfl, e10, i10⟩ := trodAll_cons i9
  obtain ⟨rfl, rfl, rfl⟩ := trodAll_nil i10
  exact ⟨v0, v1, v2, v3, v4, v5, v6, v7, v8, v9, v10, d0, d1, d2, d3, d4, d5, d6, d7, d8, d9, d10, by cases args; simp_all, rfl, ⟨_, e0⟩, ⟨_, e1⟩, ⟨_, e2⟩, ⟨_, e3⟩, ⟨_, e4⟩, ⟨_, e5⟩, ⟨_, e6⟩, ⟨_, e7⟩, ⟨_, e8⟩, ⟨_, e9⟩, ⟨_, e10⟩⟩
theorem opened12 {t0 t1 t2 t3 t4 t5 t6 t7 t8 t9 t10 t11 : TypeId} {args : Array Value} {ds : List (DataW H)} {ps : List MemPlace} (h : DataW.TrodAll enc P w base spare held [t0, t1, t2, t3, t4, t5, t6, t7, t8, t9, t10, t11] args.toList ds ps) :
    ∃ v0 v1 v2 v3 v4 v5 v6 v7 v8 v9 v10 v11 d0 d1 d2 d3 d4 d5 d6 d7 d8 d9 d10 d11, args = #[v0, v1, v2, v3, v4, v5, v6, v7, v8, v9, v10, v11] ∧ ds = [d0, d1, d2, d3, d4, d5, d6, d7, d8, d9, d10, d11] ∧ (∃ p, DataW.Trod enc P w base spare held t0 v0 d0 p) ∧ (∃ p, DataW.Trod enc P w base spare held t1 v1 d1 p) ∧ (∃ p, DataW.Trod enc P w base spare held t2 v2 d2 p) ∧ (∃ p, DataW.Trod enc P w base spare held t3 v3 d3 p) ∧ (∃ p, DataW.Trod enc P w base spare held t4 v4 d4 p) ∧ (∃ p, DataW.Trod enc P w base spare held t5 v5 d5 p) ∧ (∃ p, DataW.Trod enc P w base spare held t6 v6 d6 p) ∧ (∃ p, DataW.Trod enc P w base spare held t7 v7 d7 p) ∧ (∃ p, DataW.Trod enc P w base spare held t8 v8 d8 p) ∧ (∃ p, DataW.Trod enc P w base spare held t9 v9 d9 p) ∧ (∃ p, DataW.Trod enc P w base spare held t10 v10 d10 p) ∧ (∃ p, DataW.Trod enc P w base spare held t11 v11 d11 p) := by
  obtain ⟨v0, r0, d0, s0, p0, q0, hargs, rfl, rfl, e0, i0⟩ := trodAll_cons h
  obtain ⟨v1, r1, d1, s1, p1, q1, rfl, rfl, rfl, e1, i1⟩ := trodAll_cons i0
  obtain ⟨v2, r2, d2, s2, p2, q2, rfl, rfl, rfl, e2, i2⟩ := trodAll_cons i1
  obtain ⟨v3, r3, d3, s3, p3, q3, rfl, rfl, rfl, e3, i3⟩ := trodAll_cons i2
  obtain ⟨v4, r4, d4, s4, p4, q4, rfl, rfl, rfl, e4, i4⟩ := trodAll_cons i3
  obtain ⟨v5, r5, d5, s5, p5, q5, rfl, rfl, rfl, e5, i5⟩ := trodAll_cons i4
  obtain ⟨v6, r6, d6, s6, p6, q6, rfl, rfl, rfl, e6, i6⟩ := trodAll_cons i5
  obtain ⟨v7, r7, d7, s7, p7, q7, rfl, rfl, rfl, e7, i7⟩ := trodAll_cons i6
  obtain ⟨v8, r8, d8, s8, p8, q8, rfl, rfl, rfl, e8, i8⟩ := trodAll_cons i7
  obtain ⟨v9, r9, d9, s9, p9, q9, rfl, rfl, rfl, e9, i9⟩ := trodAll_cons i8
  obtain ⟨v10, r10, d10, s10, p10, q10, rfl, rfl, rfl, e10, i10⟩ := trodAll_cons i9
  obtain ⟨v11, r11, d11, s11, p11, q11, rfl, rfl, rfl, e11, i11⟩ := trodAll_cons i10
  obtain ⟨rfl, rfl, rfl⟩ := trodAll_nil i11
  exact ⟨v0, v1, v2, v3, v4, v5, v6, v7, v8, v9, v10, v11, d0, d1, d2, d3, d4, d5, d6, d7, d8, d9, d10, d11, by cases args; simp_all, rfl, ⟨_, e0⟩, ⟨_, e1⟩, ⟨_, e2⟩, ⟨_, e3⟩, ⟨_, e4⟩, ⟨_, e5⟩, ⟨_, e6⟩, ⟨_, e7⟩, ⟨_, e8⟩, ⟨_, e9⟩, ⟨_, e10⟩, ⟨_, e11⟩⟩
end
end Go.Proofs.Ythppbcnejapbiaa.Args
