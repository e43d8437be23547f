/- Helper texts joined, one behind another (a claim has at most 60 files): what each proves, its own head says: YthppbcnejapbiaaGreatDoorApK, YthppbcnejapbiaaGreatDoorEnG. -/
import Derived.OwnWalkIn
import Derived.ArgAppend
import Derived.RangeFuncBox
import Derived.RangeFuncNested
import Derived.RangeFuncBound
import Derived.RangeFuncCalls
import Derived.RangeFuncLeaves
import Derived.Shelf.Abstract
import Derived.Shelf.RegionOpen
import Derived.WalkKit
import Derived.TacticsInMore
import Derived.LoopNIn
import Derived.LoopIn
import Derived.Test.YthppbcnejapbiaaGreatDoorEnBaseA
import Derived.Test.YthppbcnejapbiaaGreatDoorEnBaseF
import Derived.Test.YthppbcnejapbiaaGreatDoorEnBaseO

-- YthppbcnejapbiaaGreatDoorApK
/- An append to a row that the call owns, inside a fence: the new slice lies in the row's own block or in a new one. Conditions: those of the library's law. -/
namespace Go.Proofs.YthppbcnejapbiaaGreatDoor.ApK
open Go Go.RowKit
set_option linter.unusedVariables false

theorem run_append_kept {P : Program} (w : World) (base : Nat) (t ty e : TypeId) (i : TypeInfo) (z : Value) (size bytes : Nat) (ht : P.underlying t = some (.slice e)) (hi : P.info? e = some i) (hz : i.zero = some z)
    (hsize : i.size = size) (hby : i.bytes = bytes) (hzs : z.cells.size = size) (hsz : 0 < size)
    (v : Value) (n : Nat) (xs : List Value) (hown : w.ownsRow base e size v n xs)
    (a : Addr) (m c : Nat) (news : List Value) (hl : news.length = m * size) (hnews : ∀ j u, news[j]? = some u → w.cell? (a.add j) = some u) (h1 : ∀ u ∈ news, u.oneCell' = true)
    (h63 : n + m ≤ maxLen) (hbytes : (n + m) * bytes ≤ 140737488355328) (hbase : base ≤ w.heap.size) :
    ∃ v' w', (Builtin.append_ #[t, t] ty #[v, .slice (some a) m c]).run P w = .ok v' w' ∧ w'.ownsRow base e size v' (n + m) (xs ++ news) ∧ w.grownBy w' v.ownBlock ∧ (v'.ownBlock = v.ownBlock ∨ ∀ k, v'.ownBlock = some k → w.heap.size ≤ k) := by
  obtain ⟨v', w', hrun, r1, r2, _⟩ := run_append_own (P := P) w base t ty e i z size bytes ht hi hz hsize hby hzs hsz v n xs hown a m c news hl hnews h1 h63 hbytes hbase
  refine ⟨v', w', hrun, r1, r2, ?_⟩
  rcases hown.2 with ⟨rfl, h0⟩ | ⟨g, cap, cur, rfl, hb, hg, hn, hm, hs, htk⟩
  · subst h0
    have hx : xs = [] := List.eq_nil_of_length_eq_zero (by have := hown.1; omega)
    subst hx
    obtain ⟨v2, w2, hrun2, s1, _, _⟩ := run_append_own (P := P) w w.heap.size t ty e i z size bytes ht hi hz hsize hby hzs hsz (.slice none 0 0) 0 [] (World.ownsRow_nil w _ e size) a m c news hl hnews h1 h63 hbytes (Nat.le_refl _)
    rw [hrun] at hrun2
    cases hrun2
    exact .inr fun k hk => (s1.lt k hk).1
  · by_cases hroom : n + m ≤ cap
    · have hr := run_append_room (P := P) w t ty e i ht hi g n cap cur hg a m c news (by rw [hl, hsize]) hnews h1 hroom (by rw [hl, hs, hsize, ← Nat.add_mul]; exact Nat.mul_le_mul_right _ hroom)
      rw [hrun] at hr
      cases hr
      exact .inl rfl
    · obtain ⟨v2, w2, hrun2, s1, _⟩ := run_append_arg_grows (P := P) w t ty e i z size bytes ht hi hz hsize hby hzs hsz ⟨g, 0, none⟩ n cap xs hown.1 (fun j u hj => hown.cells rfl j u hj) a m c news hl hnews (by omega) h63 hbytes
      rw [hrun] at hrun2
      cases hrun2
      exact .inr fun k hk => (s1.lt k hk).1
theorem wpListIn_append_kept {F : Fence} {n : Nat} {P : Program} (w : World) {ops : Array Oper} {rest : List Oper} {o : Oper} {a : Act} {Q : Exit → Act → World → Prop}
    (hg : o.guard = none) (s x : Operand) (t : TypeId) (hop : o.op = Op.call { callee := Callee.builtin Builtin.append, args := #[s, x], argTypes := #[t, t] })
    (base : Nat) (e : TypeId) (i : TypeInfo) (z : Value) (size bytes : Nat) (h1 : P.underlying t = some (.slice e)) (h2 : P.info? e = some i) (h3 : i.zero = some z) (h4 : i.size = size) (h5 : i.bytes = bytes) (h6 : z.cells.size = size) (h7 : 0 < size)
    (v : Value) (k : Nat) (xs : List Value) (hs : a.eval s = v) (hown : w.ownsRow base e size v k xs) (ad : Addr) (m c : Nat) (news : List Value) (hx : a.eval x = .slice (some ad) m c) (hn : news.length = m * size)
    (hc : ∀ j u, news[j]? = some u → w.cell? (ad.add j) = some u) (h1c : ∀ u ∈ news, u.oneCell' = true) (b1 : k + m ≤ maxLen) (b2 : (k + m) * bytes ≤ 140737488355328) (b3 : base ≤ w.heap.size)
    (hK : ∀ v' w', w'.ownsRow base e size v' (k + m) (xs ++ news) → w.grownBy w' v.ownBlock → (v'.ownBlock = v.ownBlock ∨ ∀ k, v'.ownBlock = some k → w.heap.size ≤ k) → wpListIn F n P ops Q rest (a.put o.dst v') w') :
    wpListIn F n P ops Q (o :: rest) a w := by
  refine wpListIn_plain hg fun K hK' => ?_
  obtain ⟨v', w', hrun, r1, r2, r3⟩ := run_append_kept (P := P) w base t o.type e i z size bytes h1 h2 h3 h4 h5 h6 h7 v k xs hown ad m c news hn hc h1c b1 b2 b3
  unfold Oper.wpIn
  refine ⟨?_, ?_⟩
  · simp [Oper.about, hop, resolve, Target.leads, Sem.run_pure]
  · rw [Oper.semAt_plain F _ _ (by rw [hop]; intro c hc'; cases hc')]
    simp [execOp, hop, resolve, invoke, builtin, hs, hx, hrun, Result.andThen]
    exact hK' _ _ (hK v' w' r1 r2 r3)
end Go.Proofs.YthppbcnejapbiaaGreatDoor.ApK

-- YthppbcnejapbiaaGreatDoorEnG
/- Contracts: EntriesOf of the program (slices.Collect over the iterator) and of the model. Conditions: as each theorem types them. -/
namespace Go.Proofs.YthppbcnejapbiaaGreatDoor.EnG
open Go.ChangeShapes Go.WideShapes Go.ChangeAt Go.RowKit Go.Shelf
open Foot Bx
open InoV (I usedV needV)
open FsV (F okF e0 z32 usersB)
open FsY FsZ FoB CoN CoFr
open EnV EnP EnI EnD
open EnF (kp_refl kp_alloc)
open De (ecells ecells_app)
open OpF (form_fs)
set_option linter.unusedVariables false
attribute [local go_sem] Oper.semAt_some

theorem dirInfo : (Tryz.prog.info? 75).map (fun i => (i.zero, i.size, i.bytes)) = some (some (.agg #[.string ⟨#[]⟩, .int .i64 0]), 2, 24) := by kernel_rfl
/-- The blocks that a body turns which collects into the variable of block B: the variable, its row. -/
def bbv (B : Nat) (W : World) : List Nat := B :: (match W.cell? ⟨B, 0, none⟩ with | some v => v.ownBlock.toList | none => [])
theorem bbv_of {B : Nat} {t : TypeId} {v : Value} {W : World} (h : Boxed W B t v) : bbv B W = B :: v.ownBlock.toList := by unfold bbv; rw [h.cell]
theorem bbv_below {B : Nat} {W1 W2 : World} (hB : B < W1.heap.size) (hb : Below W1.heap.size W1 W2) : bbv B W2 = bbv B W1 := by
  unfold bbv
  rw [hb.cell (p := ⟨B, 0, none⟩) hB]
theorem kpb_alloc {n₀ B : Nat} {W : World} (hB : B < W.heap.size) (h : n₀ ≤ W.heap.size) (o : Obj) : Kp n₀ (bbv B) W (W.alloc o) := by
  refine ⟨(Below.refl _ W).alloc h o, fun k hk _ _ => Below.heap_alloc W o k hk, fun k hk => .inl ?_⟩
  rwa [bbv_below hB ((Below.refl _ W).alloc (Nat.le_refl _) o)] at hk
theorem kpb_put {n₀ B w0 : Nat} (hn : n₀ ≤ w0) (hB : B < w0) (W : World) (l : Nat) (o o' : Obj) (hl : w0 ≤ l) (h : W.heap[l]? = some o) (hc : o.isCells = false) (hw : o.isWalk = false) : Kp n₀ (bbv B) W (W.putObj l o') := by
  refine ⟨(Below.refl n₀ W).grown (grownBy_putObj' W l o') (by have := (Array.getElem?_eq_some_iff.1 h).1; omega) (fun k e => by cases e; omega), fun k hk hn ⟨cs, t, r, e⟩ => ?_, fun k hk => .inl ?_⟩
  · refine (grownBy_putObj' W l o').block k hk (fun e2 => ?_)
    cases e2
    rw [h] at e
    cases e
    cases hc
  · have e : (W.putObj l o').cell? ⟨B, 0, none⟩ = W.cell? ⟨B, 0, none⟩ := World.cell?_of_block ((grownBy_putObj' W l o').block B (by have := (Array.getElem?_eq_some_iff.1 h).1; omega) (fun e => by cases e; omega))
    unfold bbv at hk ⊢
    rwa [e] at hk
/-- A round that appends. -/
theorem kpb_append {n₀ B : Nat} {t e : TypeId} {size k : Nat} {xs : List Value} {W w1 : World} {v v' : Value} {tmp : Obj} (hv : Boxed W B t v) (hbel : Below n₀ W (w1.setCell ⟨B, 0, none⟩ v')) (hgrow : (W.alloc tmp).grownBy w1 v.ownBlock)
    (hv' : Boxed (w1.setCell ⟨B, 0, none⟩ v') B t v') (hw : v'.ownBlock = v.ownBlock ∨ ∀ k, v'.ownBlock = some k → W.heap.size + 1 ≤ k) : Kp n₀ (bbv B) W (w1.setCell ⟨B, 0, none⟩ v') := by
  refine ⟨hbel, fun k hk hn _ => ?_, fun k hk => ?_⟩
  · rw [bbv_of hv, List.mem_cons, not_or] at hn
    rw [Below.heap_setCell _ _ _ k (fun e => hn.1 e), hgrow.block k (by simp; omega) (fun e => hn.2 (by rw [← e]; simp)), Below.heap_alloc W tmp k hk]
  · rw [bbv_of hv'] at hk
    rw [bbv_of hv]
    rcases List.mem_cons.1 hk with h | h
    · exact .inl (by rw [h]; simp)
    · rcases hw with e | hf
      · rw [e] at h; exact .inl (List.mem_cons_of_mem _ h)
      · refine .inr ?_
        have := hf k (by simpa using h)
        omega

set_option maxRecDepth 100000 in
set_option maxHeartbeats 6400000 in
/-- The entries are collected. -/
theorem append_seq (w : World) (f : F) (k fb db : Nat) (T : Int) (Q M D : Nat) (qa : Option Addr) (qc : Nat) (ia : Option Addr) (ic : Nat) (da : Option Addr) (dc : Nat) (hg : GoodF f k)
    (hf : FsF.Holds w (.agg #[.int .i64 T, .slice qa Q qc, .slice ia M ic, .slice da D dc]) f) (hfb : Bk w fb #[.int .i64 T, .slice qa Q qc, .slice ia M ic, .slice da D dc] 33) (hdb : Bk w db #[.int .i64 k] 3) :
    Calls Tryz.prog 106 #[.slice none 0 0, .func (.func 95) #[] #[.pointer (some ⟨fb, 0, none⟩), .pointer (some ⟨db, 0, none⟩)]] w
      fun e w' => ∃ v, e = .returned v ∧ w'.ownsRow w.heap.size 75 2 v (entsV f k).length (ecells (entsV f k)) ∧ Below w.heap.size w w' := by
  obtain ⟨j0, hy, hy0, hy1, hy2⟩ := info_parts dirInfo
  obtain ⟨w5, hw5⟩ : ∃ w5, w.alloc (.cells #[.slice none 0 0] 37) = w5 := ⟨_, rfl⟩
  have hB5 : Below w.heap.size w w5 := by rw [← hw5]; exact (Below.refl _ w).alloc (Nat.le_refl _) _
  have hs5 : w5.heap.size = w.heap.size + 1 := by rw [← hw5]; simp
  have bS : Boxed w5 w.heap.size 37 (.slice none 0 0) := by rw [← hw5]; exact Boxed.new w _ _
  have bE := hfb.all hB5
  have bK := hdb.all hB5
  obtain ⟨K, hK⟩ : ∃ K, K = (ino f k).size.toNat / 16 := ⟨_, rfl⟩
  have hK16 : K ≤ 16 := by have := hg.size.2.1; omega
  have HE := Lib.hid (ents_stops 2 (by decide) w.heap.size fb db K (bbv w.heap.size) w w5 f k K T Q M D qa qc ia ic da dc (Nat.le_refl _) hg hK hf rfl hB5 bE bK (fun W1 W2 h1 h2 => bbv_below (by omega) h2) (fun x hx => by rw [bbv_of bS] at hx; simp [Value.ownBlock] at hx; omega))
  have HK16 := Lib.hid hK16
  have h0 : w5.ownsRow w.heap.size 75 2 (.slice none 0 0) 0 [] := World.ownsRow_nil _ _ _ _
  have HBS := Lib.hid bS
  have HB5 := Lib.hid hB5
  have HS5 := Lib.hid hs5
  have c0 := bS.cell
  have cf := bS.frozen
  clear hfb hdb bE bK hf hK
  refine (callsIn_wide (n := 3)).1 ?_
  refine callsIn_of_wp_marks Tryz.func106 rfl trivial ?_ rfl
  simp only [Tryz.ntmps106, List.size_toArray, List.length_cons, List.length_nil, Nat.reduceAdd, Nat.reduceSub, Array.replicate_succ, Array.replicate_zero, List.push_toArray, List.append_toArray, List.nil_append, List.cons_append]
  gi_wp2_with fail
  refine wpIn_rangeFunc_ownH rfl (by decide) (gf := 95) (lb := #[.pointer (some ⟨fb, 0, none⟩), .pointer (some ⟨db, 0, none⟩)]) rfl trivial (enters_of Tryz.func95 (by kernel_rfl) rfl)
    HE.out kp_t (kpb_put (by omega) (by omega)) (Below.refl _ _) (fun _ => rfl)
    (fun pre W => (∃ v, Boxed W w.heap.size 37 v ∧ W.ownsRow w.heap.size 75 2 v pre.length (ecells pre) ∧ True) ∧ Below w.heap.size w W)
    (fun c pre W => False)
    (OwnFrom.and ((holdsRow_own w.heap.size w.heap.size 37 75 2 (fun pre : List (ByteArray × Int) => pre.length) (fun pre => ecells pre) (fun _ _ => True)).from _) (ownFrom_below (Nat.le_refl _) HB5.out.size))
    (fun c => fun _ _ _ _ hs _ _ => hs)
    ⟨⟨_, HBS.out, h0, trivial⟩, HB5.out⟩
    (fun x a' W => ∃ Bx, w5.heap.size ≤ Bx ∧ Bk W Bx #[.string x.1, .int .i64 x.2] 75 ∧ a' =
      { tmps := #[.slice none 0 0, .func (.func 95) #[] #[.pointer (some ⟨fb, 0, none⟩), .pointer (some ⟨db, 0, none⟩)], .pointer (some ⟨w.heap.size, 0, none⟩), undef, .slice none 0 0, .pointer (some ⟨Bx, 0, none⟩),
          .func (.func 95) #[] #[.pointer (some ⟨fb, 0, none⟩), .pointer (some ⟨db, 0, none⟩)], .agg #[.string x.1, .int .i64 x.2], undef, undef, undef, undef, undef], defers := [] })
    (fun x a' _ X Y row hs hg hr => by obtain ⟨Bx, h1, h2, h3⟩ := hs; exact ⟨Bx, h1, h2.grown hg (fun e => by obtain ⟨_, o, ho, hc⟩ := hr Bx e.symm; rw [show X.heap[Bx]? = _ from h2] at ho; cases ho; cases hc), h3⟩)
    ?assign ?body ?done ?stop
  case assign =>
    rintro l pre x W KK ⟨⟨v, hbx, hrw, _⟩, hB⟩ hKK
    unfold ev
    generalize x.1 = x1 at hKK ⊢
    generalize x.2 = x2 at hKK ⊢
    have hlt := hbx.lt
    gi_wp2
    exact hKK _ _ ((KeepsOthers.alloc _ _).from _) (kpb_alloc hlt hB.size _) ⟨⟨v, hbx.alloc _, hrw.alloc _, trivial⟩, hB.alloc hB.size _⟩ ⟨W.heap.size, by omega, new W _ _, rfl⟩
  case body =>
    rintro l pre x a' W hl ⟨r, hr⟩ ⟨⟨v, hbx, hrw, _⟩, hB⟩ ⟨Bx, hBx, bX, rfl⟩ hlt
    have HBX := Lib.hid hbx
    have HRW := Lib.hid hrw
    have HB := Lib.hid hB
    have hpl : pre.length < 16 := by have := HK16.out; omega
    obtain ⟨x1, x2⟩ := x
    have q0 := bX.two.1
    have q1 := bX.two.2
    have q2 := hbx.cell
    have q3 := hbx.frozen
    have hWs := hB.size
    have hne : 37 ≠ 75 := by decide
    have hra := hrw.alloc (.cells #[.string x1, .int .i64 x2] 75)
    obtain ⟨m, hm⟩ : ∃ m, m = pre.length := ⟨_, rfl⟩
    rw [← hm] at hra hpl
    have HM := Lib.hid hm
    clear hbx hrw hB bX hlt hm
    dsimp only at q0 q1 ⊢
    gi_wp2_with (gi_at_builtin; go_loud (refine ApK.wpListIn_append_kept _ rfl _ _ 37 rfl w.heap.size 75 j0 (.agg #[.string ⟨#[]⟩, .int .i64 0]) 2 24 Tryz.underlying37 hy hy0 hy1 hy2 rfl (by decide) v m (ecells pre) rfl hra ⟨W.heap.size, 0, none⟩ 1 1 [.string x1, .int .i64 x2] rfl rfl (De.cell_two W (.string x1) (.int .i64 x2) 75) (by simp [Value.oneCell']) ?c1 ?c2 ?c3 ?_))
    case c1 => unfold maxLen; omega
    case c2 => omega
    case c3 => simp only [World.size_alloc]; omega
    intro v9 w9 hown9 hg9 hk9
    obtain ⟨g9, cap9, rfl⟩ := ownsRow_succ hown9
    obtain ⟨a1, a2, a3, a4, a5⟩ := Boxed.appended HBX.out hne HRW.out hWs (Nat.le_refl _) hown9 hg9
    have hkp := kpb_append (e := 75) (size := 2) (k := 0) (xs := []) HBX.out a5 hg9 a2 hk9
    have u0 := a1.cell
    have u1 := a1.frozen
    have HA3 := Lib.hid a3
    have HA4 := Lib.hid a4
    have HA2 := Lib.hid a2
    have HA5 := Lib.hid (HB.out.trans a5)
    have HKP := Lib.hid hkp
    clear a1 a2 a3 a4 a5 hkp hown9 hg9 hk9 q0 q1 q2 q3 hra
    gi_wp2
    exact ⟨HA4.out.from _, HKP.out, ⟨_, HA2.out, by rw [List.length_append, ecells_app, ← HM.out]; exact HA3.out, trivial⟩, HA5.out⟩
  case done =>
    rintro Dd ys W hD rfl ⟨⟨v, hbx, hrw, _⟩, hB⟩ hK'
    have HRW := Lib.hid hrw
    obtain ⟨va, vc, rfl⟩ := Dk.slice_of hrw
    have q2 := hbx.cell
    have hWs := hB.size
    clear hrw
    gi_wp2
    refine ⟨by simp, .inl ⟨_, _, rfl, run_takeDeferred hK', ?_⟩⟩
    refine ⟨.slice va (entsV f k).length vc, ?_, ⟨_, rfl, ownsRow_putObj HRW.out _ hK' rfl, hB.trans (belowK_b (w := w) (Nat.le_refl _) W Dd _ _ (by omega) hK' rfl rfl)⟩⟩
    simp [results, Tryz.results106, go_sem]
  case stop =>
    rintro Dd c pre W hD hst hf hK'
    exact hf.elim

set_option maxRecDepth 100000 in
set_option maxHeartbeats 3200000 in
theorem collect (w : World) (f : F) (k fb db : Nat) (T : Int) (Q M D : Nat) (qa : Option Addr) (qc : Nat) (ia : Option Addr) (ic : Nat) (da : Option Addr) (dc : Nat) (hg : GoodF f k)
    (hf : FsF.Holds w (.agg #[.int .i64 T, .slice qa Q qc, .slice ia M ic, .slice da D dc]) f) (hfb : Bk w fb #[.int .i64 T, .slice qa Q qc, .slice ia M ic, .slice da D dc] 33) (hdb : Bk w db #[.int .i64 k] 3) :
    Calls Tryz.prog 55 #[.func (.func 95) #[] #[.pointer (some ⟨fb, 0, none⟩), .pointer (some ⟨db, 0, none⟩)]] w
      fun e w' => ∃ v, e = .returned v ∧ w'.ownsRow w.heap.size 75 2 v (entsV f k).length (ecells (entsV f k)) ∧ Below w.heap.size w w' := by
  have HA := Lib.hid (append_seq w f k fb db T Q M D qa qc ia ic da dc hg hf hfb hdb)
  clear hf hfb hdb hg
  go_enter Tryz.func55, Tryz.ntmps55
  go_wp2_with fail
  refine (HA.out).mono ?_
  rintro e w1 ⟨v, rfl, hown, hb⟩
  obtain ⟨va, vc, rfl⟩ := Dk.slice_of hown
  go_wp2
  go_ret
  exact ⟨_, rfl, hown, hb⟩

/-- The entries of what may be a directory. -/
def entriesV (f : F) (d : Int) : List (ByteArray × Int) := if dirC f d = 0 then entsV f d.toNat else []
theorem nil_own (w : World) (base : Nat) : De.Own w base (.slice none 0 0) [] [] := ⟨⟨rfl, .inl ⟨rfl, rfl⟩⟩, rfl⟩

set_option maxRecDepth 100000 in
set_option maxHeartbeats 3200000 in
theorem entries_impl (w : World) (v : Value) (f : F) (d : Int) (hc : FsF.cost f ≤ 1073741824) (hl : FsF.Lim f) (hv : InOk.Vars w) (h : FsF.Holds w v f) :
    Calls Tryz.prog 18 #[v, .int .i64 d] w fun e w' => ∃ y S, e = .returned y ∧ De.Own w' w.heap.size y (entriesV f d) S ∧ Below w.heap.size w w' := by
  have HFS := Lib.hid h
  obtain ⟨T, qa, Q, qc, ia, M, ic, da, D, dc, rfl⟩ := form_fs h
  obtain ⟨w0, hw0⟩ : ∃ w0, w.alloc (.cells #[.int .i64 T, .slice qa Q qc, .slice ia M ic, .slice da D dc] 33) = w0 := ⟨_, rfl⟩
  have hB : Below w.heap.size w w0 := by rw [← hw0]; exact (Below.refl _ w).alloc (Nat.le_refl _) _
  have bF : Bk w0 w.heap.size #[.int .i64 T, .slice qa Q qc, .slice ia M ic, .slice da D dc] 33 := by rw [← hw0]; exact new w _ _
  have HB := Lib.hid hB
  have HBF := Lib.hid bF
  obtain ⟨x0, x1, x2, x3⟩ := Bk.c4 bF
  obtain ⟨C, hC⟩ : ∃ C, C = dirC f d := ⟨_, rfl⟩
  have HDI := Lib.hid (show Calls Tryz.prog 49 #[.agg #[.int .i64 T, .slice qa Q qc, .slice ia M ic, .slice da D dc], .int .i64 d] w0 fun e w' => e = .returned (.int .i64 C) ∧ Below w0.heap.size w0 w' from by rw [hC]; exact dir_impl w0 _ f d hc hl (hv.all hB) (FsF.holds_below HFS.out hB))
  clear h hB bF hc hl hv
  by_cases hz : C = 0
  · subst hz
    obtain ⟨k, rfl, hg⟩ := good_of (dirC_ok hC.symm).1
    have HV := Lib.hid (show entriesV f (k : Int) = entsV f k from by unfold entriesV; rw [if_pos hC.symm, Int.toNat_natCast])
    have HG := Lib.hid hg
    clear hC hg
    go_enter Tryz.func18, Tryz.ntmps18
    go_wp2_with fail
    refine (HDI.out).mono ?_
    rintro e w2 ⟨rfl, hb2⟩
    have HB2 := Lib.hid (HB.out.trans (hb2.mono HB.out.size))
    obtain ⟨v0, v1, v2, v3⟩ := Bk.c4 (HBF.out.all hb2)
    clear x0 x1 x2 x3 hb2
    go_wp2_with fail
    refine (in_impl w2 T Q M D qa qc ia ic da dc k).mono ?_
    rintro e w3 ⟨rfl, hw3⟩
    have hb3 : Below w2.heap.size w2 w3 := by rw [hw3]; exact ((Below.refl _ w2).alloc (Nat.le_refl _) _).alloc (by simp) _
    have bE : Bk w3 w2.heap.size #[.int .i64 T, .slice qa Q qc, .slice ia M ic, .slice da D dc] 33 := by rw [hw3]; exact (new w2 _ _).alloc _
    have bK : Bk w3 (w2.heap.size + 1) #[.int .i64 k] 3 := by
      have := new (w2.alloc (.cells #[.int .i64 T, .slice qa Q qc, .slice ia M ic, .slice da D dc] 33)) #[.int .i64 k] 3
      rw [World.size_alloc] at this
      rw [hw3]; exact this
    have HB3 := Lib.hid (HB2.out.trans (hb3.mono HB2.out.size))
    have HCO := Lib.hid (collect w3 f k w2.heap.size (w2.heap.size + 1) T Q M D qa qc ia ic da dc HG.out (FsF.holds_below HFS.out HB3.out) bE bK)
    clear hw3 hb3 bE bK v0 v1 v2 v3
    go_wp2_with fail
    refine (HCO.out).mono ?_
    rintro e w4 ⟨v, rfl, hown, hb4⟩
    obtain ⟨va, vc, rfl⟩ := Dk.slice_of hown
    have HOW := Lib.hid (row_mono hown HB3.out.size)
    have HB4 := Lib.hid (HB3.out.trans (hb4.mono HB3.out.size))
    clear hown hb4
    go_wp2
    go_ret
    exact ⟨_, fpR (.slice va (entsV f k).length vc), rfl, by rw [HV.out]; exact ⟨HOW.out, rfl⟩, HB4.out⟩
  · have HV := Lib.hid (show entriesV f d = [] from by unfold entriesV; rw [if_neg (by rw [← hC]; exact hz)])
    have z1 : (C != 0) = true := by simpa using hz
    have z2 : (C == 0) = false := by simpa using hz
    clear hz hC
    go_enter Tryz.func18, Tryz.ntmps18
    go_wp2_with fail
    refine (HDI.out).mono ?_
    rintro e w2 ⟨rfl, hb2⟩
    go_wp2
    go_ret
    exact ⟨_, [], rfl, by rw [HV.out]; exact nil_own _ _, HB.out.trans (hb2.mono HB.out.size)⟩

set_option maxRecDepth 100000 in
set_option maxHeartbeats 3200000 in
theorem entries_spec (w : World) (v : Value) (f : F) (d : Int) (hc : FsF.cost f ≤ 1073741824) (hl : FsF.Lim f) (h : FsF.Holds w v f) :
    Calls Tryz.prog 17 #[v, .int .i64 d] w fun e w' => ∃ y S, e = .returned y ∧ De.Own w' w.heap.size y (entriesV f d) S ∧ Below w.heap.size w w' := by
  have HFS := Lib.hid h
  obtain ⟨T, qa, Q, qc, ia, M, ic, da, D, dc, rfl⟩ := form_fs h
  obtain ⟨w0, hw0⟩ : ∃ w0, w.alloc (.cells #[.int .i64 T, .slice qa Q qc, .slice ia M ic, .slice da D dc] 33) = w0 := ⟨_, rfl⟩
  have hB : Below w.heap.size w w0 := by rw [← hw0]; exact (Below.refl _ w).alloc (Nat.le_refl _) _
  have bF : Bk w0 w.heap.size #[.int .i64 T, .slice qa Q qc, .slice ia M ic, .slice da D dc] 33 := by rw [← hw0]; exact new w _ _
  have HB := Lib.hid hB
  have HBF := Lib.hid bF
  obtain ⟨x0, x1, x2, x3⟩ := Bk.c4 bF
  obtain ⟨C, hC⟩ : ∃ C, C = dirC f d := ⟨_, rfl⟩
  have HDI := Lib.hid (show Calls Tryz.prog 44 #[.agg #[.int .i64 T, .slice qa Q qc, .slice ia M ic, .slice da D dc], .int .i64 d] w0 fun e w' => e = .returned (.int .i64 C) ∧ Below w0.heap.size w0 w' from by rw [hC]; exact dir_spec w0 _ f d hc hl (FsF.holds_below HFS.out hB))
  clear h hB bF hc hl
  by_cases hz : C = 0
  · subst hz
    obtain ⟨k, rfl, hg⟩ := good_of (dirC_ok hC.symm).1
    have HV := Lib.hid (show entriesV f (k : Int) = entsV f k from by unfold entriesV; rw [if_pos hC.symm, Int.toNat_natCast])
    have HES := Lib.hid (fun (W : World) (hb : Below w.heap.size w W) => EnS.ents_spec W _ f k hg (FsF.holds_below HFS.out hb))
    clear hC hg
    go_enter Tryz.func17, Tryz.ntmps17
    go_wp2_with fail
    refine (HDI.out).mono ?_
    rintro e w2 ⟨rfl, hb2⟩
    have HB2 := Lib.hid (HB.out.trans (hb2.mono HB.out.size))
    obtain ⟨v0, v1, v2, v3⟩ := Bk.c4 (HBF.out.all hb2)
    clear x0 x1 x2 x3 hb2
    go_wp2_with fail
    refine (HES.out _ HB2.out).mono ?_
    rintro e w4 ⟨v, rfl, hown, hb4⟩
    obtain ⟨va, vc, rfl⟩ := Dk.slice_of hown
    have HOW := Lib.hid (row_mono hown HB2.out.size)
    have HB4 := Lib.hid (HB2.out.trans (hb4.mono HB2.out.size))
    clear hown hb4
    go_wp2
    go_ret
    exact ⟨_, fpR (.slice va (entsV f k).length vc), rfl, by rw [HV.out]; exact ⟨HOW.out, rfl⟩, HB4.out⟩
  · have HV := Lib.hid (show entriesV f d = [] from by unfold entriesV; rw [if_neg (by rw [← hC]; exact hz)])
    have z1 : (C != 0) = true := by simpa using hz
    have z2 : (C == 0) = false := by simpa using hz
    clear hz hC
    go_enter Tryz.func17, Tryz.ntmps17
    go_wp2_with fail
    refine (HDI.out).mono ?_
    rintro e w2 ⟨rfl, hb2⟩
    go_wp2
    go_ret
    exact ⟨_, [], rfl, by rw [HV.out]; exact nil_own _ _, HB.out.trans (hb2.mono HB.out.size)⟩
theorem entries_len (f : F) (d : Int) : De.cost (entriesV f d) ≤ 1073741824 ∧ 1 + De.wid (entriesV f d) ≤ 1073741824 := by
  have h16 : (entriesV f d).length ≤ 16 := by
    unfold entriesV
    split
    · rename_i h
      obtain ⟨k, rfl, hg⟩ := good_of (dirC_ok h).1
      rw [Int.toNat_natCast]
      exact EnT.ents_len hg
    · exact Nat.zero_le _
  unfold De.cost De.wid
  omega
end Go.Proofs.YthppbcnejapbiaaGreatDoor.EnG
