/- Contracts: the program's Allowed and the model's. Conditions: the number of groups and of entries. -/
import Derived.Test.YtjdehgadfjopiaaMr
import Derived.Test.YtjdehgadfjopiaaAeIn
namespace Go.Proofs.Ytjdehgadfjopiaa.Al
open Go.ChangeShapes Go.WideShapes Go.ChangeAt Go.RowKit
open Bx CredV ModeV
open AclV (At a0 okB permV maskV)
open Ni (HoldsN)
open Dk (ret_bool)
open Strs (ret_int own_below)
open AclB (cells_new)
set_option linter.unusedVariables false

/-- One of these permissions has all bits of p. -/
def anyB (ps : List Int) (p : Int) : Bool := ps.any fun x => covB x p
def NoneQ (l : List Int) (p : Int) (k : Nat) : Prop := ∀ i, i < k → covB (l.getD i 0) p = false
theorem none_zero (l : List Int) (p : Int) : NoneQ l p 0 := fun i h => absurd h (Nat.not_lt_zero _)
theorem none_succ {l : List Int} {p : Int} {k : Nat} (h : NoneQ l p k) (hk : covB (l.getD k 0) p = false) : NoneQ l p (k + 1) := fun i hi => by
  rcases Nat.lt_or_ge i k with hji | hji
  · exact h i hji
  · rw [show i = k from by omega]; exact hk
def idxQ (l : List Int) (p : Int) : Int := if anyB l p = true then ((l.findIdx fun x => covB x p : Nat) : Int) else -1
theorem any_at {l : List Int} {p : Int} {k : Nat} (hk : k < l.length) (h : NoneQ l p k) (he : covB (l.getD k 0) p = true) : anyB l p = true ∧ idxQ l p = (k : Int) := by
  have h1 : anyB l p = true := by
    rw [anyB, List.any_eq_true]
    exact ⟨l[k], List.getElem_mem hk, by rw [← CrI.getD_get hk]; exact he⟩
  refine ⟨h1, ?_⟩
  rw [idxQ, if_pos h1]
  congr 1
  rw [List.findIdx_eq hk]
  refine ⟨by rw [← CrI.getD_get hk]; exact he, fun j hj => ?_⟩
  have := h j hj
  rw [CrI.getD_get (by omega)] at this
  exact this
theorem any_none {l : List Int} {p : Int} (h : NoneQ l p l.length) : anyB l p = false ∧ idxQ l p = -1 := by
  have h1 : anyB l p = false := by
    rw [anyB, List.any_eq_false]
    intro y hy
    obtain ⟨i, hi, rfl⟩ := List.mem_iff_getElem.1 hy
    have := h i hi
    rw [CrI.getD_get hi] at this
    rw [this]; simp
  exact ⟨h1, by rw [idxQ, if_neg (by rw [h1]; simp)]⟩
theorem idx_sign (l : List Int) (p : Int) : decide (0 ≤ idxQ l p) = anyB l p := by
  unfold idxQ
  cases h : anyB l p
  · rfl
  · rw [if_pos rfl]; exact decide_eq_true (by omega)
/-- The method value. -/
def isFn (p : Int) : Value := .func (.func 46) #[.int .i64 p] #[]

set_option maxRecDepth 100000 in
set_option maxHeartbeats 800000 in
theorem index_any (w : World) (gv : Value) (l : List Int) (x : Int) (hn : l.length ≤ 1073741824) (hx : In8 x) (hl : ∀ y ∈ l, In8 y) (h : HoldsN w gv l) :
    Calls Try.prog 77 #[gv, isFn x] w fun e w' => e = .returned (.int .i64 (idxQ l x)) ∧ w = w' := by
  obtain ⟨a, c, rfl, hc⟩ := h
  have HC := Lib.hid hc
  have HX := Lib.hid hx
  have HL := Lib.hid hl
  clear hc hx hl
  obtain ⟨N, hN⟩ : ∃ N, N = l.length := ⟨_, rfl⟩
  rw [← hN] at hn ⊢
  have HN := Lib.hid hN
  clear hN
  unfold isFn
  go_enter Try.func77, Try.ntmps77
  go_wp2_with fail
  go_loop [8] (fun iv => ∃ k : Nat, k ≤ N ∧ iv = .int .i64 k ∧ NoneQ l x k) (fun iv => N - (intOf iv).toNat)
  case atStart => exact ⟨0, Nat.zero_le _, rfl, none_zero l x⟩
  case round =>
    obtain ⟨k, hk, rfl, hno⟩ := hrel
    have HNO := Lib.hid hno
    clear hno
    by_cases hlt : k < N
    · have hlx : k < l.length := by rw [← HN.out]; exact hlt
      obtain ⟨b, o, rfl, hb, g0⟩ := HC.out k hlx
      have HI := Lib.hid (Pm.isin_any x (l.getD k 0) w HX.out (HL.out _ (by rw [CrI.getD_get hlx]; exact List.getElem_mem hlx)))
      cases he : covB (l.getD k 0) x
      · have HS := Lib.hid (none_succ HNO.out he)
        rw [he] at HI
        clear he
        generalize l.getD k 0 = y at g0 HI
        go_wp2_with fail
        refine HI.out.mono ?_
        rintro e wq ⟨rfl, rfl⟩
        go_wp2
        go_round
        case rel => exact ⟨k + 1, by omega, by go_num, HS.out⟩
        case measure => simp [intOf]; omega
      · have HV := Lib.hid (any_at hlx HNO.out he)
        rw [he] at HI
        clear he
        generalize l.getD k 0 = y at g0 HI
        go_wp2_with fail
        refine HI.out.mono ?_
        rintro e wq ⟨rfl, rfl⟩
        go_wp2
        go_ret
        exact ⟨ret_int HV.out.2.symm, rfl⟩
    · obtain rfl : k = N := by omega
      have HV := Lib.hid (any_none (l := l) (p := x) (by rw [← HN.out]; exact HNO.out))
      go_wp2
      go_ret
      exact ⟨ret_int HV.out.2.symm, rfl⟩
set_option maxRecDepth 100000 in
theorem contains_any (w : World) (gv : Value) (l : List Int) (x : Int) (hn : l.length ≤ 1073741824) (hx : In8 x) (hl : ∀ y ∈ l, In8 y) (h : HoldsN w gv l) :
    Calls Try.prog 72 #[gv, isFn x] w fun e w' => e = .returned (.bool (anyB l x)) ∧ w = w' := by
  have HI := Lib.hid (index_any w gv l x hn hx hl h)
  have HV := Lib.hid (idx_sign l x)
  obtain ⟨a, c, rfl, _⟩ := h
  generalize idxQ l x = y at HI HV
  unfold isFn at HI ⊢
  go_enter Try.func72, Try.ntmps72
  go_wp2_with fail
  refine HI.out.mono ?_
  rintro e wq ⟨rfl, rfl⟩
  go_wp2
  go_ret
  exact ⟨ret_bool HV.out, rfl⟩
set_option maxRecDepth 100000 in
theorem oneof_any (w : World) (gv : Value) (l : List Int) (x : Int) (hn : l.length ≤ 1073741824) (hx : In8 x) (hl : ∀ y ∈ l, In8 y) (h : HoldsN w gv l) :
    Calls Try.prog 49 #[.int .i64 x, gv] w fun e w' => e = .returned (.bool (anyB l x)) ∧ w = w' := by
  have HI := Lib.hid (contains_any w gv l x hn hx hl h)
  obtain ⟨a, c, rfl, _⟩ := h
  unfold isFn at HI
  go_enter Try.func49, Try.ntmps49
  go_wp2_with fail
  refine HI.out.mono ?_
  rintro e wq ⟨rfl, rfl⟩
  go_wp2
  go_ret
  exact ⟨rfl, rfl⟩
theorem class_any (m k : Int) (w : World) :
    Calls Try.prog 47 #[.int .i64 m, .int .i64 k] w fun e w' => e = .returned (.int .i64 (permOfV m k)) ∧ w = w' := by
  have HP := Lib.hid (Pm.perm_impl m k w)
  generalize permOfV m k = r at HP ⊢
  go_enter Try.func47, Try.ntmps47
  go_wp2_with fail
  refine HP.out.mono ?_
  rintro e wq ⟨rfl, rfl⟩
  go_wp2
  go_ret
  exact ⟨rfl, rfl⟩

/-- The permissions that the mask limits. -/
def grpL (c : Cr) (gid mode : Int) (l : List At) : List Int := (if inB c gid = true then [permOfV mode 1] else []) ++ (l.filter (grpB c)).map fun x => x.2.2
def maskL (c : Cr) (gid mode : Int) (l : List At) : List Int := if (permV l 1 c.1).2 = true then [(permV l 1 c.1).1] else grpL c gid mode l
theorem permInfo : (Try.prog.info? 62).map (fun i => (i.zero, i.size, i.bytes)) = some (some (.int .i64 0), 1, 8) := by kernel_rfl
theorem row_one (w : World) (n : Int) (T : TypeId) : (w.alloc (.cells #[.int .i64 n] T)).ownsRow w.heap.size T 1 (.slice (some ⟨w.heap.size, 0, none⟩) 1 1) 1 ([n].map (Value.int .i64)) :=
  ⟨rfl, .inr ⟨w.heap.size, 1, #[.int .i64 n], rfl, Nat.le_refl _, World.alloc_heap_new w _, Nat.le_refl _, by unfold maxLen; omega, rfl, rfl⟩⟩
theorem own_none (w : World) (base : Nat) (T : TypeId) : w.ownsRow base T 1 (.slice none 0 0) 0 (([] : List Int).map (Value.int .i64)) := ⟨rfl, .inl ⟨rfl, rfl⟩⟩
theorem one_new (w : World) (x : Value) (T : TypeId) : ∀ j u, [x][j]? = some u → (w.alloc (.cells #[x] T)).cell? ((⟨w.heap.size, 0, none⟩ : Addr).add j) = some u := by
  intro j u hj
  rw [Addr.add_lit, Nat.zero_add, World.cell?_alloc_at _ _ _ _ rfl]
  simpa using hj
theorem filt_next {l : List At} {k : Nat} (q : At → Bool) (hk : k < l.length) : ((l.take (k + 1)).filter q).map (fun x => x.2.2) = ((l.take k).filter q).map (fun x => x.2.2) ++ (if q (l.getD k a0) = true then [(l.getD k a0).2.2] else []) := by
  have eg : l.getD k a0 = l[k] := by rw [List.getD_eq_getElem?_getD, List.getElem?_eq_getElem hk]; rfl
  rw [List.take_succ_eq_append_getElem hk, List.filter_append, List.map_append, eg]
  congr 1
  by_cases h : q l[k] = true
  · rw [if_pos h]; simp [h]
  · rw [if_neg h]; simp [h]
theorem filt_len (l : List At) (q : At → Bool) (k : Nat) : (((l.take k).filter q).map (fun x => x.2.2)).length ≤ k := by
  rw [List.length_map]
  exact Nat.le_trans (List.length_filter_le _ _) (List.length_take_le _ _)


set_option maxRecDepth 100000 in
set_option maxHeartbeats 3200000 in
theorem masked_any (w : World) (u g : Int) (gv : Value) (gl : List Int) (gid mode : Int) (av : Value) (l : List At) (hgl : gl.length ≤ 1073741824) (hal : l.length ≤ 1048576) (hG : HoldsN w gv gl) (hA : Ae.Holds w av l) :
    Calls Try.prog 48 #[.agg #[.int .i64 u, .int .i64 g, gv], .int .i64 gid, .int .i64 mode, av] w fun e w' => ∃ v, e = .returned v ∧ w'.ownsRow w.heap.size 62 1 v (maskL (u, g, gl) gid mode l).length ((maskL (u, g, gl) gid mode l).map (Value.int .i64)) ∧ Below w.heap.size w w' := by
  obtain ⟨i0, hi, hz0, hz1, hz2⟩ := info_parts permInfo
  have HF0 := Lib.hid hi
  have HF1 := Lib.hid hz0
  have HF2 := Lib.hid hz1
  have HF3 := Lib.hid hz2
  clear hi hz0 hz1 hz2
  have HB := Lib.hid ((Below.refl w.heap.size w).alloc (Nat.le_refl _) (.cells #[.int .i64 u, .int .i64 g, gv] 25))
  have hx := new w #[.int .i64 u, .int .i64 g, gv] 25
  have HG := Lib.hid (Ni.holds_below hG HB.out)
  have HA := Lib.hid (Ae.holds_below hA HB.out)
  obtain ⟨ga, gc, rfl, _⟩ := hG
  obtain ⟨aa, ac, rfl, hat⟩ := Ae.atL hA
  have HAT := Lib.hid hat
  clear hA hat
  have hs0 : w.heap.size < (w.alloc (.cells #[.int .i64 u, .int .i64 g, .slice ga gl.length gc] 25)).heap.size := by simp
  have HPM := Lib.hid (fun W h => AclQ.perm_impl W (.slice aa l.length ac) l 1 u (by omega) h)
  have HIN := Lib.hid (fun W n h => CrI.in_impl W u g (.slice ga gl.length gc) gl n hgl h)
  obtain ⟨NG, hNG⟩ : ∃ NG, NG = gl.length := ⟨_, rfl⟩
  rw [← hNG] at hx HB HG HA hs0 HIN ⊢
  clear hNG hgl
  obtain ⟨N, hN⟩ : ∃ N, N = l.length := ⟨_, rfl⟩
  rw [← hN] at HA HPM hal ⊢
  have HN := Lib.hid hN
  clear hN
  generalize hpv : permV l 1 u = pv at HPM
  obtain ⟨pn, pb⟩ := pv
  have HPV := Lib.hid hpv
  clear hpv
  go_enter Try.func48, Try.ntmps48
  go_wp2_with fail
  generalize w.alloc (.cells #[.int .i64 u, .int .i64 g, .slice ga NG gc] 25) = w0 at hx HB HG HA hs0 ⊢
  obtain ⟨c0, c1, c2⟩ := Bk.three hx
  have HX := Lib.hid hx
  clear hx
  go_wp2_with fail
  refine (HPM.out _ HA.out).mono ?_
  rintro e w1 ⟨rfl, hb⟩
  dsimp only [AclQ.res]
  replace HX := Lib.hid (HX.out.all hb)
  replace HB := Lib.hid (HB.out.trans (hb.mono HB.out.size))
  replace HG := Lib.hid (Ni.holds_below HG.out hb)
  replace HA := Lib.hid (Ae.holds_below HA.out hb)
  have hs1 : w.heap.size < w1.heap.size := Nat.lt_of_lt_of_le hs0 hb.size
  clear c0 c1 c2 hb hs0
  obtain ⟨c0, c1, c2⟩ := Bk.three HX.out
  cases pb
  · have HV := Lib.hid (show maskL (u, g, gl) gid mode l = grpL (u, g, gl) gid mode l by rw [maskL]; dsimp only; rw [HPV.out]; rfl)
    go_wp2_with fail
    refine (HIN.out _ gid HG.out).mono ?_
    rintro e w2 ⟨rfl, hb⟩
    replace HX := Lib.hid (HX.out.all hb)
    replace HB := Lib.hid (HB.out.trans (hb.mono HB.out.size))
    replace HG := Lib.hid (Ni.holds_below HG.out hb)
    replace HA := Lib.hid (Ae.holds_below HA.out hb)
    have hs2 : w.heap.size < w2.heap.size := Nat.lt_of_lt_of_le hs1 hb.size
    clear c0 c1 c2 hb hs1
    obtain ⟨c0, c1, c2⟩ := Bk.three HX.out
    cases hin : inB (u, g, gl) gid
    · have HI1 := Lib.hid (show grpL (u, g, gl) gid mode l = [] ++ (l.filter (grpB (u, g, gl))).map fun x => x.2.2 by rw [grpL, hin]; rfl)
      clear hin
      go_wp2_with fail
      go_loopw [11, 34] (fun pv iv wr => ∃ (k : Nat) (ps : List Int) (a : Option Addr) (c : Nat), k ≤ N ∧ iv = .int .i64 k ∧ pv = .slice a ps.length c ∧ ps.length ≤ 1 + k ∧ ps = ([] : List Int) ++ ((l.take k).filter (grpB (u, g, gl))).map (fun x => x.2.2) ∧ wr.ownsRow w2.heap.size 62 1 (.slice a ps.length c) ps.length (ps.map (Value.int .i64)) ∧ Below w2.heap.size w2 wr) (fun _ iv _ => N - (intOf iv).toNat)
      case atStart => exact ⟨0, [], none, 0, Nat.zero_le _, rfl, rfl, by simp, by simp, own_none w2 _ _, Below.refl _ _⟩
      case round =>
        obtain ⟨k, ps, a9, c9, hk, rfl, rfl, hpl, hps, hown, hbel⟩ := hrel
        have HPS := Lib.hid hps
        have HO := Lib.hid hown
        have HBEL := Lib.hid hbel
        have HBR := Lib.hid (HB.out.trans (hbel.mono HB.out.size))
        have hwr : w.heap.size < wr.heap.size := Nat.lt_of_lt_of_le hs2 hbel.size
        have hsz := hbel.size
        have HXR := Lib.hid (HX.out.all hbel)
        obtain ⟨c0, c1, c2⟩ := Bk.three HXR.out
        clear hps hown hbel
        by_cases hlt : k < N
        · have hlx : k < l.length := by rw [← HN.out]; exact hlt
          obtain ⟨b, o, rfl, hb, g0, g1, g2⟩ := HAT.out k hlx
          rw [← HBR.out.cell (p := ⟨b, _, none⟩) hb] at g0 g1 g2
          have HQ := Lib.hid (filt_next (grpB (u, g, gl)) hlx)
          have HQL := Lib.hid (filt_len l (grpB (u, g, gl)) (k + 1))
          have HGR := Lib.hid (Ni.holds_below HG.out HBEL.out)
          cases hgq : grpB (u, g, gl) (l.getD k a0)
          · rw [hgq, if_neg (by simp), List.append_nil] at HQ
            have HPS2 := Lib.hid (show ps = ([] : List Int) ++ ((l.take (k + 1)).filter (grpB (u, g, gl))).map (fun x => x.2.2) by rw [HQ.out]; exact HPS.out)
            have HGQ := Lib.hid hgq
            clear hgq HQ
            generalize l.getD k a0 = x at g0 g1 g2 HGQ
            obtain ⟨n0, n1, n2⟩ := x
            dsimp only at g0 g1 g2
            have HB2 := Lib.hid (HBEL.out.alloc hsz (.cells #[.int .i64 n0, .int .i64 n1, .int .i64 n2] 69))
            have HO2 := Lib.hid (World.ownsRow.alloc HO.out (.cells #[.int .i64 n0, .int .i64 n1, .int .i64 n2] 69))
            have HG2 := Lib.hid (Ni.holds_below HGR.out ((Below.refl wr.heap.size wr).alloc (Nat.le_refl _) (.cells #[.int .i64 n0, .int .i64 n1, .int .i64 n2] 69)))
            by_cases h0 : n0 = 2
            · have hib : inB (u, g, gl) n1 = false := by have := HGQ.out; simp only [grpB, h0, decide_true, Bool.true_and] at this; exact this
              subst h0
              have HI := Lib.hid (HIN.out _ n1 HG2.out)
              rw [hib] at HI
              clear hib
              go_wp2_with fail
              refine HI.out.mono ?_
              rintro e w5 ⟨rfl, hb5⟩
              replace HO2 := Lib.hid (own_below HO2.out hb5)
              replace HB2 := Lib.hid (HB2.out.trans (hb5.mono HB2.out.size))
              clear hb5
              go_wp2
              go_roundw
              case rel => exact ⟨k + 1, ps, _, _, by omega, by go_num, rfl, by omega, HPS2.out, HO2.out, HB2.out⟩
              case measure => simp [intOf]; omega
            · have h1 : (n0 == 2) = false := beq_eq_false_iff_ne.2 h0
              clear h0
              go_wp2
              go_roundw
              case rel => exact ⟨k + 1, ps, _, _, by omega, by go_num, rfl, by omega, HPS2.out, HO2.out, HB2.out⟩
              case measure => simp [intOf]; omega
          · rw [hgq, if_pos rfl] at HQ
            have HGQ := Lib.hid hgq
            clear hgq
            generalize l.getD k a0 = x at g0 g1 g2 HGQ HQ
            obtain ⟨n0, n1, n2⟩ := x
            dsimp only at g0 g1 g2 HQ
            have HPS2 := Lib.hid (show ps ++ [n2] = ([] : List Int) ++ ((l.take (k + 1)).filter (grpB (u, g, gl))).map (fun x => x.2.2) by rw [HQ.out, HPS.out, List.append_assoc])
            have hib : n0 = 2 ∧ inB (u, g, gl) n1 = true := by
              have := HGQ.out
              simp only [grpB, Bool.and_eq_true, decide_eq_true_eq] at this
              exact this
            obtain ⟨rfl, hib⟩ := hib
            have HB2 := Lib.hid (HBEL.out.alloc hsz (.cells #[.int .i64 2, .int .i64 n1, .int .i64 n2] 69))
            have HO2 := Lib.hid (World.ownsRow.alloc HO.out (.cells #[.int .i64 2, .int .i64 n1, .int .i64 n2] 69))
            have HG2 := Lib.hid (Ni.holds_below HGR.out ((Below.refl wr.heap.size wr).alloc (Nat.le_refl _) (.cells #[.int .i64 2, .int .i64 n1, .int .i64 n2] 69)))
            have HI := Lib.hid (HIN.out _ n1 HG2.out)
            rw [hib] at HI
            have y2 := cells_new wr #[.int .i64 2, .int .i64 n1, .int .i64 n2] 69 2 _ rfl
            clear hib HQ HGQ
            go_wp2_with fail
            refine HI.out.mono ?_
            rintro e w5 ⟨rfl, hb5⟩
            have q2 := (hb5.cell (p := ⟨wr.heap.size, 2, none⟩) (by simp)).trans y2
            replace HO2 := Lib.hid (World.ownsRow.alloc (own_below HO2.out hb5) (.cells #[.int .i64 n2] 62))
            replace HB2 := Lib.hid (HB2.out.trans (hb5.mono HB2.out.size))
            have hs5 := HB2.out.size
            clear hb5 y2
            go_wp2_with (first | (at_builtin; refine wpList_append_own _ rfl _ _ 65 rfl w2.heap.size 62 i0 (.int .i64 0) 1 8 Try.underlying65 HF0.out HF1.out HF2.out HF3.out rfl (by decide) _ _ _ rfl HO2.out ⟨w5.heap.size, 0, none⟩ 1 1 [.int .i64 n2] rfl rfl (one_new _ _ _) (by simp [Value.oneCell']) (by unfold maxLen; omega) (by omega) (by simp only [World.size_alloc]; omega) ?_))
            intro v9 w9 hown9 hg9 _
            obtain ⟨a8, c8, rfl⟩ := Dk.slice_of hown9
            have HO9 := Lib.hid hown9
            have HB9 := Lib.hid ((HB2.out.alloc hs5 (.cells #[.int .i64 n2] 62)).grown hg9 (by simp; omega) (fun k hk => (HO2.out.lt k hk).1))
            clear hown9 hg9
            go_wp2
            go_roundw
            case rel => exact ⟨k + 1, ps ++ [n2], _, _, by omega, by go_num, by rw [List.length_append]; rfl, by rw [List.length_append, List.length_singleton]; omega, HPS2.out, by rw [List.length_append, List.length_singleton, List.map_append]; exact HO9.out, HB9.out⟩
            case measure => simp [intOf]; omega
        · obtain rfl : k = N := by omega
          have HR := Lib.hid (show maskL (u, g, gl) gid mode l = ps by rw [HV.out, HI1.out, HPS.out, HN.out, List.take_length])
          go_wp2
          go_ret
          refine ⟨_, rfl, ?_, HBR.out⟩
          rw [HR.out]
          exact SplitAny.own_mono HO.out HB.out.size

    · have HI1 := Lib.hid (show grpL (u, g, gl) gid mode l = [permOfV mode 1] ++ (l.filter (grpB (u, g, gl))).map fun x => x.2.2 by rw [grpL, hin]; rfl)
      have HCL := Lib.hid (class_any mode 1 w2)
      generalize permOfV mode 1 = p1 at HI1 HCL
      have HO2 := Lib.hid (World.ownsRow.alloc (own_none w2 w2.heap.size 62) (.cells #[.int .i64 p1] 62))
      clear hin
      go_wp2_with fail
      refine HCL.out.mono ?_
      rintro e wq ⟨rfl, rfl⟩
      go_wp2_with (first | (at_builtin; refine wpList_append_own _ rfl _ _ 65 rfl w2.heap.size 62 i0 (.int .i64 0) 1 8 Try.underlying65 HF0.out HF1.out HF2.out HF3.out rfl (by decide) _ _ _ rfl HO2.out ⟨w2.heap.size, 0, none⟩ 1 1 [.int .i64 p1] rfl rfl (one_new _ _ _) (by simp [Value.oneCell']) (by unfold maxLen; omega) (by omega) (by simp only [World.size_alloc]; omega) ?_))
      intro v9 w9 hown9 hg9 _
      obtain ⟨a8, c8, rfl⟩ := Dk.slice_of hown9
      have HO9 := Lib.hid hown9
      have HB9 := Lib.hid (((Below.refl w2.heap.size w2).alloc (Nat.le_refl _) (.cells #[.int .i64 p1] 62)).grown hg9 (by simp) (fun k hk => (HO2.out.lt k hk).1))
      clear hown9 hg9
      go_wp2_with fail
      go_loopw [11, 34] (fun pv iv wr => ∃ (k : Nat) (ps : List Int) (a : Option Addr) (c : Nat), k ≤ N ∧ iv = .int .i64 k ∧ pv = .slice a ps.length c ∧ ps.length ≤ 1 + k ∧ ps = [p1] ++ ((l.take k).filter (grpB (u, g, gl))).map (fun x => x.2.2) ∧ wr.ownsRow w2.heap.size 62 1 (.slice a ps.length c) ps.length (ps.map (Value.int .i64)) ∧ Below w2.heap.size w2 wr) (fun _ iv _ => N - (intOf iv).toNat)
      case atStart => exact ⟨0, [p1], _, _, Nat.zero_le _, rfl, rfl, by simp, by simp, HO9.out, HB9.out⟩
      case round =>
        obtain ⟨k, ps, a9, c9, hk, rfl, rfl, hpl, hps, hown, hbel⟩ := hrel
        have HPS := Lib.hid hps
        have HO := Lib.hid hown
        have HBEL := Lib.hid hbel
        have HBR := Lib.hid (HB.out.trans (hbel.mono HB.out.size))
        have hwr : w.heap.size < wr.heap.size := Nat.lt_of_lt_of_le hs2 hbel.size
        have hsz := hbel.size
        have HXR := Lib.hid (HX.out.all hbel)
        obtain ⟨c0, c1, c2⟩ := Bk.three HXR.out
        clear hps hown hbel
        by_cases hlt : k < N
        · have hlx : k < l.length := by rw [← HN.out]; exact hlt
          obtain ⟨b, o, rfl, hb, g0, g1, g2⟩ := HAT.out k hlx
          rw [← HBR.out.cell (p := ⟨b, _, none⟩) hb] at g0 g1 g2
          have HQ := Lib.hid (filt_next (grpB (u, g, gl)) hlx)
          have HQL := Lib.hid (filt_len l (grpB (u, g, gl)) (k + 1))
          have HGR := Lib.hid (Ni.holds_below HG.out HBEL.out)
          cases hgq : grpB (u, g, gl) (l.getD k a0)
          · rw [hgq, if_neg (by simp), List.append_nil] at HQ
            have HPS2 := Lib.hid (show ps = [p1] ++ ((l.take (k + 1)).filter (grpB (u, g, gl))).map (fun x => x.2.2) by rw [HQ.out]; exact HPS.out)
            have HGQ := Lib.hid hgq
            clear hgq HQ
            generalize l.getD k a0 = x at g0 g1 g2 HGQ
            obtain ⟨n0, n1, n2⟩ := x
            dsimp only at g0 g1 g2
            have HB2 := Lib.hid (HBEL.out.alloc hsz (.cells #[.int .i64 n0, .int .i64 n1, .int .i64 n2] 69))
            have HO2 := Lib.hid (World.ownsRow.alloc HO.out (.cells #[.int .i64 n0, .int .i64 n1, .int .i64 n2] 69))
            have HG2 := Lib.hid (Ni.holds_below HGR.out ((Below.refl wr.heap.size wr).alloc (Nat.le_refl _) (.cells #[.int .i64 n0, .int .i64 n1, .int .i64 n2] 69)))
            by_cases h0 : n0 = 2
            · have hib : inB (u, g, gl) n1 = false := by have := HGQ.out; simp only [grpB, h0, decide_true, Bool.true_and] at this; exact this
              subst h0
              have HI := Lib.hid (HIN.out _ n1 HG2.out)
              rw [hib] at HI
              clear hib
              go_wp2_with fail
              refine HI.out.mono ?_
              rintro e w5 ⟨rfl, hb5⟩
              replace HO2 := Lib.hid (own_below HO2.out hb5)
              replace HB2 := Lib.hid (HB2.out.trans (hb5.mono HB2.out.size))
              clear hb5
              go_wp2
              go_roundw
              case rel => exact ⟨k + 1, ps, _, _, by omega, by go_num, rfl, by omega, HPS2.out, HO2.out, HB2.out⟩
              case measure => simp [intOf]; omega
            · have h1 : (n0 == 2) = false := beq_eq_false_iff_ne.2 h0
              clear h0
              go_wp2
              go_roundw
              case rel => exact ⟨k + 1, ps, _, _, by omega, by go_num, rfl, by omega, HPS2.out, HO2.out, HB2.out⟩
              case measure => simp [intOf]; omega
          · rw [hgq, if_pos rfl] at HQ
            have HGQ := Lib.hid hgq
            clear hgq
            generalize l.getD k a0 = x at g0 g1 g2 HGQ HQ
            obtain ⟨n0, n1, n2⟩ := x
            dsimp only at g0 g1 g2 HQ
            have HPS2 := Lib.hid (show ps ++ [n2] = [p1] ++ ((l.take (k + 1)).filter (grpB (u, g, gl))).map (fun x => x.2.2) by rw [HQ.out, HPS.out, List.append_assoc])
            have hib : n0 = 2 ∧ inB (u, g, gl) n1 = true := by
              have := HGQ.out
              simp only [grpB, Bool.and_eq_true, decide_eq_true_eq] at this
              exact this
            obtain ⟨rfl, hib⟩ := hib
            have HB2 := Lib.hid (HBEL.out.alloc hsz (.cells #[.int .i64 2, .int .i64 n1, .int .i64 n2] 69))
            have HO2 := Lib.hid (World.ownsRow.alloc HO.out (.cells #[.int .i64 2, .int .i64 n1, .int .i64 n2] 69))
            have HG2 := Lib.hid (Ni.holds_below HGR.out ((Below.refl wr.heap.size wr).alloc (Nat.le_refl _) (.cells #[.int .i64 2, .int .i64 n1, .int .i64 n2] 69)))
            have HI := Lib.hid (HIN.out _ n1 HG2.out)
            rw [hib] at HI
            have y2 := cells_new wr #[.int .i64 2, .int .i64 n1, .int .i64 n2] 69 2 _ rfl
            clear hib HQ HGQ
            go_wp2_with fail
            refine HI.out.mono ?_
            rintro e w5 ⟨rfl, hb5⟩
            have q2 := (hb5.cell (p := ⟨wr.heap.size, 2, none⟩) (by simp)).trans y2
            replace HO2 := Lib.hid (World.ownsRow.alloc (own_below HO2.out hb5) (.cells #[.int .i64 n2] 62))
            replace HB2 := Lib.hid (HB2.out.trans (hb5.mono HB2.out.size))
            have hs5 := HB2.out.size
            clear hb5 y2
            go_wp2_with (first | (at_builtin; refine wpList_append_own _ rfl _ _ 65 rfl w2.heap.size 62 i0 (.int .i64 0) 1 8 Try.underlying65 HF0.out HF1.out HF2.out HF3.out rfl (by decide) _ _ _ rfl HO2.out ⟨w5.heap.size, 0, none⟩ 1 1 [.int .i64 n2] rfl rfl (one_new _ _ _) (by simp [Value.oneCell']) (by unfold maxLen; omega) (by omega) (by simp only [World.size_alloc]; omega) ?_))
            intro v9 w9 hown9 hg9 _
            obtain ⟨a8, c8, rfl⟩ := Dk.slice_of hown9
            have HO9 := Lib.hid hown9
            have HB9 := Lib.hid ((HB2.out.alloc hs5 (.cells #[.int .i64 n2] 62)).grown hg9 (by simp; omega) (fun k hk => (HO2.out.lt k hk).1))
            clear hown9 hg9
            go_wp2
            go_roundw
            case rel => exact ⟨k + 1, ps ++ [n2], _, _, by omega, by go_num, by rw [List.length_append]; rfl, by rw [List.length_append, List.length_singleton]; omega, HPS2.out, by rw [List.length_append, List.length_singleton, List.map_append]; exact HO9.out, HB9.out⟩
            case measure => simp [intOf]; omega
        · obtain rfl : k = N := by omega
          have HR := Lib.hid (show maskL (u, g, gl) gid mode l = ps by rw [HV.out, HI1.out, HPS.out, HN.out, List.take_length])
          go_wp2
          go_ret
          refine ⟨_, rfl, ?_, HBR.out⟩
          rw [HR.out]
          exact SplitAny.own_mono HO.out HB.out.size

  · have HV := Lib.hid (show maskL (u, g, gl) gid mode l = [pn] by rw [maskL]; dsimp only; rw [HPV.out]; rfl)
    have HO := Lib.hid (row_one w1 pn 62)
    have HB2 := Lib.hid (HB.out.alloc HB.out.size (.cells #[.int .i64 pn] 62))
    have hs9 := HB.out.size
    go_wp2
    go_ret
    refine ⟨_, rfl, ?_, HB2.out⟩
    rw [HV.out]
    exact SplitAny.own_mono HO.out hs9

end Go.Proofs.Ytjdehgadfjopiaa.Al
