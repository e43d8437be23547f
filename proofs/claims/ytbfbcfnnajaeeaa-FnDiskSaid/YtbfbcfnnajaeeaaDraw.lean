/- Contracts: a drawn sector; a drawn disk is valid, with 1 to 4 sectors and at most 3 pending writes, in memory of its own. Conditions: the cursor stands. -/
import Derived.Test.YtbfbcfnnajaeeaaMakeBytes
import Derived.Test.YtbfbcfnnajaeeaaNewDisk
namespace Go.Proofs.Ytbfbcfnnajaeeaa.Draw
open Go.ChangeShapes Go.WideShapes Go.ChangeAt Go.RowKit
open Wr (Wt wcells d0)
open Dk (D Holds Ok Own RowIn Box Turned Fits)
open Cur
open MakeBytes (cur_kept bytes_any)
set_option linter.unusedVariables false

theorem grown_of {w w' : World} (h : Below w.heap.size w w') (row : Option Nat) : w.grownBy w' row := ⟨h.os, h.tape, h.output, h.size, fun k hk _ => h.block k hk⟩
theorem grown_trans {w a b : World} {row : Option Nat} (h1 : w.grownBy a row) (h2 : a.grownBy b row) : w.grownBy b row :=
  ⟨h2.os.trans h1.os, h2.tape.trans h1.tape, h2.output.trans h1.output, Nat.le_trans h1.size h2.size, fun k hk hn => (h2.block k (Nat.lt_of_lt_of_le hk h1.size) hn).trans (h1.block k hk hn)⟩
theorem cur_below {w w' : World} {B g : Nat} {cv : Value} {ns : List Nat} {i : Nat} {h : Int} (hc : IsCur w B g cv ns i h) (hb : Below w.heap.size w w') : IsCur w' B g cv ns i h := by
  have := cur_i64 hc
  exact cur_kept hc (fun k hk => hb.block k (by omega))
theorem pad_size (s : ByteArray) (h : s.size ≤ 3) : (PadTo.padB s 32).size = 32 := by
  rw [PadTo.padB_at s 32 (32 - s.size) (by omega) (by omega)]
  simp only [ByteArray.size, List.size_toArray, PadTo.zend_length]
  have : s.data.size = s.size := rfl
  omega

set_option maxRecDepth 100000 in
set_option maxHeartbeats 400000 in
theorem sector_any (w : World) (B g : Nat) (cv : Value) (ns : List Nat) (i : Nat) (h : Int) (hc : IsCur w B g cv ns i h) :
    Calls Try.prog 68 #[.pointer (some ⟨g, 0, none⟩)] w fun e w' => ∃ (s : ByteArray) (i' : Nat) (h' : Int), e = .returned (.string s) ∧ s.size = 32 ∧ IsCur w' B g cv ns i' h' ∧ w.grownBy w' (some g) := by
  have HC := Lib.hid hc
  clear hc
  go_enter Try.func68, Try.ntmps68
  go_wp2_with fail
  refine (bytes_any _ _ _ _ _ _ _ 3 (by omega) HC.out).mono ?_
  rintro e w1 ⟨s, i', h', hs, rfl, hc1, hg1⟩
  have HC1 := Lib.hid hc1
  have HG1 := Lib.hid hg1
  clear hc1 hg1
  go_wp2_with fail
  refine (PadTo.spec_any s 32 _ (by omega)).mono ?_
  rintro e w2 ⟨rfl, hb⟩
  have HC2 := Lib.hid (cur_below HC1.out hb)
  have HG2 := Lib.hid (grown_trans HG1.out (grown_of hb _))
  have hz := pad_size s hs
  clear hb
  generalize PadTo.padB s 32 = p at hz ⊢
  go_wp2
  go_ret
  exact ⟨p, _, _, rfl, hz, HC2.out, HG2.out⟩

theorem row_ne {w : World} {lo b : Nat} {x y : Value} {t e : TypeId} {size : Nat} {v : Value} {n : Nat} {xs : List Value} (h : w.ownsRow lo e size v n xs) (hb : Box w b x y t) (hne : e ≠ t) : some b ≠ v.ownBlock := by
  rcases h.2 with ⟨rfl, _⟩ | ⟨g, cap, cur, rfl, _, hg, _⟩
  · intro he; cases he
  · intro he
    cases he
    rw [show w.heap[g]? = _ from hb] at hg
    cases hg
    exact hne rfl
theorem grown_set {w a : World} {g : Nat} (h : w.grownBy a (some g)) {p : Addr} (hp : w.heap.size ≤ p.block) (u : Value) : w.grownBy (a.setCell p u) (some g) :=
  ⟨h.os, h.tape, h.output, by rw [World.size_setCell]; exact h.size, fun k hk hn => (Below.heap_setCell a p u k (by omega)).trans (h.block k hk hn)⟩
theorem grown_row {w a b : World} {g : Nat} {row : Option Nat} (h : w.grownBy a (some g)) (hr : a.grownBy b row) (hrow : ∀ k, row = some k → w.heap.size ≤ k) : w.grownBy b (some g) :=
  ⟨hr.os.trans h.os, hr.tape.trans h.tape, hr.output.trans h.output, Nat.le_trans h.size hr.size, fun k hk hn => (hr.block k (Nat.lt_of_lt_of_le hk h.size) (fun e => by have := hrow k e.symm; omega)).trans (h.block k hk hn)⟩
theorem cur_set {w : World} {B g : Nat} {cv : Value} {ns : List Nat} {i : Nat} {h : Int} (hc : IsCur w B g cv ns i h) {p : Addr} (hp : g < p.block) (u : Value) : IsCur (w.setCell p u) B g cv ns i h :=
  cur_kept hc (fun k hk => Below.heap_setCell w p u k (by omega))
theorem cur_row {w b : World} {B g : Nat} {cv : Value} {ns : List Nat} {i : Nat} {h : Int} {row : Option Nat} (hc : IsCur w B g cv ns i h) (hr : w.grownBy b row) (hrow : ∀ k, row = some k → g < k) : IsCur b B g cv ns i h := by
  have := cur_i64 hc
  exact cur_kept hc (fun k hk => hr.block k (by omega) (fun e => by have := hrow k e.symm; omega))
theorem own_grown {w a : World} {base g n size : Nat} {v : Value} {xs : List Value} {e : TypeId} (h : w.ownsRow base e size v n xs) (hlt : g < base) (hg : w.grownBy a (some g)) : a.ownsRow base e size v n xs :=
  h.kept hg (.inr fun e => by have := (h.lt g e).1; omega)
theorem box_grown {w a : World} {b g : Nat} {x y : Value} {t : TypeId} (h : Box w b x y t) (hg : w.grownBy a (some g)) (hne : b ≠ g) : Box a b x y t := Dk.blk_grown h hg (fun e => hne (by cases e; rfl))
/-- The two rows and the box of the disk being drawn. -/
def Mid (w : World) (base b : Nat) (us up : Value) (d : D) : Prop :=
  Box w b us up 26 ∧ w.ownsRow base 9 1 us d.1.length (d.1.map Value.string) ∧ w.ownsRow base 60 2 up d.2.length (wcells d.2)
theorem Mid.grown {w a : World} {base b g : Nat} {us up : Value} {d : D} (h : Mid w base b us up d) (hg : w.grownBy a (some g)) (hlt : g < base) (hb : b ≠ g) : Mid a base b us up d :=
  ⟨box_grown h.1 hg hb, own_grown h.2.1 hlt hg, own_grown h.2.2 hlt hg⟩
theorem zs_size : NewD.zs.size = 32 := pad_size ⟨#[]⟩ (by decide)

set_option maxRecDepth 100000 in
set_option maxHeartbeats 4000000 in
theorem draw_any (w : World) (B g : Nat) (cv : Value) (ns : List Nat) (i : Nat) (h : Int) (hc : IsCur w B g cv ns i h) :
    Calls Try.prog 35 #[.pointer (some ⟨g, 0, none⟩)] w fun e w' => ∃ (us up : Value) (d : D) (i' : Nat) (h' : Int), e = .returned (.agg #[us, up]) ∧ Ok d ∧ (1 ≤ d.1.length ∧ d.1.length ≤ 4 ∧ d.2.length ≤ 3) ∧ Own w' w.heap.size w'.heap.size us up d ∧ IsCur w' B g cv ns i' h' ∧ w.grownBy w' (some g) := by
  obtain ⟨j0, hj, hy0, hy1, hy2⟩ := info_parts Wr.wrInfo
  have hgl := cur_i64 hc
  have HC := Lib.hid (Make.cur_alloc hc (.cells #[.slice none 0 0, .slice none 0 0] 26))
  have bR := Lib.hid (show Box (w.alloc (.cells #[.slice none 0 0, .slice none 0 0] 26)) w.heap.size (.slice none 0 0) (.slice none 0 0) 26 from Dk.blk_new w _)
  have HG := Lib.hid (World.grownBy_alloc w (.cells #[.slice none 0 0, .slice none 0 0] 26) (some g))
  have hsz : (w.alloc (.cells #[.slice none 0 0, .slice none 0 0] 26)).heap.size = w.heap.size + 1 := by simp
  clear hc
  go_enter Try.func35, Try.ntmps35
  go_wp2_with fail
  generalize w.alloc (.cells #[.slice none 0 0, .slice none 0 0] 26) = w0 at HC bR HG hsz ⊢
  refine (below_any _ _ _ _ _ _ _ 4 (by omega) (by omega) HC.out).mono ?_
  rintro e w1 ⟨rfl, hc1, hg1⟩
  have hx : stepX ns i h % 4 < 4 := Nat.mod_lt _ (by omega)
  generalize stepX ns i h % 4 = x at hx ⊢
  replace HC := Lib.hid hc1
  replace bR := Lib.hid (box_grown bR.out hg1 (by omega))
  have s1 := hg1.size
  replace HG := Lib.hid (grown_trans HG.out hg1)
  clear hc1 hg1
  go_wp2_with fail
  refine (NewD.spec_any _ _).mono ?_
  rintro e w2 ⟨us, up, rfl, hown, hb⟩
  rw [show NewD.newV (1 + (x : Int)) = (List.replicate (x + 1) NewD.zs, []) from by
    unfold NewD.newV
    rw [if_pos (by omega), show (1 + (x : Int)).toNat = x + 1 from by omega]] at hown
  have s2 := hb.size
  replace HC := Lib.hid (cur_below HC.out hb)
  replace bR := Lib.hid (Box.below bR.out hb)
  replace HG := Lib.hid (grown_trans HG.out (grown_of hb _))
  have hr1 := hown.1.1
  rw [List.length_replicate] at hr1
  have hr2 := hown.2.1
  obtain ⟨a, c, rfl⟩ := Dk.slice_of hr1
  obtain ⟨b, cb, rfl⟩ := Dk.slice_of hr2
  obtain ⟨L, hL⟩ : ∃ L, L = x + 1 := ⟨_, rfl⟩
  rw [← hL] at hr1 hr2 ⊢
  dsimp only [List.length_nil] at hr1 hr2 ⊢
  have hL4 : L ≤ 4 := by omega
  have hL1 : 1 ≤ L := by omega
  obtain ⟨ss0, hss0⟩ : ∃ ss0, ss0 = List.replicate L NewD.zs := ⟨_, rfl⟩
  have hz0 : ∀ y ∈ ss0, y.size = 32 := fun y hy => by rw [hss0] at hy; rw [List.eq_of_mem_replicate hy]; exact zs_size
  have hl0 : ss0.length = L := by rw [hss0]; simp
  rw [← hss0] at hr1
  have R1 := Lib.hid (Strs.own_below hr1 (Joins.below_alloc1 w2 (.cells #[.slice a L c, .slice b 0 cb] 26)))
  have R2 := Lib.hid (Strs.own_below (show w2.ownsRow w1.heap.size 60 2 (.slice b 0 cb) 0 (wcells []) from hr2) (Joins.below_alloc1 w2 (.cells #[.slice a L c, .slice b 0 cb] 26)))
  have HZ := Lib.hid hz0
  have HL0 := Lib.hid hl0
  clear hown hr1 hr2 hb hL hss0 hz0 hl0
  have bD := Lib.hid (show Box (w2.alloc (.cells #[.slice a L c, .slice b 0 cb] 26)) w2.heap.size _ _ 26 from Dk.blk_new w2 _)
  have hb3 := Joins.below_alloc1 w2 (.cells #[.slice a L c, .slice b 0 cb] 26)
  replace HC := Lib.hid (cur_below HC.out hb3)
  replace bR := Lib.hid (Box.below bR.out hb3)
  replace HG := Lib.hid (grown_trans HG.out (grown_of hb3 _))
  have hs3 : (w2.alloc (.cells #[.slice a L c, .slice b 0 cb] 26)).heap.size = w2.heap.size + 1 := by simp
  obtain ⟨x0, x1⟩ := bD.out.cells
  clear hb3
  go_wp2_with fail
  generalize w2.alloc (.cells #[.slice a L c, .slice b 0 cb] 26) = w3 at R1 R2 bD HC bR HG hs3 x0 x1 ⊢
  go_loopw [13] (fun iv wr => ∃ (k : Nat) (ss : List ByteArray) (i : Nat) (h : Int), k ≤ L ∧ iv = .int .i64 k ∧ ss.length = L ∧ (∀ y ∈ ss, y.size = 32) ∧ wr.ownsRow w1.heap.size 9 1 (.slice a L c) L (ss.map Value.string) ∧ wr.ownsRow w1.heap.size 60 2 (.slice b 0 cb) 0 (wcells []) ∧ Box wr w2.heap.size (.slice a L c) (.slice b 0 cb) 26 ∧ Box wr w.heap.size (.slice none 0 0) (.slice none 0 0) 26 ∧ IsCur wr B g cv ns i h ∧ w.grownBy wr (some g) ∧ w2.heap.size < wr.heap.size) (fun iv _ => L - (intOf iv).toNat)
  case atStart => exact ⟨0, ss0, _, _, Nat.zero_le _, rfl, HL0.out, HZ.out, R1.out, R2.out, bD.out, bR.out, HC.out, HG.out, by omega⟩
  case round =>
    clear R1 R2 bD bR HC HG HZ HL0 x0 x1
    obtain ⟨k, ss, i, h, hk, rfl, hl, hz, r1, r2, bd, br, hc, hg, hs⟩ := hrel
    obtain ⟨x0, x1⟩ := bd.cells
    have R1 := Lib.hid r1
    have R2 := Lib.hid r2
    have BD := Lib.hid bd
    have BR := Lib.hid br
    have HC := Lib.hid hc
    have HG := Lib.hid hg
    have HZ := Lib.hid hz
    have HL := Lib.hid hl
    clear r1 r2 bd br hc hg hz hl
    by_cases hlt : k < L
    · obtain ⟨g', c', he⟩ := Joins.ownsRow_form R1.out (by omega)
      cases he
      have hne := row_ne R1.out BD.out (by decide)
      have hne2 := row_ne R1.out BR.out (by decide)
      have hg'lt := (R1.out.lt g' rfl).1
      have hb1 : (k : Int) < (L : Int) := by omega
      go_wp2
      go_region_law (go_simp; go_at_call 68; refine (sector_any _ _ _ _ _ _ _ (cur_below HC.out (Below.drew (Below.refl _ _)))).mono ?_; rintro e w5 ⟨s, i', h', rfl, hsz, hc5, hg5⟩; replace hg5 := grown_trans (grown_of (Below.drew (Below.refl _ wr)) (some g)) hg5; have s5 := hg5.size; replace R1 := Lib.hid (own_grown R1.out (by omega) hg5); replace R2 := Lib.hid (own_grown R2.out (by omega) hg5); replace BD := Lib.hid (box_grown BD.out hg5 (by omega)); replace BR := Lib.hid (box_grown BR.out hg5 (by omega)); replace HC := Lib.hid hc5; replace HG := Lib.hid (grown_trans HG.out hg5); clear hc5 hg5; obtain ⟨z0, z1⟩ := BD.out.cells; have zc := R1.out.cellAt k (by simp; have := HL.out; omega); have zf := R1.out.frozenAt k; rw [List.getElem?_eq_getElem (by simp; have := HL.out; omega)] at zc)
      all_goals
        have hst := R1.out.stored k (.string s)
        rw [← List.map_set] at hst
        have r1 := hst.1
        have r2 := World.ownsRow.kept R2.out hst.2 (Dk.own_two R2.out R1.out (by decide))
        have bd := Dk.Box.other (i := k) (u := .string s) (c := g') BD.out (fun e => hne (congrArg some e))
        have br := Dk.Box.other (i := k) (u := .string s) (c := g') BR.out (fun e => hne2 (congrArg some e))
        have hcc := cur_set HC.out (p := ⟨g', k, none⟩) (show g < g' by omega) (.string s)
        have hgg := grown_set HG.out (p := ⟨g', k, none⟩) (show w.heap.size ≤ g' by omega) (.string s)
        have hss : (w5.setCell ⟨g', k, none⟩ (.string s)).heap.size = w5.heap.size := World.size_setCell ..
        have hz9 : ∀ y ∈ ss.set k s, y.size = 32 := fun y hy => by
          rcases List.mem_or_eq_of_mem_set hy with h | h
          · exact HZ.out y h
          · rw [h]; exact hsz
        generalize w5.setCell ⟨g', k, none⟩ (.string s) = w9 at r1 r2 bd br hcc hgg hss ⊢
        clear hst
        go_wp2
        go_roundw
        case rel => exact ⟨k + 1, ss.set k s, _, _, by omega, by go_num, by rw [List.length_set]; exact HL.out, hz9, r1, r2, bd, br, hcc, hgg, by omega⟩
        case measure => simp [intOf]; omega
    · obtain rfl : k = L := by omega
      clear x0 x1
      go_wp2_with fail
      refine (below_any _ _ _ _ _ _ _ 4 (by omega) (by omega) HC.out).mono ?_
      rintro e w4 ⟨rfl, hc4, hg4⟩
      have hx4 : stepX ns i h % 4 < 4 := Nat.mod_lt _ (by omega)
      generalize stepX ns i h % 4 = m at hx4 ⊢
      have s4 := hg4.size
      replace R1 := Lib.hid (own_grown R1.out (by omega) hg4)
      replace R2 := Lib.hid (own_grown R2.out (by omega) hg4)
      replace BD := Lib.hid (box_grown BD.out hg4 (by omega))
      replace BR := Lib.hid (box_grown BR.out hg4 (by omega))
      replace HC := Lib.hid hc4
      replace HG := Lib.hid (grown_trans HG.out hg4)
      clear hc4 hg4
      go_wp2_with fail
      go_loopw [5] (fun nv wr => ∃ (n : Nat) (ws : List Wt) (v : Value) (i : Nat) (h : Int), nv = .int .i64 n ∧ ws.length + n ≤ 3 ∧ (∀ y ∈ ws, Fits k y) ∧ wr.ownsRow w1.heap.size 9 1 (.slice a k c) k (ss.map Value.string) ∧ wr.ownsRow w1.heap.size 60 2 v ws.length (wcells ws) ∧ Box wr w2.heap.size (.slice a k c) v 26 ∧ Box wr w.heap.size (.slice none 0 0) (.slice none 0 0) 26 ∧ IsCur wr B g cv ns i h ∧ w.grownBy wr (some g) ∧ w2.heap.size < wr.heap.size) (fun nv _ => (intOf nv).toNat)
      case atStart => exact ⟨m, [], _, _, _, rfl, by simp; omega, by simp, R1.out, R2.out, BD.out, BR.out, HC.out, HG.out, by omega⟩
      case round =>
        clear R1 R2 BD BR HC HG
        obtain ⟨n, ws, v, i, h, rfl, hn, hf, r1, r2, bd, br, hc, hg, hs⟩ := hrel
        obtain ⟨p, pc, rfl⟩ := Dk.slice_of r2
        obtain ⟨x0, x1, x2, x3⟩ := Box.four bd
        have R1 := Lib.hid r1
        have R2 := Lib.hid r2
        have BD := Lib.hid bd
        have BR := Lib.hid br
        have HC := Lib.hid hc
        have HG := Lib.hid hg
        have HF := Lib.hid hf
        clear r1 r2 bd br hc hg hf
        obtain ⟨N, hN⟩ : ∃ N, N = ws.length := ⟨_, rfl⟩
        rw [← hN] at hn R2 BD x1
        have HN := Lib.hid hN
        clear hN
        by_cases h0 : 0 < n
        · go_wp2
          go_region_law (first | (go_simp; go_at_call 67; refine (below_any _ _ _ _ _ _ _ k hL1 (by omega) (cur_below HC.out (Below.drew (Below.refl _ _)))).mono ?_; rintro e w5 ⟨rfl, hc5, hg5⟩; have hq : stepX ns i h % k < k := Nat.mod_lt _ (by omega); generalize stepX ns i h % k = q at hq ⊢; replace hg5 := grown_trans (grown_of (Below.drew (Below.refl _ wr)) (some g)) hg5; have s5 := hg5.size; replace R1 := Lib.hid (own_grown R1.out (by omega) hg5); replace R2 := Lib.hid (own_grown R2.out (by omega) hg5); replace BD := Lib.hid (box_grown BD.out hg5 (by omega)); replace BR := Lib.hid (box_grown BR.out hg5 (by omega)); replace HC := Lib.hid hc5; replace HG := Lib.hid (grown_trans HG.out hg5); clear hc5 hg5; obtain ⟨y0, y1, y2, y3⟩ := Box.four BD.out) | (go_simp; go_at_call 68; refine (sector_any _ _ _ _ _ _ _ HC.out).mono ?_; rintro e w6 ⟨s, i', h', rfl, hsz, hc6, hg6⟩; have s6 := hg6.size; replace R1 := Lib.hid (own_grown R1.out (by omega) hg6); replace R2 := Lib.hid (own_grown R2.out (by omega) hg6); replace BD := Lib.hid (box_grown BD.out hg6 (by omega)); replace BR := Lib.hid (box_grown BR.out hg6 (by omega)); replace HC := Lib.hid hc6; replace HG := Lib.hid (grown_trans HG.out hg6); clear hc6 hg6; obtain ⟨z0, z1, z2, z3⟩ := Box.four BD.out; obtain ⟨q0, q1, q2, q3⟩ := Box.four (show Box (w6.alloc (.cells #[.int .i64 (q : Int), .string s] 60)) w2.heap.size _ _ _ from Dk.blk_alloc BD.out _)) | (refine HexOf.step_append_own rfl _ _ 24 rfl w1.heap.size 60 j0 (.agg #[.int .i64 0, .string ⟨#[]⟩]) 2 24 Try.underlying24 hj hy0 hy1 hy2 rfl (by decide) _ _ _ rfl (World.ownsRow.alloc R2.out _) ⟨w6.heap.size, 0, none⟩ 1 1 [.int .i64 (q : Int), .string s] rfl rfl (Dk.cell_two_new _ _ _ _) (by simp [Value.oneCell']) (by unfold maxLen; omega) (by omega) (by simp; omega) ?_; intro v7 w7 hown7 hg7 _; obtain ⟨p7, pc7, rfl⟩ := Dk.slice_of hown7; have s7 := hg7.size; simp only [World.size_alloc] at s7; have hr2 := World.ownsRow.alloc R2.out (.cells #[.int .i64 (q : Int), .string s] 60); have hr1 := World.ownsRow.alloc R1.out (.cells #[.int .i64 (q : Int), .string s] 60); have hbd := Dk.blk_alloc BD.out (.cells #[.int .i64 (q : Int), .string s] 60); have hbr := Dk.blk_alloc BR.out (.cells #[.int .i64 (q : Int), .string s] 60); replace R1 := Lib.hid (World.ownsRow.kept hr1 hg7 (Dk.own_two hr1 hr2 (by decide))); replace BD := Lib.hid (show Box w7 w2.heap.size _ _ _ from Dk.blk_grown hbd hg7 (row_ne hr2 hbd (by decide))); replace BR := Lib.hid (show Box w7 w.heap.size _ _ _ from Dk.blk_grown hbr hg7 (row_ne hr2 hbr (by decide))); replace HC := Lib.hid (cur_row (Make.cur_alloc HC.out _) hg7 (fun r hr => by have := (hr2.lt r hr).1; omega)); replace HG := Lib.hid (grown_row (grown_trans HG.out (World.grownBy_alloc w6 (.cells #[.int .i64 (q : Int), .string s] 60) (some g))) hg7 (fun r hr => by have := (hr2.lt r hr).1; omega)); replace R2 := Lib.hid (show w7.ownsRow w1.heap.size 60 2 (.slice p7 (N + 1) pc7) (N + 1) (wcells (ws ++ [((q : Int), s)])) from by { have hw : wcells (ws ++ [((q : Int), s)]) = wcells ws ++ [.int .i64 (q : Int), .string s] := (by simp [wcells, Wr.wcell]); rw [hw]; exact hown7 }); clear hown7 hg7 hr1 hr2 hbd hbr; obtain ⟨t0, t1, t2, t3⟩ := Box.four BD.out))
          all_goals
            have r1 := Dk.row_set (i := 1) (u := .slice p7 (N + 1) pc7) R1.out BD.out (by decide)
            have r2 := Dk.row_set (i := 1) (u := .slice p7 (N + 1) pc7) R2.out BD.out (by decide)
            have bd := Dk.Box.set1 (u := .slice p7 (N + 1) pc7) BD.out
            have br := Dk.Box.other (i := 1) (u := .slice p7 (N + 1) pc7) (c := w2.heap.size) BR.out (by omega)
            have hcc := cur_set HC.out (p := ⟨w2.heap.size, 1, none⟩) (show g < w2.heap.size by omega) (.slice p7 (N + 1) pc7)
            have hgg := grown_set HG.out (p := ⟨w2.heap.size, 1, none⟩) (show w.heap.size ≤ w2.heap.size by omega) (.slice p7 (N + 1) pc7)
            have hss : (w7.setCell ⟨w2.heap.size, 1, none⟩ (.slice p7 (N + 1) pc7)).heap.size = w7.heap.size := World.size_setCell ..
            have hf9 : ∀ y ∈ ws ++ [((q : Int), s)], Fits k y := fun y hy => by
              rcases List.mem_append.1 hy with h | h
              · exact HF.out y h
              · simp at h; subst h; exact ⟨⟨by dsimp only; omega, by dsimp only; omega⟩, hsz⟩
            have hl9 : (ws ++ [((q : Int), s)]).length = N + 1 := by simp; exact HN.out.symm
            generalize w7.setCell ⟨w2.heap.size, 1, none⟩ (.slice p7 (N + 1) pc7) = w9 at r1 r2 bd br hcc hgg hss ⊢
            clear y0 y1 y2 y3 z0 z1 z2 z3 q0 q1 q2 q3 t0 t1 t2 t3 x0 x1 x2 x3
            go_wp2
            go_roundw
            case rel => exact ⟨n - 1, ws ++ [((q : Int), s)], _, _, _, by go_num, by rw [hl9]; omega, hf9, r1, by rw [hl9]; exact r2, bd, br, hcc, hgg, by omega⟩
            case measure => simp [intOf]; omega
        · obtain rfl : n = 0 := by omega
          clear x2 x3
          obtain ⟨t0, t1, t2, t3⟩ := Box.four BR.out
          go_wp2
          have hO : Own wr w1.heap.size wr.heap.size (.slice a k c) (.slice p N pc) (ss, ws) := ⟨by dsimp only; rw [HL.out]; exact RowIn.fresh R1.out, by dsimp only; rw [← HN.out]; exact RowIn.fresh R2.out⟩
          have hOk : Ok (ss, ws) := ⟨⟨by dsimp only; rw [HL.out]; omega, by dsimp only; rw [← HN.out]; omega⟩, fun j hj => by
            dsimp only at hj ⊢
            rw [List.getD_eq_getElem?_getD, List.getElem?_eq_getElem hj]
            exact HZ.out _ (List.getElem_mem hj), fun j hj => by
            dsimp only at hj ⊢
            rw [List.getD_eq_getElem?_getD, List.getElem?_eq_getElem hj, HL.out]
            exact HF.out _ (List.getElem_mem hj)⟩
          obtain ⟨hO', hF, hS⟩ := Dk.Own.into hO BR.out
          have hcc := cur_set (cur_set HC.out (p := ⟨w.heap.size, 0, none⟩) (show g < w.heap.size by omega) (.slice a k c)) (p := ⟨w.heap.size, 1, none⟩) (show g < w.heap.size by omega) (.slice p N pc)
          have hgg := grown_set (grown_set HG.out (p := ⟨w.heap.size, 0, none⟩) (Nat.le_refl _) (.slice a k c)) (p := ⟨w.heap.size, 1, none⟩) (Nat.le_refl _) (.slice p N pc)
          generalize (wr.setCell ⟨w.heap.size, 0, none⟩ (.slice a k c)).setCell ⟨w.heap.size, 1, none⟩ (.slice p N pc) = wf at hO' hF hS hcc hgg ⊢
          obtain ⟨c0, c1, _, _⟩ := Dk.Box.four hF
          exact bodyPost_ret (v := .agg #[.slice a k c, .slice p N pc]) (by simp [results, Try.results35, go_sem, c0, c1]) rfl ⟨_, _, (ss, ws), _, _, rfl, hOk, ⟨by dsimp only; rw [HL.out]; omega, by dsimp only; rw [HL.out]; omega, by dsimp only; rw [← HN.out]; omega⟩, hO'.wide (by omega) (by rw [hS]; omega), hcc, hgg⟩

end Go.Proofs.Ytbfbcfnnajaeeaa.Draw
