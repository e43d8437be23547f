/- Contracts: the model's l03Store and the program's storePending: the pending writes that are kept are stored, one behind the other, in rows of the call's own. Conditions: the lengths; the disk keeps its limits. -/
import Derived.Test.YtgapjdkelkmdgaaOwn
import Derived.Test.YtgapjdkelkmdgaaIsDisk
namespace Go.Proofs.Ytgapjdkelkmdgaa.Store
open Go.ChangeShapes Go.WideShapes Go.ChangeAt Go.RowKit
open Wr (Wt wcells d0)
open Strs (strInfo)
open Dk (D Holds Ok Own RowIn Box Turned AtW atS atW)
open App (src_strs wpList_append_src)
set_option linter.unusedVariables false

/-- The sectors behind the first k writes, those stored for which p says so. -/
def stored (ss : List ByteArray) (ws : List Wt) (p : Nat → Bool) : Nat → List ByteArray
  | 0 => ss
  | k + 1 => if p k then (stored ss ws p k).set (ws.getD k d0).1.toNat (ws.getD k d0).2 else stored ss ws p k
theorem stored_len (ss : List ByteArray) (ws : List Wt) (p : Nat → Bool) : ∀ k, (stored ss ws p k).length = ss.length
  | 0 => rfl
  | k + 1 => by
    rw [stored]
    split
    · rw [List.length_set, stored_len]
    · exact stored_len ss ws p k
def storeF (p : Nat → Bool) (d : D) : D := (stored d.1 d.2 p d.2.length, [])
/-- A slice of bools. -/
def HoldsB (w : World) (v : Value) (bs : List Bool) : Prop :=
  ∃ (a : Option Addr) (cap : Nat), v = .slice a bs.length cap ∧ ∀ i, i < bs.length → ∃ b o, a = some ⟨b, o, none⟩ ∧ b < w.heap.size ∧ w.cell? ⟨b, o + i, none⟩ = some (.bool (bs.getD i false))
theorem HoldsB.below {w w' : World} {v : Value} {bs : List Bool} (h : HoldsB w v bs) (hb : Below w.heap.size w w') : HoldsB w' v bs := by
  obtain ⟨a, cap, rfl, hc⟩ := h
  refine ⟨a, cap, rfl, fun i hi => ?_⟩
  obtain ⟨b, o, rfl, hlt, h1⟩ := hc i hi
  exact ⟨b, o, rfl, Nat.lt_of_lt_of_le hlt hb.size, by rw [hb.cell (p := ⟨b, o + i, none⟩) hlt]; exact h1⟩
/-- Which writes the two answers keep. -/
def keepP (bs : List Bool) (k : Nat) : Bool := decide (k < bs.length) && bs.getD k false
def allP (_ : Nat) : Bool := true

/-- One store into the row of sectors. -/
theorem row_store {W : World} {lo hi : Nat} {g cap L n : Nat} {l : List ByteArray} {s : ByteArray} (h : RowIn W lo hi 9 1 (.slice (some ⟨g, 0, none⟩) L cap) L (l.map Value.string)) (hn : n < L) (hl : l.length = L) :
    (∃ y, W.cell? ⟨g, n, none⟩ = some y) ∧ W.frozen? ⟨g, n, none⟩ = false ∧ RowIn (W.setCell ⟨g, n, none⟩ (.string s)) lo hi 9 1 (.slice (some ⟨g, 0, none⟩) L cap) L ((l.set n s).map Value.string) ∧ Turned W (W.setCell ⟨g, n, none⟩ (.string s)) lo hi := by
  have hst := h.1.stored n (.string s)
  rw [← List.map_set] at hst
  refine ⟨?_, h.1.frozenAt n, ⟨hst.1, h.2⟩, Turned.of_grown hst.2 (fun k hk => by cases hk; exact ⟨(h.1.lt g rfl).1, h.2 g rfl⟩)⟩
  rw [h.1.cellAt n (by omega)]
  exact ⟨_, List.getElem?_eq_getElem (by simp; omega)⟩

set_option maxRecDepth 100000 in
set_option maxHeartbeats 4000000 in
theorem spec_all (w : World) (vs vp : Value) (d : D) (h1 : d.1.length ≤ 1073741824) (h2 : d.2.length ≤ 1073741824) (hok : Ok d) (h : Holds w vs vp d) :
    Calls Try.prog 117 #[.agg #[vs, vp], .slice none 0 0, .bool true] w fun e w' => ∃ us up, e = .returned (.agg #[us, up]) ∧ Own w' w.heap.size w'.heap.size us up (storeF allP d) ∧ Below w.heap.size w w' := by
  obtain ⟨i0, hi, hz0, hz1, hz2⟩ := info_parts strInfo
  have HS := Lib.hid (src_strs h.1)
  obtain ⟨b, cb, rfl, hW⟩ := atW h.2
  obtain ⟨ss, ws⟩ := d
  dsimp only at HS hW h1 h2 hok ⊢
  have HW := Lib.hid hW
  have HFIT := Lib.hid hok.2.2
  dsimp only at HFIT
  clear h hW hok
  obtain ⟨L, hL⟩ : ∃ L, L = ss.length := ⟨_, rfl⟩
  obtain ⟨M, hM⟩ : ∃ M, M = ws.length := ⟨_, rfl⟩
  rw [← hL] at HS h1 HFIT
  rw [← hM] at h2 HFIT ⊢
  have HL := Lib.hid hL
  have HM := Lib.hid hM
  clear hL hM
  have HB := Lib.hid (Below.refl w.heap.size w)
  go_enter Try.func117, Try.ntmps117
  go_wp2_with (at_builtin; refine wpList_append_src rfl _ _ 23 rfl (w.heap.size + 1 + 1) 9 i0 (.string ⟨#[]⟩) 1 16 Try.underlying23 hi hz0 hz1 hz2 rfl (by decide) _ 0 [] rfl (Copy.empty_own (Copy.blk_at (by simp)) (Nat.le_refl _)) L (ss.map Value.string) ?c1 ?c2 ?c3 ?c4 ?_)
  case c1 => exact Copy.src_below HS.out ((Joins.below_alloc2 w _ _).alloc (by simp; omega) _)
  case c2 => unfold maxLen; omega
  case c3 => omega
  case c4 => first | omega | (simp; done) | (simp; omega)
  intro ua uc w1 hown1 hg1
  try rw [Nat.zero_add] at hown1
  try rw [List.nil_append] at hown1
  try rw [Nat.zero_add]
  have hb := Joins.below_alloc1 w (.cells #[vs, .slice b M cb] 26)
  replace HB := Lib.hid (HB.out.trans (hb.mono HB.out.size))
  have BD := Lib.hid (show Dk.Box (w.alloc (.cells #[vs, .slice b M cb] 26)) (w.heap.size) _ _ 26 from Dk.blk_new w (.cells #[vs, .slice b M cb] 26))
  clear hb
  obtain ⟨vBD0, vBD1⟩ := BD.out.cells
  clear vBD0 vBD1
  have hb := Joins.below_alloc1 (w.alloc (.cells #[vs, .slice b M cb] 26)) (.cells #[.slice none 0 0, .slice none 0 0] 26)
  replace HB := Lib.hid (HB.out.trans (hb.mono HB.out.size))
  replace BD := Lib.hid (BD.out.below hb)
  have BR := Lib.hid (show Dk.Box ((w.alloc (.cells #[vs, .slice b M cb] 26)).alloc (.cells #[.slice none 0 0, .slice none 0 0] 26)) (w.heap.size + 1) _ _ 26 from by have hk := Dk.blk_new (w.alloc (.cells #[vs, .slice b M cb] 26)) (.cells #[.slice none 0 0, .slice none 0 0] 26); simp only [World.size_alloc] at hk; exact hk)
  clear hb
  obtain ⟨vBD0, vBD1⟩ := BD.out.cells
  obtain ⟨vBR0, vBR1, vBR2, vBR3⟩ := BR.out.four
  clear vBD0 vBD1 vBR0 vBR1 vBR2 vBR3
  have hb := Joins.below_alloc1 ((w.alloc (.cells #[vs, .slice b M cb] 26)).alloc (.cells #[.slice none 0 0, .slice none 0 0] 26)) (.cells #[] 9)
  replace HB := Lib.hid (HB.out.trans (hb.mono HB.out.size))
  replace BD := Lib.hid (BD.out.below hb)
  replace BR := Lib.hid (BR.out.below hb)
  clear hb
  obtain ⟨vBD0, vBD1⟩ := BD.out.cells
  obtain ⟨vBR0, vBR1, vBR2, vBR3⟩ := BR.out.four
  have s1 := hg1.size
  simp only [World.size_alloc] at s1
  clear vBD0 vBD1 vBR0 vBR1 vBR2 vBR3
  have ht := Turned.of_grown (lo := w.heap.size + 1 + 1) (hi := w1.heap.size) hg1 (fun k hk => by simp [Value.ownBlock] at hk; omega)
  replace HB := Lib.hid (HB.out.trans (ht.below (by omega) (by simp only [World.size_alloc]; omega)))
  replace BD := Lib.hid (Box.turned BD.out ht (by omega))
  replace BR := Lib.hid (Box.turned BR.out ht (by omega))
  have HROW := Lib.hid (RowIn.fresh hown1)
  clear hown1 hg1 ht
  have hb := Joins.below_alloc1 w1 (.cells #[.slice ua L uc, .slice none 0 0] 26)
  replace HB := Lib.hid (HB.out.trans (hb.mono HB.out.size))
  replace BD := Lib.hid (BD.out.below hb)
  replace BR := Lib.hid (BR.out.below hb)
  replace HROW := Lib.hid (HROW.out.below hb)
  have BO := Lib.hid (show Dk.Box (w1.alloc (.cells #[.slice ua L uc, .slice none 0 0] 26)) (w1.heap.size) _ _ 26 from Dk.blk_new w1 (.cells #[.slice ua L uc, .slice none 0 0] 26))
  clear hb
  obtain ⟨vBD0, vBD1⟩ := BD.out.cells
  obtain ⟨vBR0, vBR1, vBR2, vBR3⟩ := BR.out.four
  obtain ⟨vBO0, vBO1⟩ := BO.out.cells
  have hs2 : (w1.alloc (.cells #[.slice ua L uc, .slice none 0 0] 26)).heap.size = w1.heap.size + 1 := by simp
  go_wp2
  clear vBD0 vBD1 vBR0 vBR1 vBR2 vBR3 vBO0 vBO1
  generalize w1.alloc (.cells #[.slice ua L uc, .slice none 0 0] 26) = w2 at HB BD BR BO HROW hs2 ⊢
  go_loopw [18] (fun iv wr => ∃ k : Nat, k ≤ M ∧ iv = .int .i64 k ∧ RowIn wr (w.heap.size + 1 + 1) w1.heap.size 9 1 (.slice ua L uc) L ((stored ss ws allP k).map Value.string) ∧ Turned w2 wr (w.heap.size + 1 + 1) w1.heap.size) (fun iv _ => M - (intOf iv).toNat)
  case atStart => exact ⟨0, Nat.zero_le _, rfl, HROW.out, Turned.refl _ _ _⟩
  case round =>
    obtain ⟨k, hk, rfl, hrow, ht⟩ := hrel
    have HT := Lib.hid ht
    have HR := Lib.hid hrow
    have hsz := ht.size
    have HBK := Lib.hid (HB.out.trans (ht.below (B := w.heap.size) (by omega) (by omega)))
    have BOK := Lib.hid (Box.turned BO.out ht (by omega))
    have hlo : w1.heap.size < wr.heap.size := by omega
    obtain ⟨x0, x1, x2, x3⟩ := BOK.out.four
    clear hrow ht HROW
    by_cases hkl : k < M
    · have hf := HFIT.out k hkl
      have hWK := HW.out.below HBK.out
      obtain ⟨bw, ow, rfl, hbw, g1, g2⟩ := hWK k (by rw [← HM.out]; exact hkl)
      clear hWK
      obtain ⟨n, hn⟩ : ∃ n : Nat, (ws.getD k d0).1 = n := ⟨(ws.getD k d0).1.toNat, by have := hf.1.1; omega⟩
      have hnL : n < L := by have := hf.1.2; omega
      rw [hn] at g1
      obtain ⟨g, cap, he⟩ := Joins.ownsRow_form HR.out.1 (by omega)
      cases he
      have HX := Lib.hid (show stored ss ws allP (k + 1) = (stored ss ws allP k).set n (ws.getD k d0).2 by rw [stored, if_pos (show allP k = true from rfl), hn, Int.toNat_natCast])
      have hbx := Dk.blk_new wr (.cells #[.int .i64 (n : Int), .string (ws.getD k d0).2] 39)
      obtain ⟨⟨y, hy⟩, hfz, hrow, htn⟩ := row_store (W := wr.alloc (.cells #[.int .i64 (n : Int), .string (ws.getD k d0).2] 39)) (s := (ws.getD k d0).2) (HR.out.below (Joins.below_alloc1 wr _)) hnL (by rw [stored_len, HL.out])
      rw [← HX.out] at hrow
      have HROW := Lib.hid hrow
      have HTN := Lib.hid (HT.out.trans ((Turned.of_below (Joins.below_alloc1 wr _) (Nat.le_refl _) _ _).trans htn))
      clear hrow htn hf hn hbx
      generalize (ws.getD k d0).2 = s at g2 hy hfz HROW HTN
      go_wp2
      go_roundw
      case rel => exact ⟨k + 1, by omega, by go_num, HROW.out, HTN.out⟩
      case measure => simp [intOf]; omega
    · obtain rfl : k = M := by omega
      have BRK := Lib.hid (Box.turned BR.out HT.out (by omega))
      obtain ⟨z0, z1, z2, z3⟩ := BRK.out.four
      have hlr : w.heap.size + 1 < wr.heap.size := by omega
      go_wp2
      have hOwn : Own wr (w.heap.size + 1 + 1) wr.heap.size (.slice ua L uc) (.slice none 0 0) (storeF allP (ss, ws)) :=
        ⟨by
          have hl : (storeF allP (ss, ws)).1.length = L := by rw [HL.out]; exact stored_len _ _ _ _
          rw [hl]
          have := HR.out.wide (Nat.le_refl _) (hi' := wr.heap.size) (by omega)
          rw [HM.out] at this
          exact this, ⟨World.ownsRow_nil _ _ _ _, fun k hk => by cases hk⟩⟩
      obtain ⟨hO, hF, hS⟩ := Own.into hOwn BRK.out
      have hBB := Dk.below_into (b := w.heap.size + 1) HBK.out (by omega) (.slice ua L uc) (.slice none 0 0)
      generalize (wr.setCell ⟨w.heap.size + 1, 0, none⟩ (.slice ua L uc)).setCell ⟨w.heap.size + 1, 1, none⟩ (.slice none 0 0) = wf at hO hF hS hBB ⊢
      obtain ⟨c0, c1, _, _⟩ := Box.four hF
      exact bodyPost_ret (v := .agg #[.slice ua L uc, .slice none 0 0]) (by simp [results, Try.results117, go_sem, c0, c1]) rfl ⟨_, _, rfl, hO.wide (by omega) (by rw [hS]; omega), hBB⟩

set_option maxRecDepth 100000 in
set_option maxHeartbeats 4000000 in
theorem spec_keep (w : World) (vs vp : Value) (bs : List Bool) (kv : Value) (d : D) (h1 : d.1.length ≤ 1073741824) (h2 : d.2.length ≤ 1073741824) (hok : Ok d) (h3 : bs.length ≤ 1073741824) (hkeep : HoldsB w kv bs) (h : Holds w vs vp d) :
    Calls Try.prog 117 #[.agg #[vs, vp], kv, .bool false] w fun e w' => ∃ us up, e = .returned (.agg #[us, up]) ∧ Own w' w.heap.size w'.heap.size us up (storeF (keepP bs) d) ∧ Below w.heap.size w w' := by
  obtain ⟨i0, hi, hz0, hz1, hz2⟩ := info_parts strInfo
  have HS := Lib.hid (src_strs h.1)
  obtain ⟨b, cb, rfl, hW⟩ := atW h.2
  obtain ⟨ka, kc, rfl, hK⟩ := hkeep
  have HK := Lib.hid hK
  obtain ⟨Q, hQ⟩ : ∃ Q, Q = bs.length := ⟨_, rfl⟩
  rw [← hQ] at h3 ⊢
  have HQ := Lib.hid hQ
  clear hQ hK
  obtain ⟨ss, ws⟩ := d
  dsimp only at HS hW h1 h2 hok ⊢
  have HW := Lib.hid hW
  have HFIT := Lib.hid hok.2.2
  dsimp only at HFIT
  clear h hW hok
  obtain ⟨L, hL⟩ : ∃ L, L = ss.length := ⟨_, rfl⟩
  obtain ⟨M, hM⟩ : ∃ M, M = ws.length := ⟨_, rfl⟩
  rw [← hL] at HS h1 HFIT
  rw [← hM] at h2 HFIT ⊢
  have HL := Lib.hid hL
  have HM := Lib.hid hM
  clear hL hM
  have HB := Lib.hid (Below.refl w.heap.size w)
  go_enter Try.func117, Try.ntmps117
  go_wp2_with (at_builtin; refine wpList_append_src rfl _ _ 23 rfl (w.heap.size + 1 + 1) 9 i0 (.string ⟨#[]⟩) 1 16 Try.underlying23 hi hz0 hz1 hz2 rfl (by decide) _ 0 [] rfl (Copy.empty_own (Copy.blk_at (by simp)) (Nat.le_refl _)) L (ss.map Value.string) ?c1 ?c2 ?c3 ?c4 ?_)
  case c1 => exact Copy.src_below HS.out ((Joins.below_alloc2 w _ _).alloc (by simp; omega) _)
  case c2 => unfold maxLen; omega
  case c3 => omega
  case c4 => first | omega | (simp; done) | (simp; omega)
  intro ua uc w1 hown1 hg1
  try rw [Nat.zero_add] at hown1
  try rw [List.nil_append] at hown1
  try rw [Nat.zero_add]
  have hb := Joins.below_alloc1 w (.cells #[vs, .slice b M cb] 26)
  replace HB := Lib.hid (HB.out.trans (hb.mono HB.out.size))
  have BD := Lib.hid (show Dk.Box (w.alloc (.cells #[vs, .slice b M cb] 26)) (w.heap.size) _ _ 26 from Dk.blk_new w (.cells #[vs, .slice b M cb] 26))
  clear hb
  obtain ⟨vBD0, vBD1⟩ := BD.out.cells
  clear vBD0 vBD1
  have hb := Joins.below_alloc1 (w.alloc (.cells #[vs, .slice b M cb] 26)) (.cells #[.slice none 0 0, .slice none 0 0] 26)
  replace HB := Lib.hid (HB.out.trans (hb.mono HB.out.size))
  replace BD := Lib.hid (BD.out.below hb)
  have BR := Lib.hid (show Dk.Box ((w.alloc (.cells #[vs, .slice b M cb] 26)).alloc (.cells #[.slice none 0 0, .slice none 0 0] 26)) (w.heap.size + 1) _ _ 26 from by have hk := Dk.blk_new (w.alloc (.cells #[vs, .slice b M cb] 26)) (.cells #[.slice none 0 0, .slice none 0 0] 26); simp only [World.size_alloc] at hk; exact hk)
  clear hb
  obtain ⟨vBD0, vBD1⟩ := BD.out.cells
  obtain ⟨vBR0, vBR1, vBR2, vBR3⟩ := BR.out.four
  clear vBD0 vBD1 vBR0 vBR1 vBR2 vBR3
  have hb := Joins.below_alloc1 ((w.alloc (.cells #[vs, .slice b M cb] 26)).alloc (.cells #[.slice none 0 0, .slice none 0 0] 26)) (.cells #[] 9)
  replace HB := Lib.hid (HB.out.trans (hb.mono HB.out.size))
  replace BD := Lib.hid (BD.out.below hb)
  replace BR := Lib.hid (BR.out.below hb)
  clear hb
  obtain ⟨vBD0, vBD1⟩ := BD.out.cells
  obtain ⟨vBR0, vBR1, vBR2, vBR3⟩ := BR.out.four
  have s1 := hg1.size
  simp only [World.size_alloc] at s1
  clear vBD0 vBD1 vBR0 vBR1 vBR2 vBR3
  have ht := Turned.of_grown (lo := w.heap.size + 1 + 1) (hi := w1.heap.size) hg1 (fun k hk => by simp [Value.ownBlock] at hk; omega)
  replace HB := Lib.hid (HB.out.trans (ht.below (by omega) (by simp only [World.size_alloc]; omega)))
  replace BD := Lib.hid (Box.turned BD.out ht (by omega))
  replace BR := Lib.hid (Box.turned BR.out ht (by omega))
  have HROW := Lib.hid (RowIn.fresh hown1)
  clear hown1 hg1 ht
  have hb := Joins.below_alloc1 w1 (.cells #[.slice ua L uc, .slice none 0 0] 26)
  replace HB := Lib.hid (HB.out.trans (hb.mono HB.out.size))
  replace BD := Lib.hid (BD.out.below hb)
  replace BR := Lib.hid (BR.out.below hb)
  replace HROW := Lib.hid (HROW.out.below hb)
  have BO := Lib.hid (show Dk.Box (w1.alloc (.cells #[.slice ua L uc, .slice none 0 0] 26)) (w1.heap.size) _ _ 26 from Dk.blk_new w1 (.cells #[.slice ua L uc, .slice none 0 0] 26))
  clear hb
  obtain ⟨vBD0, vBD1⟩ := BD.out.cells
  obtain ⟨vBR0, vBR1, vBR2, vBR3⟩ := BR.out.four
  obtain ⟨vBO0, vBO1⟩ := BO.out.cells
  have hs2 : (w1.alloc (.cells #[.slice ua L uc, .slice none 0 0] 26)).heap.size = w1.heap.size + 1 := by simp
  go_wp2
  clear vBD0 vBD1 vBR0 vBR1 vBR2 vBR3 vBO0 vBO1
  generalize w1.alloc (.cells #[.slice ua L uc, .slice none 0 0] 26) = w2 at HB BD BR BO HROW hs2 ⊢
  go_loopw [18] (fun iv wr => ∃ k : Nat, k ≤ M ∧ iv = .int .i64 k ∧ RowIn wr (w.heap.size + 1 + 1) w1.heap.size 9 1 (.slice ua L uc) L ((stored ss ws (keepP bs) k).map Value.string) ∧ Turned w2 wr (w.heap.size + 1 + 1) w1.heap.size) (fun iv _ => M - (intOf iv).toNat)
  case atStart => exact ⟨0, Nat.zero_le _, rfl, HROW.out, Turned.refl _ _ _⟩
  case round =>
    obtain ⟨k, hk, rfl, hrow, ht⟩ := hrel
    have HT := Lib.hid ht
    have HR := Lib.hid hrow
    have hsz := ht.size
    have HBK := Lib.hid (HB.out.trans (ht.below (B := w.heap.size) (by omega) (by omega)))
    have BOK := Lib.hid (Box.turned BO.out ht (by omega))
    have hlo : w1.heap.size < wr.heap.size := by omega
    obtain ⟨x0, x1, x2, x3⟩ := BOK.out.four
    clear hrow ht HROW
    by_cases hkl : k < M
    · have hf := HFIT.out k hkl
      have hWK := HW.out.below HBK.out
      obtain ⟨bw, ow, rfl, hbw, g1, g2⟩ := hWK k (by rw [← HM.out]; exact hkl)
      clear hWK
      obtain ⟨n, hn⟩ : ∃ n : Nat, (ws.getD k d0).1 = n := ⟨(ws.getD k d0).1.toNat, by have := hf.1.1; omega⟩
      have hnL : n < L := by have := hf.1.2; omega
      rw [hn] at g1
      by_cases hkq : k < Q
      · obtain ⟨bk, ok, rfl, hbk, g3⟩ := HK.out k (by rw [← HQ.out]; exact hkq)
        rw [← HBK.out.cell (p := ⟨bk, _, none⟩) hbk] at g3
        have hbk2 : bk < wr.heap.size := by have := HBK.out.size; omega
        by_cases hp : keepP bs k = true
        · have hb3 : bs.getD k false = true := by
            unfold keepP at hp
            simp only [Bool.and_eq_true] at hp
            exact hp.2
          rw [hb3] at g3
          clear hb3
          obtain ⟨g, cap, he⟩ := Joins.ownsRow_form HR.out.1 (by omega)
          cases he
          have HX := Lib.hid (show stored ss ws (keepP bs) (k + 1) = (stored ss ws (keepP bs) k).set n (ws.getD k d0).2 by rw [stored, if_pos hp, hn, Int.toNat_natCast])
          have hbx := Dk.blk_new wr (.cells #[.int .i64 (n : Int), .string (ws.getD k d0).2] 39)
          obtain ⟨⟨y, hy⟩, hfz, hrow, htn⟩ := row_store (W := wr.alloc (.cells #[.int .i64 (n : Int), .string (ws.getD k d0).2] 39)) (s := (ws.getD k d0).2) (HR.out.below (Joins.below_alloc1 wr _)) hnL (by rw [stored_len, HL.out])
          rw [← HX.out] at hrow
          have HROW := Lib.hid hrow
          have HTN := Lib.hid (HT.out.trans ((Turned.of_below (Joins.below_alloc1 wr _) (Nat.le_refl _) _ _).trans htn))
          clear hrow htn hf hn hbx
          generalize (ws.getD k d0).2 = s at g2 hy hfz HROW HTN
          go_wp2
          go_roundw
          case rel => exact ⟨k + 1, by omega, by go_num, HROW.out, HTN.out⟩
          case measure => simp [intOf]; omega
        · have hb3 : bs.getD k false = false := by
            unfold keepP at hp
            rw [decide_eq_true (by rw [← HQ.out]; exact hkq), Bool.true_and] at hp
            exact Bool.eq_false_iff.2 hp
          rw [hb3] at g3
          have HX := Lib.hid (show stored ss ws (keepP bs) (k + 1) = stored ss ws (keepP bs) k by rw [stored, if_neg hp])
          clear hb3 hp hf hn
          generalize (ws.getD k d0).2 = s at g2
          go_wp2
          go_roundw
          case rel => exact ⟨k + 1, by omega, by go_num, by rw [HX.out]; exact HR.out.below (Joins.below_alloc1 wr _), HT.out.trans (Turned.of_below (Joins.below_alloc1 wr _) (Nat.le_refl _) _ _)⟩
          case measure => simp [intOf]; omega
      · have HX := Lib.hid (show stored ss ws (keepP bs) (k + 1) = stored ss ws (keepP bs) k by
          rw [stored, if_neg]
          unfold keepP
          rw [decide_eq_false (by rw [← HQ.out]; exact hkq)]
          simp)
        clear hf hn
        generalize (ws.getD k d0).2 = s at g2
        go_wp2
        go_roundw
        case rel => exact ⟨k + 1, by omega, by go_num, by rw [HX.out]; exact HR.out.below (Joins.below_alloc1 wr _), HT.out.trans (Turned.of_below (Joins.below_alloc1 wr _) (Nat.le_refl _) _ _)⟩
        case measure => simp [intOf]; omega
    · obtain rfl : k = M := by omega
      have BRK := Lib.hid (Box.turned BR.out HT.out (by omega))
      obtain ⟨z0, z1, z2, z3⟩ := BRK.out.four
      have hlr : w.heap.size + 1 < wr.heap.size := by omega
      go_wp2
      have hOwn : Own wr (w.heap.size + 1 + 1) wr.heap.size (.slice ua L uc) (.slice none 0 0) (storeF (keepP bs) (ss, ws)) :=
        ⟨by
          have hl : (storeF (keepP bs) (ss, ws)).1.length = L := by rw [HL.out]; exact stored_len _ _ _ _
          rw [hl]
          have := HR.out.wide (Nat.le_refl _) (hi' := wr.heap.size) (by omega)
          rw [HM.out] at this
          exact this, ⟨World.ownsRow_nil _ _ _ _, fun k hk => by cases hk⟩⟩
      obtain ⟨hO, hF, hS⟩ := Own.into hOwn BRK.out
      have hBB := Dk.below_into (b := w.heap.size + 1) HBK.out (by omega) (.slice ua L uc) (.slice none 0 0)
      generalize (wr.setCell ⟨w.heap.size + 1, 0, none⟩ (.slice ua L uc)).setCell ⟨w.heap.size + 1, 1, none⟩ (.slice none 0 0) = wf at hO hF hS hBB ⊢
      obtain ⟨c0, c1, _, _⟩ := Box.four hF
      exact bodyPost_ret (v := .agg #[.slice ua L uc, .slice none 0 0]) (by simp [results, Try.results117, go_sem, c0, c1]) rfl ⟨_, _, rfl, hO.wide (by omega) (by rw [hS]; omega), hBB⟩

/-- A row of writes stays when a sector is stored. -/
theorem row_store2 {W : World} {lo hi : Nat} {g cap L n : Nat} {l : List ByteArray} {s : ByteArray} {v : Value} {m : Nat} {xs : List Value} (h : RowIn W lo hi 9 1 (.slice (some ⟨g, 0, none⟩) L cap) L (l.map Value.string)) (hp : RowIn W lo hi 39 2 v m xs) :
    RowIn (W.setCell ⟨g, n, none⟩ (.string s)) lo hi 39 2 v m xs := by
  have hst := h.1.stored n (.string s)
  exact ⟨World.ownsRow.kept hp.1 hst.2 (Dk.own_two hp.1 h.1 (by decide)), hp.2⟩
theorem at_of_own {W : World} {lo hi : Nat} {a : Option Addr} {c M : Nat} {ws : List Wt} (h : RowIn W lo hi 39 2 (.slice a M c) M (wcells ws)) : AtW W a ws := by
  obtain ⟨a', c', he, h'⟩ := atW (Wr.holds_of_own h.1)
  cases he
  exact h'
/-- What FlushDisk and CrashDisk answer. -/
def storeV (p : Nat → Bool) (d : D) : D := if Ok d then storeF p d else d

theorem every_any (k : Int) (w : World) : Calls Try.prog 155 #[.int .i64 k] w fun e w' => e = .returned (.bool true) ∧ w = w' := by
  go_enter Try.func155, Try.ntmps155
  go_wp2
  go_ret
  exact ⟨rfl, rfl⟩
set_option maxRecDepth 100000 in
theorem in_keep (k : Nat) (bs : List Bool) (ka : Option Addr) (kc kb : Nat) (w : World) (hk : k ≤ 1073741824) (h3 : bs.length ≤ 1073741824) (hc : w.cell? ⟨kb, 0, none⟩ = some (.slice ka bs.length kc)) (hb : HoldsB w (.slice ka bs.length kc) bs) :
    Calls Try.prog 108 #[.int .i64 k, .pointer (some ⟨kb, 0, none⟩)] w fun e w' => e = .returned (.bool (keepP bs k)) ∧ w = w' := by
  by_cases hkq : k < bs.length
  · have HP := Lib.hid (show keepP bs k = bs.getD k false by unfold keepP; rw [decide_eq_true hkq, Bool.true_and])
    obtain ⟨a, c, he, hat⟩ := hb
    cases he
    obtain ⟨bk, ok, rfl, hbk, g3⟩ := hat k hkq
    clear hat
    generalize bs.getD k false = q at g3 HP
    generalize bs.length = Q at hkq hc h3
    go_enter Try.func108, Try.ntmps108
    go_wp2
    go_ret
    exact ⟨Dk.ret_bool HP.out.symm, rfl⟩
  · have HP := Lib.hid (show keepP bs k = false by unfold keepP; rw [decide_eq_false hkq, Bool.false_and])
    clear hb
    generalize bs.length = Q at hkq hc h3
    go_enter Try.func108, Try.ntmps108
    go_wp2
    go_ret
    exact ⟨Dk.ret_bool HP.out.symm, rfl⟩
set_option maxRecDepth 100000 in
set_option maxHeartbeats 4000000 in
theorem impl_all (w : World) (vs vp : Value) (d : D) (h1 : d.1.length ≤ 1073741824) (h2 : d.2.length ≤ 1073741824) (h : Holds w vs vp d) :
    Calls Try.prog 64 #[.agg #[vs, vp], .func (.func 155) #[] #[]] w fun e w' => ∃ us up, e = .returned (.agg #[us, up]) ∧ Own w' w.heap.size w'.heap.size us up (storeV allP d) ∧ Below w.heap.size w w' := by
  have H := Lib.hid h
  obtain ⟨ss, ws⟩ := d
  dsimp only at H h1 h2 ⊢
  clear h
  by_cases hok : Ok (ss, ws)
  · have HOK := Lib.hid (show decide (Ok (ss, ws)) = true from decide_eq_true hok)
    have hV : storeV allP (ss, ws) = storeF allP (ss, ws) := if_pos hok
    rw [hV]
    have HFIT := Lib.hid hok.2.2
    dsimp only at HFIT
    clear hV hok
    have HB := Lib.hid (Below.refl w.heap.size w)
    go_enter Try.func64, Try.ntmps64
    have hb := Joins.below_alloc1 w (.cells #[vs, vp] 26)
    replace HB := Lib.hid (HB.out.trans (hb.mono HB.out.size))
    have BD := Lib.hid (show Dk.Box (w.alloc (.cells #[vs, vp] 26)) (w.heap.size) _ _ 26 from Dk.blk_new w (.cells #[vs, vp] 26))
    clear hb
    obtain ⟨vBD0, vBD1, vBD2, vBD3⟩ := BD.out.four
    clear vBD0 vBD1 vBD2 vBD3
    have hb := Joins.below_alloc1 (w.alloc (.cells #[vs, vp] 26)) (.cells #[.slice none 0 0, .slice none 0 0] 26)
    replace HB := Lib.hid (HB.out.trans (hb.mono HB.out.size))
    replace BD := Lib.hid (BD.out.below hb)
    have BR := Lib.hid (show Dk.Box ((w.alloc (.cells #[vs, vp] 26)).alloc (.cells #[.slice none 0 0, .slice none 0 0] 26)) (w.heap.size + 1) _ _ 26 from by have hk := Dk.blk_new (w.alloc (.cells #[vs, vp] 26)) (.cells #[.slice none 0 0, .slice none 0 0] 26); simp only [World.size_alloc] at hk; exact hk)
    clear hb
    obtain ⟨vBD0, vBD1, vBD2, vBD3⟩ := BD.out.four
    obtain ⟨vBR0, vBR1, vBR2, vBR3⟩ := BR.out.four
    go_wp2_with fail
    refine (IsDisk.impl_any _ vs vp (ss, ws) h1 h2 (H.out.below HB.out)).mono ?_
    rintro e w1 ⟨rfl, hb⟩
    have s1 := hb.size
    simp only [World.size_alloc] at s1
    clear vBD0 vBD1 vBD2 vBD3 vBR0 vBR1 vBR2 vBR3
    replace HB := Lib.hid (HB.out.trans (hb.mono HB.out.size))
    replace BD := Lib.hid (BD.out.below hb)
    replace BR := Lib.hid (BR.out.below hb)
    clear hb
    rw [HOK.out]
    obtain ⟨vBD0, vBD1, vBD2, vBD3⟩ := BD.out.four
    obtain ⟨vBR0, vBR1, vBR2, vBR3⟩ := BR.out.four
    go_wp2_with fail
    refine (Copy.impl_any _ vs vp (ss, ws) h1 h2 (H.out.below HB.out)).mono ?_
    rintro e w2 ⟨_, _, rfl, hown, hb⟩
    have s2 := hb.size
    clear vBD0 vBD1 vBD2 vBD3 vBR0 vBR1 vBR2 vBR3
    obtain ⟨ua, uc, rfl⟩ := Dk.slice_of hown.1.1
    obtain ⟨ub, ud, rfl⟩ := Dk.slice_of hown.2.1
    dsimp only at hown ⊢
    have HO := Lib.hid hown
    clear hown
    replace HB := Lib.hid (HB.out.trans (hb.mono HB.out.size))
    replace BD := Lib.hid (BD.out.below hb)
    replace BR := Lib.hid (BR.out.below hb)
    replace HO := HO
    clear hb
    obtain ⟨vBD0, vBD1, vBD2, vBD3⟩ := BD.out.four
    obtain ⟨vBR0, vBR1, vBR2, vBR3⟩ := BR.out.four
    go_wp2
    clear vBD0 vBD1 vBD2 vBD3 vBR0 vBR1 vBR2 vBR3
    have hI := Dk.Own.into HO.out BD.out
    replace HB := Lib.hid (Dk.below_into (b := w.heap.size) HB.out (by omega) (.slice ua ss.length uc) (.slice ub ws.length ud))
    replace BR := Lib.hid (Dk.Box.other (i := 1) (u := (.slice ub ws.length ud)) (c := w.heap.size) (Dk.Box.other (i := 0) (u := (.slice ua ss.length uc)) (c := w.heap.size) BR.out (by omega)) (by omega))
    replace BD := Lib.hid hI.2.1
    replace HO := Lib.hid hI.1
    have s3 := hI.2.2
    clear hI
    generalize (w2.setCell ⟨w.heap.size, 0, none⟩ (.slice ua ss.length uc)).setCell ⟨w.heap.size, 1, none⟩ (.slice ub ws.length ud) = w3 at HB BD BR HO s3 ⊢
    obtain ⟨vBD0, vBD1, vBD2, vBD3⟩ := BD.out.four
    obtain ⟨vBR0, vBR1, vBR2, vBR3⟩ := BR.out.four
    clear vBD0 vBD1 vBD2 vBD3 vBR0 vBR1 vBR2 vBR3
    obtain ⟨vBD0, vBD1, vBD2, vBD3⟩ := BD.out.four
    go_loopw [18] (fun iv wr => ∃ k : Nat, k ≤ ws.length ∧ iv = .int .i64 k ∧ RowIn wr w1.heap.size w2.heap.size 9 1 (.slice ua ss.length uc) ss.length ((stored ss ws allP k).map Value.string) ∧ RowIn wr w1.heap.size w2.heap.size 39 2 (.slice ub ws.length ud) ws.length (wcells ws) ∧ Turned w3 wr w1.heap.size w2.heap.size) (fun iv _ => ws.length - (intOf iv).toNat)
    case atStart => exact ⟨0, Nat.zero_le _, rfl, HO.out.1, HO.out.2, Turned.refl _ _ _⟩
    case round =>
      obtain ⟨k, hk, rfl, hrow, hprow, ht⟩ := hrel
      have HT := Lib.hid ht
      have HR := Lib.hid hrow
      have HPR := Lib.hid hprow
      have hsz := ht.size
      have HBK := Lib.hid (HB.out.trans (ht.below (B := w.heap.size) (by omega) (by omega)))
      have BDK := Lib.hid (Box.turned BD.out ht (by omega))
      have hlo : w.heap.size < wr.heap.size := by omega
      obtain ⟨x0, x1, x2, x3⟩ := BDK.out.four
      clear hrow hprow ht HO
      by_cases hkl : k < ws.length
      · have hf := HFIT.out k hkl
        obtain ⟨bw, ow, rfl, hbw, g1, g2⟩ := at_of_own HPR.out k hkl
        obtain ⟨n, hn⟩ : ∃ n : Nat, (ws.getD k d0).1 = n := ⟨(ws.getD k d0).1.toNat, by have := hf.1.1; omega⟩
        have hnL : n < ss.length := by have := hf.1.2; omega
        rw [hn] at g1
        have hpq : allP k = true := rfl
        obtain ⟨g, cap, he⟩ := Joins.ownsRow_form HR.out.1 (by omega)
        cases he
        have HX := Lib.hid (show stored ss ws allP (k + 1) = (stored ss ws allP k).set n (ws.getD k d0).2 by rw [stored, if_pos hpq, hn, Int.toNat_natCast])
        obtain ⟨⟨y, hy⟩, hfz, hrow, htn⟩ := row_store (W := wr.alloc (.cells #[.int .i64 (n : Int), .string (ws.getD k d0).2] 39)) (s := (ws.getD k d0).2) (HR.out.below (Joins.below_alloc1 wr _)) hnL (by rw [stored_len])
        have HP2 := Lib.hid (row_store2 (n := n) (s := (ws.getD k d0).2) (HR.out.below (Joins.below_alloc1 wr (.cells #[.int .i64 (n : Int), .string (ws.getD k d0).2] 39))) (HPR.out.below (Joins.below_alloc1 wr (.cells #[.int .i64 (n : Int), .string (ws.getD k d0).2] 39))))
        rw [← HX.out] at hrow
        have HROW := Lib.hid hrow
        have HTN := Lib.hid (HT.out.trans ((Turned.of_below (Joins.below_alloc1 wr _) (Nat.le_refl _) _ _).trans htn))
        clear hrow htn hf hn HX HR HPR
        generalize (ws.getD k d0).2 = s at g2 hy hfz HROW HTN HP2
        go_wp2_with fail
        refine (every_any _ _).mono ?_
        rintro e wq ⟨rfl, rfl⟩
        clear hpq
        go_wp2
        go_roundw
        case rel => exact ⟨k + 1, by omega, by go_num, HROW.out, HP2.out, HTN.out⟩
        case measure => simp [intOf]; omega
      · have hke : k = ws.length := by omega
        have HKE := Lib.hid hke
        clear hke
        have BRK := Lib.hid (Box.turned BR.out HT.out (by omega))
        obtain ⟨z0, z1, z2, z3⟩ := BRK.out.four
        have hlr : w.heap.size + 1 < wr.heap.size := by omega
        go_wp2
        have hOwn : Own wr w1.heap.size wr.heap.size (.slice ua ss.length uc) (.slice none 0 0) (storeF allP (ss, ws)) :=
          ⟨by
            have hl : (storeF allP (ss, ws)).1.length = ss.length := stored_len _ _ _ _
            rw [hl]
            have := HR.out.wide (Nat.le_refl _) (hi' := wr.heap.size) (by omega)
            rw [HKE.out] at this
            exact this, ⟨World.ownsRow_nil _ _ _ _, fun k hk => by cases hk⟩⟩
        have hOwn1 := Own.set (i := 1) (u := .slice none 0 0) hOwn BDK.out
        have hR1 := Box.other (i := 1) (u := .slice none 0 0) (c := w.heap.size) BRK.out (by omega)
        have hB1 := HBK.out.setCell (p := ⟨w.heap.size, 1, none⟩) (Nat.le_refl _) (.slice none 0 0)
        have hs10 : (wr.setCell ⟨w.heap.size, 1, none⟩ (.slice none 0 0)).heap.size = wr.heap.size := World.size_setCell ..
        generalize wr.setCell ⟨w.heap.size, 1, none⟩ (.slice none 0 0) = w10 at hOwn1 hR1 hB1 hs10 ⊢
        obtain ⟨hO, hF, hS⟩ := Own.into hOwn1 hR1
        have hBB := Dk.below_into (b := w.heap.size + 1) hB1 (by omega) (.slice ua ss.length uc) (.slice none 0 0)
        generalize (w10.setCell ⟨w.heap.size + 1, 0, none⟩ (.slice ua ss.length uc)).setCell ⟨w.heap.size + 1, 1, none⟩ (.slice none 0 0) = wf at hO hF hS hBB ⊢
        obtain ⟨c0, c1, _, _⟩ := Box.four hF
        exact bodyPost_ret (v := .agg #[.slice ua ss.length uc, .slice none 0 0]) (by simp [results, Try.results64, go_sem, c0, c1]) rfl ⟨_, _, rfl, hO.wide (by omega) (by rw [hS]; omega), hBB⟩
  · have HOK := Lib.hid (show decide (Ok (ss, ws)) = false from decide_eq_false hok)
    have hV : storeV allP (ss, ws) = (ss, ws) := if_neg hok
    rw [hV]
    clear hV hok
    have HB := Lib.hid (Below.refl w.heap.size w)
    go_enter Try.func64, Try.ntmps64
    have hb := Joins.below_alloc1 w (.cells #[vs, vp] 26)
    replace HB := Lib.hid (HB.out.trans (hb.mono HB.out.size))
    have BD := Lib.hid (show Dk.Box (w.alloc (.cells #[vs, vp] 26)) (w.heap.size) _ _ 26 from Dk.blk_new w (.cells #[vs, vp] 26))
    clear hb
    obtain ⟨vBD0, vBD1, vBD2, vBD3⟩ := BD.out.four
    clear vBD0 vBD1 vBD2 vBD3
    have hb := Joins.below_alloc1 (w.alloc (.cells #[vs, vp] 26)) (.cells #[.slice none 0 0, .slice none 0 0] 26)
    replace HB := Lib.hid (HB.out.trans (hb.mono HB.out.size))
    replace BD := Lib.hid (BD.out.below hb)
    have BR := Lib.hid (show Dk.Box ((w.alloc (.cells #[vs, vp] 26)).alloc (.cells #[.slice none 0 0, .slice none 0 0] 26)) (w.heap.size + 1) _ _ 26 from by have hk := Dk.blk_new (w.alloc (.cells #[vs, vp] 26)) (.cells #[.slice none 0 0, .slice none 0 0] 26); simp only [World.size_alloc] at hk; exact hk)
    clear hb
    obtain ⟨vBD0, vBD1, vBD2, vBD3⟩ := BD.out.four
    obtain ⟨vBR0, vBR1, vBR2, vBR3⟩ := BR.out.four
    go_wp2_with fail
    refine (IsDisk.impl_any _ vs vp (ss, ws) h1 h2 (H.out.below HB.out)).mono ?_
    rintro e w1 ⟨rfl, hb⟩
    have s1 := hb.size
    simp only [World.size_alloc] at s1
    clear vBD0 vBD1 vBD2 vBD3 vBR0 vBR1 vBR2 vBR3
    replace HB := Lib.hid (HB.out.trans (hb.mono HB.out.size))
    replace BD := Lib.hid (BD.out.below hb)
    replace BR := Lib.hid (BR.out.below hb)
    clear hb
    rw [HOK.out]
    obtain ⟨vBD0, vBD1, vBD2, vBD3⟩ := BD.out.four
    obtain ⟨vBR0, vBR1, vBR2, vBR3⟩ := BR.out.four
    go_wp2_with fail
    refine (Copy.impl_any _ vs vp (ss, ws) h1 h2 (H.out.below HB.out)).mono ?_
    rintro e w2 ⟨_, _, rfl, hown, hb⟩
    have s2 := hb.size
    clear vBD0 vBD1 vBD2 vBD3 vBR0 vBR1 vBR2 vBR3
    obtain ⟨ua, uc, rfl⟩ := Dk.slice_of hown.1.1
    obtain ⟨ub, ud, rfl⟩ := Dk.slice_of hown.2.1
    dsimp only at hown ⊢
    have HO := Lib.hid hown
    clear hown
    replace HB := Lib.hid (HB.out.trans (hb.mono HB.out.size))
    replace BD := Lib.hid (BD.out.below hb)
    replace BR := Lib.hid (BR.out.below hb)
    replace HO := HO
    clear hb
    obtain ⟨vBD0, vBD1, vBD2, vBD3⟩ := BD.out.four
    obtain ⟨vBR0, vBR1, vBR2, vBR3⟩ := BR.out.four
    go_wp2
    clear vBD0 vBD1 vBD2 vBD3 vBR0 vBR1 vBR2 vBR3
    have hI := Dk.Own.into HO.out BD.out
    replace HB := Lib.hid (Dk.below_into (b := w.heap.size) HB.out (by omega) (.slice ua ss.length uc) (.slice ub ws.length ud))
    replace BR := Lib.hid (Dk.Box.other (i := 1) (u := (.slice ub ws.length ud)) (c := w.heap.size) (Dk.Box.other (i := 0) (u := (.slice ua ss.length uc)) (c := w.heap.size) BR.out (by omega)) (by omega))
    replace BD := Lib.hid hI.2.1
    replace HO := Lib.hid hI.1
    have s3 := hI.2.2
    clear hI
    generalize (w2.setCell ⟨w.heap.size, 0, none⟩ (.slice ua ss.length uc)).setCell ⟨w.heap.size, 1, none⟩ (.slice ub ws.length ud) = w3 at HB BD BR HO s3 ⊢
    obtain ⟨vBD0, vBD1, vBD2, vBD3⟩ := BD.out.four
    obtain ⟨vBR0, vBR1, vBR2, vBR3⟩ := BR.out.four
    go_wp2
    obtain ⟨hO, hF, hS⟩ := Dk.Own.into HO.out BR.out
    have hBB := Dk.below_into (b := w.heap.size + 1) HB.out (by omega) (.slice ua ss.length uc) (.slice ub ws.length ud)
    generalize (w3.setCell ⟨w.heap.size + 1, 0, none⟩ (.slice ua ss.length uc)).setCell ⟨w.heap.size + 1, 1, none⟩ (.slice ub ws.length ud) = wf at hO hF hS hBB ⊢
    obtain ⟨c0, c1, _, _⟩ := Dk.Box.four hF
    exact bodyPost_ret (v := .agg #[.slice ua ss.length uc, .slice ub ws.length ud]) (by simp [results, Try.results64, go_sem, c0, c1]) rfl ⟨_, _, rfl, hO.wide (by (try simp only [World.size_alloc]); omega) (by rw [hS]; (try simp only [World.size_alloc]); omega), hBB⟩

set_option maxRecDepth 100000 in
set_option maxHeartbeats 4000000 in
theorem impl_keep (w : World) (vs vp : Value) (bs : List Bool) (ka : Option Addr) (kc kb : Nat) (d : D) (h1 : d.1.length ≤ 1073741824) (h2 : d.2.length ≤ 1073741824) (h3 : bs.length ≤ 1073741824) (hc : w.cell? ⟨kb, 0, none⟩ = some (.slice ka bs.length kc)) (hkb : kb < w.heap.size) (hkeep : HoldsB w (.slice ka bs.length kc) bs) (h : Holds w vs vp d) :
    Calls Try.prog 64 #[.agg #[vs, vp], .func (.func 108) #[] #[.pointer (some ⟨kb, 0, none⟩)]] w fun e w' => ∃ us up, e = .returned (.agg #[us, up]) ∧ Own w' w.heap.size w'.heap.size us up (storeV (keepP bs) d) ∧ Below w.heap.size w w' := by
  have H := Lib.hid h
  obtain ⟨ss, ws⟩ := d
  dsimp only at H h1 h2 ⊢
  clear h
  have HKC := Lib.hid hc
  have HKEEP := Lib.hid hkeep
  clear hc hkeep
  by_cases hok : Ok (ss, ws)
  · have HOK := Lib.hid (show decide (Ok (ss, ws)) = true from decide_eq_true hok)
    have hV : storeV (keepP bs) (ss, ws) = storeF (keepP bs) (ss, ws) := if_pos hok
    rw [hV]
    have HFIT := Lib.hid hok.2.2
    dsimp only at HFIT
    clear hV hok
    have HB := Lib.hid (Below.refl w.heap.size w)
    go_enter Try.func64, Try.ntmps64
    have hb := Joins.below_alloc1 w (.cells #[vs, vp] 26)
    replace HB := Lib.hid (HB.out.trans (hb.mono HB.out.size))
    have BD := Lib.hid (show Dk.Box (w.alloc (.cells #[vs, vp] 26)) (w.heap.size) _ _ 26 from Dk.blk_new w (.cells #[vs, vp] 26))
    clear hb
    obtain ⟨vBD0, vBD1, vBD2, vBD3⟩ := BD.out.four
    clear vBD0 vBD1 vBD2 vBD3
    have hb := Joins.below_alloc1 (w.alloc (.cells #[vs, vp] 26)) (.cells #[.slice none 0 0, .slice none 0 0] 26)
    replace HB := Lib.hid (HB.out.trans (hb.mono HB.out.size))
    replace BD := Lib.hid (BD.out.below hb)
    have BR := Lib.hid (show Dk.Box ((w.alloc (.cells #[vs, vp] 26)).alloc (.cells #[.slice none 0 0, .slice none 0 0] 26)) (w.heap.size + 1) _ _ 26 from by have hk := Dk.blk_new (w.alloc (.cells #[vs, vp] 26)) (.cells #[.slice none 0 0, .slice none 0 0] 26); simp only [World.size_alloc] at hk; exact hk)
    clear hb
    obtain ⟨vBD0, vBD1, vBD2, vBD3⟩ := BD.out.four
    obtain ⟨vBR0, vBR1, vBR2, vBR3⟩ := BR.out.four
    go_wp2_with fail
    refine (IsDisk.impl_any _ vs vp (ss, ws) h1 h2 (H.out.below HB.out)).mono ?_
    rintro e w1 ⟨rfl, hb⟩
    have s1 := hb.size
    simp only [World.size_alloc] at s1
    clear vBD0 vBD1 vBD2 vBD3 vBR0 vBR1 vBR2 vBR3
    replace HB := Lib.hid (HB.out.trans (hb.mono HB.out.size))
    replace BD := Lib.hid (BD.out.below hb)
    replace BR := Lib.hid (BR.out.below hb)
    clear hb
    rw [HOK.out]
    obtain ⟨vBD0, vBD1, vBD2, vBD3⟩ := BD.out.four
    obtain ⟨vBR0, vBR1, vBR2, vBR3⟩ := BR.out.four
    go_wp2_with fail
    refine (Copy.impl_any _ vs vp (ss, ws) h1 h2 (H.out.below HB.out)).mono ?_
    rintro e w2 ⟨_, _, rfl, hown, hb⟩
    have s2 := hb.size
    clear vBD0 vBD1 vBD2 vBD3 vBR0 vBR1 vBR2 vBR3
    obtain ⟨ua, uc, rfl⟩ := Dk.slice_of hown.1.1
    obtain ⟨ub, ud, rfl⟩ := Dk.slice_of hown.2.1
    dsimp only at hown ⊢
    have HO := Lib.hid hown
    clear hown
    replace HB := Lib.hid (HB.out.trans (hb.mono HB.out.size))
    replace BD := Lib.hid (BD.out.below hb)
    replace BR := Lib.hid (BR.out.below hb)
    replace HO := HO
    clear hb
    obtain ⟨vBD0, vBD1, vBD2, vBD3⟩ := BD.out.four
    obtain ⟨vBR0, vBR1, vBR2, vBR3⟩ := BR.out.four
    go_wp2
    clear vBD0 vBD1 vBD2 vBD3 vBR0 vBR1 vBR2 vBR3
    have hI := Dk.Own.into HO.out BD.out
    replace HB := Lib.hid (Dk.below_into (b := w.heap.size) HB.out (by omega) (.slice ua ss.length uc) (.slice ub ws.length ud))
    replace BR := Lib.hid (Dk.Box.other (i := 1) (u := (.slice ub ws.length ud)) (c := w.heap.size) (Dk.Box.other (i := 0) (u := (.slice ua ss.length uc)) (c := w.heap.size) BR.out (by omega)) (by omega))
    replace BD := Lib.hid hI.2.1
    replace HO := Lib.hid hI.1
    have s3 := hI.2.2
    clear hI
    generalize (w2.setCell ⟨w.heap.size, 0, none⟩ (.slice ua ss.length uc)).setCell ⟨w.heap.size, 1, none⟩ (.slice ub ws.length ud) = w3 at HB BD BR HO s3 ⊢
    obtain ⟨vBD0, vBD1, vBD2, vBD3⟩ := BD.out.four
    obtain ⟨vBR0, vBR1, vBR2, vBR3⟩ := BR.out.four
    clear vBD0 vBD1 vBD2 vBD3 vBR0 vBR1 vBR2 vBR3
    obtain ⟨vBD0, vBD1, vBD2, vBD3⟩ := BD.out.four
    go_loopw [18] (fun iv wr => ∃ k : Nat, k ≤ ws.length ∧ iv = .int .i64 k ∧ RowIn wr w1.heap.size w2.heap.size 9 1 (.slice ua ss.length uc) ss.length ((stored ss ws (keepP bs) k).map Value.string) ∧ RowIn wr w1.heap.size w2.heap.size 39 2 (.slice ub ws.length ud) ws.length (wcells ws) ∧ Turned w3 wr w1.heap.size w2.heap.size) (fun iv _ => ws.length - (intOf iv).toNat)
    case atStart => exact ⟨0, Nat.zero_le _, rfl, HO.out.1, HO.out.2, Turned.refl _ _ _⟩
    case round =>
      obtain ⟨k, hk, rfl, hrow, hprow, ht⟩ := hrel
      have HT := Lib.hid ht
      have HR := Lib.hid hrow
      have HPR := Lib.hid hprow
      have hsz := ht.size
      have HBK := Lib.hid (HB.out.trans (ht.below (B := w.heap.size) (by omega) (by omega)))
      have BDK := Lib.hid (Box.turned BD.out ht (by omega))
      have hlo : w.heap.size < wr.heap.size := by omega
      obtain ⟨x0, x1, x2, x3⟩ := BDK.out.four
      clear hrow hprow ht HO
      by_cases hkl : k < ws.length
      · have hf := HFIT.out k hkl
        obtain ⟨bw, ow, rfl, hbw, g1, g2⟩ := at_of_own HPR.out k hkl
        obtain ⟨n, hn⟩ : ∃ n : Nat, (ws.getD k d0).1 = n := ⟨(ws.getD k d0).1.toNat, by have := hf.1.1; omega⟩
        have hnL : n < ss.length := by have := hf.1.2; omega
        rw [hn] at g1
        cases hpq : keepP bs k with
        | true =>
          obtain ⟨g, cap, he⟩ := Joins.ownsRow_form HR.out.1 (by omega)
          cases he
          have HX := Lib.hid (show stored ss ws (keepP bs) (k + 1) = (stored ss ws (keepP bs) k).set n (ws.getD k d0).2 by rw [stored, if_pos hpq, hn, Int.toNat_natCast])
          obtain ⟨⟨y, hy⟩, hfz, hrow, htn⟩ := row_store (W := wr.alloc (.cells #[.int .i64 (n : Int), .string (ws.getD k d0).2] 39)) (s := (ws.getD k d0).2) (HR.out.below (Joins.below_alloc1 wr _)) hnL (by rw [stored_len])
          have HP2 := Lib.hid (row_store2 (n := n) (s := (ws.getD k d0).2) (HR.out.below (Joins.below_alloc1 wr (.cells #[.int .i64 (n : Int), .string (ws.getD k d0).2] 39))) (HPR.out.below (Joins.below_alloc1 wr (.cells #[.int .i64 (n : Int), .string (ws.getD k d0).2] 39))))
          rw [← HX.out] at hrow
          have HROW := Lib.hid hrow
          have HTN := Lib.hid (HT.out.trans ((Turned.of_below (Joins.below_alloc1 wr _) (Nat.le_refl _) _ _).trans htn))
          clear hrow htn hf hn HX HR HPR
          generalize (ws.getD k d0).2 = s at g2 hy hfz HROW HTN HP2
          go_wp2_with fail
          refine (in_keep k bs ka kc kb _ (by omega) h3 (((Below.alloc HBK.out (by have := HBK.out.size; omega) _).cell (p := ⟨kb, 0, none⟩) hkb).trans HKC.out) (HKEEP.out.below (Below.alloc HBK.out (by have := HBK.out.size; omega) _))).mono ?_
          rintro e wq ⟨rfl, rfl⟩
          rw [hpq]
          clear hpq
          go_wp2
          go_roundw
          case rel => exact ⟨k + 1, by omega, by go_num, HROW.out, HP2.out, HTN.out⟩
          case measure => simp [intOf]; omega
        | false =>
          have HX := Lib.hid (show stored ss ws (keepP bs) (k + 1) = stored ss ws (keepP bs) k by rw [stored, if_neg (by rw [hpq]; simp)])
          clear hf hn
          generalize (ws.getD k d0).2 = s at g2
          go_wp2_with fail
          refine (in_keep k bs ka kc kb _ (by omega) h3 (((Below.alloc HBK.out (by have := HBK.out.size; omega) _).cell (p := ⟨kb, 0, none⟩) hkb).trans HKC.out) (HKEEP.out.below (Below.alloc HBK.out (by have := HBK.out.size; omega) _))).mono ?_
          rintro e wq ⟨rfl, rfl⟩
          rw [hpq]
          clear hpq
          go_wp2
          go_roundw
          case rel => exact ⟨k + 1, by omega, by go_num, by rw [HX.out]; exact HR.out.below (Joins.below_alloc1 wr _), HPR.out.below (Joins.below_alloc1 wr _), HT.out.trans (Turned.of_below (Joins.below_alloc1 wr _) (Nat.le_refl _) _ _)⟩
          case measure => simp [intOf]; omega
      · have hke : k = ws.length := by omega
        have HKE := Lib.hid hke
        clear hke
        have BRK := Lib.hid (Box.turned BR.out HT.out (by omega))
        obtain ⟨z0, z1, z2, z3⟩ := BRK.out.four
        have hlr : w.heap.size + 1 < wr.heap.size := by omega
        go_wp2
        have hOwn : Own wr w1.heap.size wr.heap.size (.slice ua ss.length uc) (.slice none 0 0) (storeF (keepP bs) (ss, ws)) :=
          ⟨by
            have hl : (storeF (keepP bs) (ss, ws)).1.length = ss.length := stored_len _ _ _ _
            rw [hl]
            have := HR.out.wide (Nat.le_refl _) (hi' := wr.heap.size) (by omega)
            rw [HKE.out] at this
            exact this, ⟨World.ownsRow_nil _ _ _ _, fun k hk => by cases hk⟩⟩
        have hOwn1 := Own.set (i := 1) (u := .slice none 0 0) hOwn BDK.out
        have hR1 := Box.other (i := 1) (u := .slice none 0 0) (c := w.heap.size) BRK.out (by omega)
        have hB1 := HBK.out.setCell (p := ⟨w.heap.size, 1, none⟩) (Nat.le_refl _) (.slice none 0 0)
        have hs10 : (wr.setCell ⟨w.heap.size, 1, none⟩ (.slice none 0 0)).heap.size = wr.heap.size := World.size_setCell ..
        generalize wr.setCell ⟨w.heap.size, 1, none⟩ (.slice none 0 0) = w10 at hOwn1 hR1 hB1 hs10 ⊢
        obtain ⟨hO, hF, hS⟩ := Own.into hOwn1 hR1
        have hBB := Dk.below_into (b := w.heap.size + 1) hB1 (by omega) (.slice ua ss.length uc) (.slice none 0 0)
        generalize (w10.setCell ⟨w.heap.size + 1, 0, none⟩ (.slice ua ss.length uc)).setCell ⟨w.heap.size + 1, 1, none⟩ (.slice none 0 0) = wf at hO hF hS hBB ⊢
        obtain ⟨c0, c1, _, _⟩ := Box.four hF
        exact bodyPost_ret (v := .agg #[.slice ua ss.length uc, .slice none 0 0]) (by simp [results, Try.results64, go_sem, c0, c1]) rfl ⟨_, _, rfl, hO.wide (by omega) (by rw [hS]; omega), hBB⟩
  · have HOK := Lib.hid (show decide (Ok (ss, ws)) = false from decide_eq_false hok)
    have hV : storeV (keepP bs) (ss, ws) = (ss, ws) := if_neg hok
    rw [hV]
    clear hV hok
    have HB := Lib.hid (Below.refl w.heap.size w)
    go_enter Try.func64, Try.ntmps64
    have hb := Joins.below_alloc1 w (.cells #[vs, vp] 26)
    replace HB := Lib.hid (HB.out.trans (hb.mono HB.out.size))
    have BD := Lib.hid (show Dk.Box (w.alloc (.cells #[vs, vp] 26)) (w.heap.size) _ _ 26 from Dk.blk_new w (.cells #[vs, vp] 26))
    clear hb
    obtain ⟨vBD0, vBD1, vBD2, vBD3⟩ := BD.out.four
    clear vBD0 vBD1 vBD2 vBD3
    have hb := Joins.below_alloc1 (w.alloc (.cells #[vs, vp] 26)) (.cells #[.slice none 0 0, .slice none 0 0] 26)
    replace HB := Lib.hid (HB.out.trans (hb.mono HB.out.size))
    replace BD := Lib.hid (BD.out.below hb)
    have BR := Lib.hid (show Dk.Box ((w.alloc (.cells #[vs, vp] 26)).alloc (.cells #[.slice none 0 0, .slice none 0 0] 26)) (w.heap.size + 1) _ _ 26 from by have hk := Dk.blk_new (w.alloc (.cells #[vs, vp] 26)) (.cells #[.slice none 0 0, .slice none 0 0] 26); simp only [World.size_alloc] at hk; exact hk)
    clear hb
    obtain ⟨vBD0, vBD1, vBD2, vBD3⟩ := BD.out.four
    obtain ⟨vBR0, vBR1, vBR2, vBR3⟩ := BR.out.four
    go_wp2_with fail
    refine (IsDisk.impl_any _ vs vp (ss, ws) h1 h2 (H.out.below HB.out)).mono ?_
    rintro e w1 ⟨rfl, hb⟩
    have s1 := hb.size
    simp only [World.size_alloc] at s1
    clear vBD0 vBD1 vBD2 vBD3 vBR0 vBR1 vBR2 vBR3
    replace HB := Lib.hid (HB.out.trans (hb.mono HB.out.size))
    replace BD := Lib.hid (BD.out.below hb)
    replace BR := Lib.hid (BR.out.below hb)
    clear hb
    rw [HOK.out]
    obtain ⟨vBD0, vBD1, vBD2, vBD3⟩ := BD.out.four
    obtain ⟨vBR0, vBR1, vBR2, vBR3⟩ := BR.out.four
    go_wp2_with fail
    refine (Copy.impl_any _ vs vp (ss, ws) h1 h2 (H.out.below HB.out)).mono ?_
    rintro e w2 ⟨_, _, rfl, hown, hb⟩
    have s2 := hb.size
    clear vBD0 vBD1 vBD2 vBD3 vBR0 vBR1 vBR2 vBR3
    obtain ⟨ua, uc, rfl⟩ := Dk.slice_of hown.1.1
    obtain ⟨ub, ud, rfl⟩ := Dk.slice_of hown.2.1
    dsimp only at hown ⊢
    have HO := Lib.hid hown
    clear hown
    replace HB := Lib.hid (HB.out.trans (hb.mono HB.out.size))
    replace BD := Lib.hid (BD.out.below hb)
    replace BR := Lib.hid (BR.out.below hb)
    replace HO := HO
    clear hb
    obtain ⟨vBD0, vBD1, vBD2, vBD3⟩ := BD.out.four
    obtain ⟨vBR0, vBR1, vBR2, vBR3⟩ := BR.out.four
    go_wp2
    clear vBD0 vBD1 vBD2 vBD3 vBR0 vBR1 vBR2 vBR3
    have hI := Dk.Own.into HO.out BD.out
    replace HB := Lib.hid (Dk.below_into (b := w.heap.size) HB.out (by omega) (.slice ua ss.length uc) (.slice ub ws.length ud))
    replace BR := Lib.hid (Dk.Box.other (i := 1) (u := (.slice ub ws.length ud)) (c := w.heap.size) (Dk.Box.other (i := 0) (u := (.slice ua ss.length uc)) (c := w.heap.size) BR.out (by omega)) (by omega))
    replace BD := Lib.hid hI.2.1
    replace HO := Lib.hid hI.1
    have s3 := hI.2.2
    clear hI
    generalize (w2.setCell ⟨w.heap.size, 0, none⟩ (.slice ua ss.length uc)).setCell ⟨w.heap.size, 1, none⟩ (.slice ub ws.length ud) = w3 at HB BD BR HO s3 ⊢
    obtain ⟨vBD0, vBD1, vBD2, vBD3⟩ := BD.out.four
    obtain ⟨vBR0, vBR1, vBR2, vBR3⟩ := BR.out.four
    go_wp2
    obtain ⟨hO, hF, hS⟩ := Dk.Own.into HO.out BR.out
    have hBB := Dk.below_into (b := w.heap.size + 1) HB.out (by omega) (.slice ua ss.length uc) (.slice ub ws.length ud)
    generalize (w3.setCell ⟨w.heap.size + 1, 0, none⟩ (.slice ua ss.length uc)).setCell ⟨w.heap.size + 1, 1, none⟩ (.slice ub ws.length ud) = wf at hO hF hS hBB ⊢
    obtain ⟨c0, c1, _, _⟩ := Dk.Box.four hF
    exact bodyPost_ret (v := .agg #[.slice ua ss.length uc, .slice ub ws.length ud]) (by simp [results, Try.results64, go_sem, c0, c1]) rfl ⟨_, _, rfl, hO.wide (by (try simp only [World.size_alloc]); omega) (by rw [hS]; (try simp only [World.size_alloc]); omega), hBB⟩

end Go.Proofs.Ytgapjdkelkmdgaa.Store
