/- Contracts: the library's Clone of a slice of ints, of AclEntries, of Inodes (whose own slices it shares); the program's copyInode; appending such slices to an empty one. Conditions: the lengths. -/
import Derived.Test.YtafmpllkehbmeaaGreatDoorFsM
import Derived.Test.YtafmpllkehbmeaaGreatDoorApp
namespace Go.Proofs.YtafmpllkehbmeaaGreatDoor.ClN
open Go.ChangeShapes Go.WideShapes Go.ChangeAt Go.RowKit
open Foot Bx
open InoV (I)
open App (SrcRow wpList_append_src)
set_option linter.unusedVariables false

theorem src_ni {w : World} {v : Value} {l : List Int} (h : NiF.Holds w v l) : SrcRow w 1 v l.length (NiF.cells l) := by
  obtain ⟨a, cap, rfl, hle, hc⟩ := h
  by_cases h0 : l = []
  · subst h0
    cases a with
    | none => exact .inl ⟨rfl, rfl, cap, rfl⟩
    | some ad => exact .inr ⟨ad, cap, rfl, rfl, fun j u hj => by simp [NiF.cells] at hj, fun u hu => by simp [NiF.cells] at hu⟩
  · obtain ⟨b, o, rfl, _, _⟩ := hc 0 (by cases l with | nil => exact absurd rfl h0 | cons _ _ => simp)
    refine .inr ⟨⟨b, o, none⟩, cap, rfl, by simp [NiF.cells], fun j u hj => ?_, fun u hu => ?_⟩
    · have hjl : j < l.length := by have := (List.getElem?_eq_some_iff.1 hj).1; simpa [NiF.cells] using this
      obtain ⟨b', o', e, _, hcell⟩ := hc j hjl
      simp only [Option.some.injEq, Addr.mk.injEq, and_true] at e
      obtain ⟨rfl, rfl⟩ := e
      rw [Addr.add_lit, hcell, ← hj]
      simp [NiF.cells, List.getD, List.getElem?_eq_getElem hjl]
    · obtain ⟨x, _, rfl⟩ := List.mem_map.1 hu; rfl
theorem src_ae {w : World} {v : Value} {ws : List AclV.At} (h : Ae.Holds w v ws) : SrcRow w 3 v ws.length (Ae.cells ws) := by
  obtain ⟨a, cap, rfl, hc⟩ := h
  by_cases h0 : ws = []
  · subst h0
    cases a with
    | none => exact .inl ⟨rfl, rfl, cap, rfl⟩
    | some ad => exact .inr ⟨ad, cap, rfl, rfl, fun j u hj => by simp [Ae.cells] at hj, fun u hu => by simp [Ae.cells] at hu⟩
  · obtain ⟨b, o, rfl, _, hcell⟩ := hc h0
    refine .inr ⟨⟨b, o, none⟩, cap, rfl, Ae.cells_length ws, fun j u hj => ?_, fun u hu => ?_⟩
    · have hjl : j < ws.length * 3 := by have := (List.getElem?_eq_some_iff.1 hj).1; rwa [Ae.cells_length] at this
      obtain ⟨q0, q1, q2⟩ := Ae.cells_at ws (j / 3) (by omega)
      obtain ⟨c0, c1, c2⟩ := hcell (j / 3) (by omega)
      rw [Addr.add_lit, ← hj]
      have hm : j % 3 = 0 ∨ j % 3 = 1 ∨ j % 3 = 2 := by omega
      rcases hm with hm | hm | hm
      · have e : j / 3 * 3 = j := by omega
        rw [e] at q0 c0
        rw [q0, c0]
      · have e : j / 3 * 3 + 1 = j := by omega
        rw [e] at q1
        rw [show o + j / 3 * 3 + 1 = o + j from by omega] at c1
        rw [q1, c1]
      · have e : j / 3 * 3 + 2 = j := by omega
        rw [e] at q2
        rw [show o + j / 3 * 3 + 2 = o + j from by omega] at c2
        rw [q2, c2]
    · obtain ⟨x, _, hx⟩ := List.mem_flatMap.1 hu
      simp [Ae.cell1] at hx
      rcases hx with rfl | rfl | rfl <;> rfl
/-- Inodes that are there: their values. -/
theorem src_is {w : World} {v : Value} {l : List I} (h : IF.Holds w v l) : ∃ es : List IF.El, IF.ns es = l ∧ SrcRow w 10 v l.length (IF.cells es) ∧ ∀ e ∈ es, In.Holds w e.2.1 e.1 := by
  obtain ⟨a, cap, rfl, hle, hat⟩ := h
  have hval : ∀ i, i < l.length → ∃ y : Value, In.Holds w y (l.getD i IF.z0) ∧ ∃ b o, a = some ⟨b, o, none⟩ ∧ ∀ j, j < 10 → w.cell? ⟨b, o + i * 10 + j, none⟩ = (IF.vcells y)[j]? := fun i hi => by
    obtain ⟨b, o, rfl, _, r0, r1, r2, hC, hP⟩ := hat i hi
    obtain ⟨c0, c1, c2, c3, c4, c5, c6, c7, c8, c9⟩ := hC
    refine ⟨_, IF.parts_holds hP, b, o, rfl, fun j hj => ?_⟩
    match j, hj with
    | 0, _ => exact c0
    | 1, _ => exact c1
    | 2, _ => exact c2
    | 3, _ => exact c3
    | 4, _ => exact c4
    | 5, _ => exact c5
    | 6, _ => exact c6
    | 7, _ => exact c7
    | 8, _ => exact c8
    | 9, _ => exact c9
  have hes : ∀ k, k ≤ l.length → ∃ es : List IF.El, es.length = k ∧ IF.ns es = l.take k ∧ (∀ e ∈ es, In.Holds w e.2.1 e.1) ∧ ∀ i (hi : i < es.length), ∃ b o, a = some ⟨b, o, none⟩ ∧ ∀ j, j < 10 → w.cell? ⟨b, o + i * 10 + j, none⟩ = (IF.vcells es[i].2.1)[j]? := by
    intro k
    induction k with
    | zero => intro _; exact ⟨[], rfl, by simp [IF.ns], (fun e he => by cases he), (fun i hi => by simp at hi)⟩
    | succ k ih =>
      intro hk
      obtain ⟨es, h1, h2, h3, h4⟩ := ih (by omega)
      obtain ⟨y, y1, y2⟩ := hval k (by omega)
      refine ⟨es ++ [(l.getD k IF.z0, y, [])], by simp [h1], ?_, fun e he => ?_, fun i hi => ?_⟩
      · rw [FsV.take_snoc l IF.z0 k (by omega), ← h2]; simp [IF.ns]
      · rcases List.mem_append.1 he with he | he
        · exact h3 e he
        · rw [List.mem_singleton] at he
          subst he; exact y1
      · by_cases hik : i < es.length
        · simp only [List.getElem_append_left hik]
          exact h4 i hik
        · have : i = k := by simp at hi; omega
          subst this
          obtain ⟨b, o, e, hj⟩ := y2
          refine ⟨b, o, e, fun j hj' => ?_⟩
          rw [hj j hj']
          simp [List.getElem_append_right (show es.length ≤ i by omega), h1]
  obtain ⟨es, h1, h2, h3, h4⟩ := hes l.length (Nat.le_refl _)
  rw [List.take_length] at h2
  have hv10 : ∀ e ∈ es, (IF.vcells e.2.1).length = 10 := fun e he => by
    obtain ⟨r0, r1, r2, hv, _⟩ := h3 e he
    rw [hv]; rfl
  refine ⟨es, h2, ?_, h3⟩
  by_cases h0 : l = []
  · subst h0
    have : es = [] := List.eq_nil_of_length_eq_zero (by simpa using h1)
    subst this
    cases a with
    | none => exact .inl ⟨rfl, rfl, cap, rfl⟩
    | some ad => exact .inr ⟨ad, cap, rfl, rfl, fun j u hj => by simp [IF.cells] at hj, fun u hu => by simp [IF.cells] at hu⟩
  · have hpos : 0 < l.length := by cases l with | nil => exact absurd rfl h0 | cons _ _ => simp
    obtain ⟨b, o, rfl, _⟩ := h4 0 (by omega)
    have hlen : (IF.cells es).length = es.length * 10 := IF.flat_len _ 10 es hv10
    refine .inr ⟨⟨b, o, none⟩, cap, rfl, by rw [hlen, h1], fun j u hj => ?_, fun u hu => ?_⟩
    · have hjl : j < es.length * 10 := by have := (List.getElem?_eq_some_iff.1 hj).1; omega
      obtain ⟨b', o', e, hcell⟩ := h4 (j / 10) (by omega)
      simp only [Option.some.injEq, Addr.mk.injEq, and_true] at e
      obtain ⟨rfl, rfl⟩ := e
      have := IF.flat_at (fun e : IF.El => IF.vcells e.2.1) 10 es hv10 (j / 10) (by omega) (j % 10) (by omega)
      rw [Addr.add_lit, ← hj, show o + j = o + j / 10 * 10 + j % 10 from by omega, hcell _ (by omega), ← this]
      show (IF.cells es)[j / 10 * 10 + j % 10]? = _
      rw [show j / 10 * 10 + j % 10 = j from by omega]
    · obtain ⟨e, he, hx⟩ := List.mem_flatMap.1 hu
      obtain ⟨r0, r1, r2, hv, g0, g1, g2⟩ := h3 e he
      obtain ⟨a0, d0, rfl⟩ := NiF.form g0
      obtain ⟨a1, d1, rfl⟩ := AeF.form g1
      obtain ⟨a2, d2, rfl⟩ := AeF.form g2
      rw [hv] at hx
      simp [IF.vcells] at hx
      rcases hx with rfl | rfl | rfl | rfl | rfl | rfl | rfl | rfl | rfl | rfl <;> rfl

theorem src_below {w w' : World} {size : Nat} {x : Value} {m : Nat} {news : List Value} (h : SrcRow w size x m news) (hb : Below w.heap.size w w') : SrcRow w' size x m news :=
  h.below fun p u hp => by
    have hlt : p.block < w.heap.size := by
      rcases Nat.lt_or_ge p.block w.heap.size with h' | h'
      · exact h'
      · simp [World.cell?, Array.getElem?_eq_none h'] at hp
    rw [hb.cell hlt]; exact hp
set_option maxRecDepth 100000 in
set_option maxHeartbeats 400000 in
theorem cloneN_any (w : World) (v : Value) (xs : List Int) (hlen : xs.length ≤ 1073741824) (h : NiF.Holds w v xs) :
    Calls Tryz.prog 144 #[v] w fun e w' => ∃ v', e = .returned v' ∧ w'.ownsRow w.heap.size 3 1 v' xs.length (NiF.cells xs) ∧ Below w.heap.size w w' := by
  obtain ⟨i0, hi, hz0, hz1, hz2⟩ := info_parts Ni.intInfo
  have q0 : ∀ (w : World) (a : Option Addr) (n c n' c' : Nat), (binOp .eql 31 (.slice a n c) (.slice none n' c')).run Tryz.prog w = .ok (.bool a.isNone) w := fun w a n c n' c' => Lib.run_eql_slice_nil w _ _ a n c n' c' Tryz.underlying31
  have hsrc := src_ni h
  obtain ⟨a, cap, rfl, hc⟩ := h
  clear hc
  cases a with
  | none =>
    have hx : xs = [] := by
      rcases hsrc with ⟨h0, _⟩ | ⟨ad, c, h0, _⟩
      · exact List.eq_nil_of_length_eq_zero h0
      · cases h0
    subst hx
    go_enter Tryz.func144, Tryz.ntmps144
    go_wp2
    go_ret
    exact ⟨_, rfl, World.ownsRow_nil _ _ _ _, Below.refl _ _⟩
  | some ad =>
    have HS := Lib.hid hsrc
    clear hsrc
    obtain ⟨L, hL⟩ : ∃ L, L = xs.length := ⟨_, rfl⟩
    rw [← hL] at HS ⊢
    have HL := Lib.hid hL
    rw [← hL] at hlen
    clear hL
    go_enter Tryz.func144, Tryz.ntmps144
    go_wp2_with (at_builtin; refine wpList_append_src rfl _ _ 31 rfl w.heap.size 3 i0 (.int .i64 0) 1 8 Tryz.underlying31 hi hz0 hz1 hz2 rfl (by decide) _ 0 [] rfl (World.ownsRow_made w #[] 0 (Nat.le_refl _) (Nat.zero_le _) rfl) L (NiF.cells xs) ?c1 ?c2 ?c3 ?c4 ?_)
    case c1 => exact HS.out.below (fun p u hp => by rw [World.cell?_alloc_some _ _ _ (by rw [hp]; rfl)]; exact hp)
    case c2 => unfold maxLen; omega
    case c3 => omega
    case c4 => simp
    intro a' c' w1 hown1 hg1
    have HO := Lib.hid hown1
    have HB := Lib.hid (show Below w.heap.size w w1 from ((Below.refl w.heap.size w).alloc (Nat.le_refl _) _).grown hg1 (by simp) (fun k hk => by simp [Value.ownBlock] at hk; omega))
    clear hown1 hg1
    go_wp2
    go_ret
    refine ⟨_, rfl, ?_, HB.out⟩
    have := HO.out
    simpa using this

set_option maxRecDepth 100000 in
set_option maxHeartbeats 400000 in
theorem cloneA_any (w : World) (v : Value) (xs : List AclV.At) (hlen : xs.length ≤ 1073741824) (h : AeF.Holds w v xs) :
    Calls Tryz.prog 145 #[v] w fun e w' => ∃ v', e = .returned v' ∧ AeF.Own w' w.heap.size v' xs (fpR v') ∧ Below w.heap.size w w' := by
  obtain ⟨i0, hi, hz0, hz1, hz2⟩ := info_parts Ae.info
  have q0 : ∀ (w : World) (a : Option Addr) (n c n' c' : Nat), (binOp .eql 32 (.slice a n c) (.slice none n' c')).run Tryz.prog w = .ok (.bool a.isNone) w := fun w a n c n' c' => Lib.run_eql_slice_nil w _ _ a n c n' c' Tryz.underlying32
  have hsrc := src_ae h
  obtain ⟨a, cap, rfl, hc⟩ := h
  clear hc
  cases a with
  | none =>
    have hx : xs = [] := by
      rcases hsrc with ⟨h0, _⟩ | ⟨ad, c, h0, _⟩
      · exact List.eq_nil_of_length_eq_zero h0
      · cases h0
    subst hx
    go_enter Tryz.func145, Tryz.ntmps145
    go_wp2
    go_ret
    exact ⟨_, rfl, ⟨World.ownsRow_nil _ _ _ _, rfl⟩, Below.refl _ _⟩
  | some ad =>
    have HS := Lib.hid hsrc
    clear hsrc
    obtain ⟨L, hL⟩ : ∃ L, L = xs.length := ⟨_, rfl⟩
    rw [← hL] at HS ⊢
    have HL := Lib.hid hL
    rw [← hL] at hlen
    clear hL
    go_enter Tryz.func145, Tryz.ntmps145
    go_wp2_with (at_builtin; refine wpList_append_src rfl _ _ 32 rfl w.heap.size 137 i0 (.agg #[.int .i64 0, .int .i64 0, .int .i64 0]) 3 24 Tryz.underlying32 hi hz0 hz1 hz2 rfl (by decide) _ 0 [] rfl (World.ownsRow_made w #[] 0 (Nat.le_refl _) (Nat.zero_le _) rfl) L (Ae.cells xs) ?c1 ?c2 ?c3 ?c4 ?_)
    case c1 => exact HS.out.below (fun p u hp => by rw [World.cell?_alloc_some _ _ _ (by rw [hp]; rfl)]; exact hp)
    case c2 => unfold maxLen; omega
    case c3 => omega
    case c4 => simp
    intro a' c' w1 hown1 hg1
    have HO := Lib.hid hown1
    have HB := Lib.hid (show Below w.heap.size w w1 from ((Below.refl w.heap.size w).alloc (Nat.le_refl _) _).grown hg1 (by simp) (fun k hk => by simp [Value.ownBlock] at hk; omega))
    clear hown1 hg1
    go_wp2
    go_ret
    refine ⟨_, rfl, ⟨?_, rfl⟩, HB.out⟩
    rw [← HL.out]
    have := HO.out
    simpa using this

set_option maxRecDepth 100000 in
set_option maxHeartbeats 400000 in
theorem cloneS_any (w : World) (v : Value) (xs : List ByteArray) (hlen : xs.length ≤ 1073741824) (h : Strs.Holds w v xs) :
    Calls Tryz.prog 127 #[v] w fun e w' => ∃ v', e = .returned v' ∧ w'.ownsRow w.heap.size 9 1 v' xs.length (xs.map Value.string) ∧ Below w.heap.size w w' := by
  obtain ⟨i0, hi, hz0, hz1, hz2⟩ := info_parts Strs.strInfo
  have q0 : ∀ (w : World) (a : Option Addr) (n c n' c' : Nat), (binOp .eql 25 (.slice a n c) (.slice none n' c')).run Tryz.prog w = .ok (.bool a.isNone) w := fun w a n c n' c' => Lib.run_eql_slice_nil w _ _ a n c n' c' Tryz.underlying25
  have hsrc := App.src_strs h
  obtain ⟨a, cap, rfl, hc⟩ := h
  clear hc
  cases a with
  | none =>
    have hx : xs = [] := by
      rcases hsrc with ⟨h0, _⟩ | ⟨ad, c, h0, _⟩
      · exact List.eq_nil_of_length_eq_zero h0
      · cases h0
    subst hx
    go_enter Tryz.func127, Tryz.ntmps127
    go_wp2
    go_ret
    exact ⟨_, rfl, World.ownsRow_nil _ _ _ _, Below.refl _ _⟩
  | some ad =>
    have HS := Lib.hid hsrc
    clear hsrc
    generalize xs.length = L at hlen HS ⊢
    go_enter Tryz.func127, Tryz.ntmps127
    go_wp2_with (at_builtin; refine wpList_append_src rfl _ _ 25 rfl w.heap.size 9 i0 (.string ⟨#[]⟩) 1 16 Tryz.underlying25 hi hz0 hz1 hz2 rfl (by decide) _ 0 [] rfl (World.ownsRow_made w #[] 0 (Nat.le_refl _) (Nat.zero_le _) rfl) L (xs.map Value.string) ?c1 ?c2 ?c3 ?c4 ?_)
    case c1 => exact HS.out.below (fun p u hp => by rw [World.cell?_alloc_some _ _ _ (by rw [hp]; rfl)]; exact hp)
    case c2 => unfold maxLen; omega
    case c3 => omega
    case c4 => simp
    intro a' c' w1 hown1 hg1
    have HO := Lib.hid hown1
    have HB := Lib.hid (show Below w.heap.size w w1 from ((Below.refl w.heap.size w).alloc (Nat.le_refl _) _).grown hg1 (by simp) (fun k hk => by simp [Value.ownBlock] at hk; omega))
    clear hown1 hg1
    go_wp2
    go_ret
    refine ⟨_, rfl, ?_, HB.out⟩
    have := HO.out
    simpa using this

set_option maxRecDepth 100000 in
set_option maxHeartbeats 400000 in
theorem cloneI_any (w : World) (v : Value) (es : List IF.El) (L : Nat) (hlen : L ≤ 1073741824) (h : SrcRow w 10 v L (IF.cells es)) :
    Calls Tryz.prog 126 #[v] w fun e w' => ∃ v' : Value, e = .returned v' ∧ w'.ownsRow w.heap.size 34 10 v' L (IF.cells es) ∧ Below w.heap.size w w' := by
  obtain ⟨i0, hi, hz0, hz1, hz2⟩ := info_parts IF.info
  have q0 : ∀ (w : World) (a : Option Addr) (n c n' c' : Nat), (binOp .eql 24 (.slice a n c) (.slice none n' c')).run Tryz.prog w = .ok (.bool a.isNone) w := fun w a n c n' c' => Lib.run_eql_slice_nil w _ _ a n c n' c' Tryz.underlying24
  rcases id h with ⟨rfl, he, c, rfl⟩ | ⟨ad, c, rfl, _⟩
  · have HE := Lib.hid he
    clear h he
    go_enter Tryz.func126, Tryz.ntmps126
    go_wp2
    go_ret
    exact ⟨_, rfl, by rw [HE.out]; exact World.ownsRow_nil _ _ _ _, Below.refl _ _⟩
  · have HS := Lib.hid h
    clear h
    go_enter Tryz.func126, Tryz.ntmps126
    go_wp2_with (at_builtin; refine wpList_append_src rfl _ _ 24 rfl w.heap.size 34 i0 (.agg #[.int .i64 0, .int .i64 0, .int .i64 0, .int .i64 0, .int .i64 0, .int .i64 0, .int .i64 0, .slice none 0 0, .slice none 0 0, .slice none 0 0]) 10 128 Tryz.underlying24 hi hz0 hz1 hz2 rfl (by decide) _ 0 [] rfl (World.ownsRow_made w #[] 0 (Nat.le_refl _) (Nat.zero_le _) rfl) L (IF.cells es) ?c1 ?c2 ?c3 ?c4 ?_)
    case c1 => exact HS.out.below (fun p u hp => by rw [World.cell?_alloc_some _ _ _ (by rw [hp]; rfl)]; exact hp)
    case c2 => unfold maxLen; omega
    case c3 => omega
    case c4 => simp
    intro a' c' w1 hown1 hg1
    have HO := Lib.hid hown1
    have HB := Lib.hid (show Below w.heap.size w w1 from ((Below.refl w.heap.size w).alloc (Nat.le_refl _) _).grown hg1 (by simp) (fun k hk => by simp [Value.ownBlock] at hk; omega))
    clear hown1 hg1
    go_wp2
    go_ret
    refine ⟨_, rfl, ?_, HB.out⟩
    have := HO.out
    simpa using this
end Go.Proofs.YtafmpllkehbmeaaGreatDoor.ClN
