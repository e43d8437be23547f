/- Plain facts of disks: what a flush and a crash leave, what is read behind them; a copy of a string's head into a row of bytes. Conditions: as each theorem types them. -/
import Derived.Test.YtbfbcfnnajaeeaaReadSpec
import Derived.Test.YtbfbcfnnajaeeaaStore
import Derived.Test.YtbfbcfnnajaeeaaWrite
import Derived.Test.YtbfbcfnnajaeeaaRowG
import Derived.Lib.BufferWrite
namespace Go.Proofs.Ytbfbcfnnajaeeaa.DiskF
open Go.ChangeShapes Go.WideShapes Go.ChangeAt Go.RowKit
open Wr (Wt wcells d0)
open Dk (D Holds Ok Own RowIn Box Turned Fits)
open ReadS (lastTo readV Has readF)
open Store (storeF storeV keepP allP stored_len)
open WriteS (writeF)
open RowG
set_option linter.unusedVariables false

theorem stored_size (ss : List ByteArray) (ws : List Wt) (p : Nat → Bool) (h : ∀ y ∈ ss, y.size = 32) : ∀ k, k ≤ ws.length → (∀ y ∈ ws, y.2.size = 32) → ∀ y ∈ Store.stored ss ws p k, y.size = 32
  | 0, _, _ => h
  | k + 1, hk, hw => by
    rw [Store.stored]
    split
    · intro y hy
      rcases List.mem_or_eq_of_mem_set hy with h' | h'
      · exact stored_size ss ws p h k (by omega) hw y h'
      · rw [h', List.getD_eq_getElem?_getD, List.getElem?_eq_getElem (by omega)]
        exact hw _ (List.getElem_mem _)
    · exact stored_size ss ws p h k (by omega) hw
theorem stored_none (ss : List ByteArray) (ws : List Wt) : ∀ k, Store.stored ss ws (keepP []) k = ss
  | 0 => rfl
  | k + 1 => by
    rw [Store.stored, if_neg (by simp [keepP])]
    exact stored_none ss ws k
theorem stored_every (ss : List ByteArray) (ws : List Wt) (n : Nat) : ∀ k, k ≤ n → Store.stored ss ws (keepP (List.replicate n true)) k = Store.stored ss ws allP k
  | 0, _ => rfl
  | k + 1, hk => by
    have h1 : keepP (List.replicate n true) k = true := by
      unfold keepP
      rw [List.length_replicate, decide_eq_true (by omega), Bool.true_and, List.getD_eq_getElem?_getD, List.getElem?_replicate, if_pos (by omega)]
      rfl
    rw [Store.stored, if_pos h1, Store.stored, if_pos (show allP k = true from rfl), stored_every ss ws n k (by omega)]
theorem stored_reads (ss : List ByteArray) (ws : List Wt) (i : Nat) (hi : i < ss.length) : ∀ k, k ≤ ws.length → (∀ y ∈ ws, 0 ≤ y.1) → (Store.stored ss ws allP k).getD i ⟨#[]⟩ = (lastTo ws i k).getD (ss.getD i ⟨#[]⟩)
  | 0, _, _ => rfl
  | k + 1, hk, hw => by
    have ih := stored_reads ss ws i hi k (by omega) hw
    have h0 : 0 ≤ (ws.getD k d0).1 := by
      rw [List.getD_eq_getElem?_getD, List.getElem?_eq_getElem (by omega)]
      exact hw _ (List.getElem_mem _)
    rw [Store.stored, if_pos (show allP k = true from rfl), lastTo]
    generalize ws.getD k d0 = y at h0 ⊢
    by_cases he : y.1 = i
    · rw [if_pos he, he, Int.toNat_natCast, List.getD_eq_getElem?_getD, List.getElem?_set_self (by rw [stored_len]; exact hi)]
      rfl
    · rw [if_neg he, ← ih, List.getD_eq_getElem?_getD, List.getElem?_set_ne (by omega), List.getD_eq_getElem?_getD]
theorem ok_sizes {d : D} (h : Ok d) : (∀ y ∈ d.1, y.size = 32) ∧ ∀ y ∈ d.2, Fits d.1.length y := by
  refine ⟨fun y hy => ?_, fun y hy => ?_⟩
  · obtain ⟨j, hj, rfl⟩ := List.getElem_of_mem hy
    have := h.2.1 j hj
    rwa [List.getD_eq_getElem?_getD, List.getElem?_eq_getElem hj] at this
  · obtain ⟨j, hj, rfl⟩ := List.getElem_of_mem hy
    have := h.2.2 j hj
    rwa [List.getD_eq_getElem?_getD, List.getElem?_eq_getElem hj] at this
theorem ok_of {d : D} (h1 : d.1.length ≤ 400) (h2 : d.2.length ≤ 400) (h3 : ∀ y ∈ d.1, y.size = 32) (h4 : ∀ y ∈ d.2, Fits d.1.length y) : Ok d :=
  ⟨⟨h1, h2⟩, fun j hj => by rw [List.getD_eq_getElem?_getD, List.getElem?_eq_getElem hj]; exact h3 _ (List.getElem_mem _), fun j hj => by rw [List.getD_eq_getElem?_getD, List.getElem?_eq_getElem hj]; exact h4 _ (List.getElem_mem _)⟩

/-- All that the law leans on, of a drawn disk, a string of a sector's size. -/
structure Facts (d x f c : D) (data : ByteArray) : Prop where
  write : writeF d 0 data = (x, true)
  okd : decide (Ok d) = true
  flush : storeV allP x = f
  crash : storeV (keepP []) x = c
  every : storeV (keepP (List.replicate x.2.length true)) x = f
  lx1 : x.1.length = d.1.length
  lx2 : x.2.length = d.2.length + 1
  lf1 : f.1.length = d.1.length
  lf2 : f.2.length = 0
  lc1 : c.1.length = d.1.length
  lc2 : c.2.length = 0
  same : ∀ i : Nat, i < d.1.length → readF f i = readF x i
  gone : ∀ i : Nat, i < d.1.length → readF c i = d.1.getD i ⟨#[]⟩
  last : readF x 0 = data

theorem facts (d : D) (data : ByteArray) (hok : Ok d) (h1 : 1 ≤ d.1.length) (h2 : d.2.length ≤ 3) (h32 : data.size = 32) : ∃ x f c, Facts d x f c data := by
  obtain ⟨hz, hf⟩ := ok_sizes hok
  have hL := hok.1.1
  have hx : Ok (d.1, d.2 ++ [((0 : Int), data)]) := ok_of hL (by simp; omega) hz (fun y hy => by
    rcases List.mem_append.1 hy with h | h
    · exact hf y h
    · simp at h; subst h; exact ⟨⟨Int.le_refl _, by dsimp only; omega⟩, h32⟩)
  have hz2 : ∀ y ∈ d.2 ++ [((0 : Int), data)], y.2.size = 32 := fun y hy => ((ok_sizes hx).2 y hy).2
  have h02 : ∀ y ∈ d.2 ++ [((0 : Int), data)], 0 ≤ y.1 := fun y hy => ((ok_sizes hx).2 y hy).1.1
  have hfk : Ok (Store.stored d.1 (d.2 ++ [((0 : Int), data)]) allP (d.2 ++ [((0 : Int), data)]).length, []) := ok_of (by dsimp only; rw [stored_len]; exact hL) (by simp) (stored_size _ _ _ hz _ (Nat.le_refl _) hz2) (by simp)
  have hck : Ok (d.1, []) := ok_of hL (by simp) hz (by simp)
  refine ⟨(d.1, d.2 ++ [((0 : Int), data)]), (Store.stored d.1 (d.2 ++ [((0 : Int), data)]) allP (d.2 ++ [((0 : Int), data)]).length, []), (d.1, []), ?_, decide_eq_true hok, ?_, ?_, ?_, rfl, by simp, by dsimp only; rw [stored_len], rfl, rfl, rfl, ?_, ?_, ?_⟩
  · exact if_pos ⟨hok, ⟨Int.le_refl _, by omega⟩, h32, by omega⟩
  · rw [storeV, if_pos hx]; rfl
  · rw [storeV, if_pos hx, storeF, stored_none]
  · rw [storeV, if_pos hx, storeF]
    dsimp only
    rw [stored_every _ _ _ _ (Nat.le_refl _)]
  · intro i hi
    rw [readF, if_pos ⟨hfk, by omega, by dsimp only; rw [stored_len]; omega⟩, readF, if_pos ⟨hx, by omega, by dsimp only; omega⟩, readV, readV]
    dsimp only [List.length_nil]
    rw [lastTo, Int.toNat_natCast, Option.getD_none, stored_reads _ _ i hi _ (Nat.le_refl _) h02]
  · intro i hi
    rw [readF, if_pos ⟨hck, by omega, by dsimp only; omega⟩, readV]
    dsimp only [List.length_nil]
    rw [lastTo, Int.toNat_natCast, Option.getD_none]
  · rw [readF, if_pos ⟨hx, Int.le_refl _, by dsimp only; omega⟩, readV]
    dsimp only
    rw [List.length_append, List.length_singleton, lastTo]
    have e : (d.2 ++ [((0 : Int), data)]).getD d.2.length d0 = ((0 : Int), data) := by
      rw [List.getD_eq_getElem?_getD, List.getElem?_append_right (Nat.le_refl _), Nat.sub_self]; rfl
    rw [e, if_pos rfl]
    rfl

theorem bytes_eq (s : ByteArray) : Lib.byteCells s.data.toList = cellsB s.data.toList := rfl
/-- copy of a string into a row of bytes that it fills or not: the row still holds as many bytes. -/
theorem run_copy_head {P : Program} (w : World) (dT sT ty e : TypeId) (g n : Nat) (s : ByteArray) (l : List UInt8) (base : Nat)
    (hu : P.underlying dT = some (.slice e)) (hs : (P.info? e).map (·.size) = some 1) (h : w.ownsRow base e 1 (.slice (some ⟨g, 0, none⟩) n n) n (cellsB l)) :
    ∃ (l' : List UInt8) (v : Value) (w' : World), (Builtin.copy_ #[dT, sT] ty #[.slice (some ⟨g, 0, none⟩) n n, .string s]).run P w = .ok v w' ∧ l'.length = n ∧ w'.ownsRow base e 1 (.slice (some ⟨g, 0, none⟩) n n) n (cellsB l') ∧ w.grownBy w' (some g) := by
  have hln : (cellsB l).length = n := by have := h.1; omega
  rcases h.2 with ⟨hv, _⟩ | ⟨g', cap, cur, hv, hb, hg, hc1, hc2, hc3, htk⟩
  · cases hv
  cases hv
  have hcur : cur.toList = cellsB l := by
    rw [← htk, List.take_of_length_le (by simp; omega)]
  obtain ⟨m, hm⟩ : ∃ m, m = Nat.min s.size n := ⟨_, rfl⟩
  have hmn : m ≤ n := by rw [hm]; exact Nat.min_le_right _ _
  have hms : m ≤ s.data.toList.length := by rw [hm]; have := Nat.min_le_left s.size n; rw [← Lib.size_eq]; exact this
  have hk : ((cellsB s.data.toList).take m).length = m := by rw [List.length_take, cellsB_length]; omega
  have hst := run_storeCells_at P g 0 e ((cellsB s.data.toList).take m) 0 cur w hg (by rw [hk]; omega) (fun v hv => Lib.byteCells_one s.data.toList v (List.mem_of_mem_take hv))
  simp only [Nat.zero_add, List.take_zero, List.nil_append, hk] at hst
  refine ⟨s.data.toList.take m ++ l.drop m, goInt m, w.setRow g ((cellsB s.data.toList).take m ++ cur.toList.drop m).toArray, ?_, ?_, ?_, ?_⟩
  · cases hq : P.info? e with
    | none => simp [hq] at hs
    | some i =>
      simp [Builtin.copy_, run_underlying hu, Builtin.lenOf, Builtin.firstCells, sizeOf, typeInfo, hq, ← hm]
      have e1 : List.map (fun b : UInt8 => Value.int IntKind.u8 (b.toNat : Int)) s.data.toList = cellsB s.data.toList := rfl
      first
        | rw [e1, hst]; simp [Result.andThen]
        | (rw [List.map_take, e1, hst]; simp [Result.andThen])
  · rw [List.length_append, List.length_take, List.length_drop]
    rw [cellsB_length] at hln
    omega
  · rw [cellsB_append]
    have e2 : cellsB (s.data.toList.take m) = (cellsB s.data.toList).take m := by simp [cellsB]
    have e3 : cellsB (l.drop m) = cur.toList.drop m := by rw [hcur]; simp [cellsB]
    rw [e2, e3]
    refine ⟨by rw [List.length_append, hk, List.length_drop, hcur, hln]; omega, .inr ⟨g, n, _, rfl, hb, setRow_heap w g cur _ e _ hg, Nat.le_refl _, hc2, ?_, ?_⟩⟩
    · simp only [List.size_toArray, List.length_append, hk, List.length_drop, hcur, hln]; omega
    · rw [List.take_of_length_le]
      simp only [List.length_append, hk, List.length_drop, hcur, hln]; omega
  · exact ⟨rfl, rfl, rfl, by simp [World.setRow], fun k hk hne => setRow_other w g k _ (fun e => hne (by rw [e]))⟩
end Go.Proofs.Ytbfbcfnnajaeeaa.DiskF
