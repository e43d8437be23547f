/- One append, onto a row of the call's own, of a slice that may be nil: what lies behind it. Conditions: as each theorem types them. -/
import Derived.Test.YtafmpllkehbmeaaGreatDoorDkAt
import Derived.Deep.AppendSrc
namespace Go.Proofs.YtafmpllkehbmeaaGreatDoor.App
open Go.ChangeShapes Go.WideShapes Go.ChangeAt Go.RowKit
open Wr (Wt wcells wcells_length wcells_at d0)
set_option linter.unusedVariables false

/-- What is appended: nothing, off a nil slice; or the cells behind an address. -/
def SrcRow (w : World) (size : Nat) (x : Value) (m : Nat) (news : List Value) : Prop :=
  (m = 0 ∧ news = [] ∧ ∃ c, x = .slice none 0 c) ∨
  ∃ ad c, x = .slice (some ad) m c ∧ news.length = m * size ∧ (∀ j u, news[j]? = some u → w.cell? (ad.add j) = some u) ∧ ∀ u ∈ news, u.oneCell' = true
theorem src_strs {w : World} {v : Value} {xs : List ByteArray} (h : Strs.Holds w v xs) : SrcRow w 1 v xs.length (xs.map Value.string) := by
  obtain ⟨a, cap, rfl, hc⟩ := h
  by_cases h0 : xs = []
  · subst h0
    cases a with
    | none => exact .inl ⟨rfl, rfl, cap, rfl⟩
    | some ad => exact .inr ⟨ad, cap, rfl, rfl, fun j u hj => by simp at hj, fun u hu => by cases hu⟩
  · obtain ⟨b, o, rfl, _, hcell⟩ := hc h0
    refine .inr ⟨⟨b, o, none⟩, cap, rfl, by simp, fun j u hj => ?_, fun u hu => ?_⟩
    · have hjl : j < xs.length := by have := (List.getElem?_eq_some_iff.1 hj).1; simpa using this
      rw [Addr.add_lit, hcell j hjl, ← hj]
      simp [List.getD, List.getElem?_eq_getElem hjl]
    · obtain ⟨x, _, rfl⟩ := List.mem_map.1 hu; rfl
theorem SrcRow.below {w w' : World} {size : Nat} {x : Value} {m : Nat} {news : List Value} (h : SrcRow w size x m news) (hb : ∀ p : Addr, ∀ u, w.cell? p = some u → w'.cell? p = some u) : SrcRow w' size x m news := by
  rcases h with h | ⟨ad, c, rfl, hl, hn, h1⟩
  · exact .inl h
  · exact .inr ⟨ad, c, rfl, hl, fun j u hj => hb _ _ (hn j u hj), h1⟩

theorem run_append_nilsrc {P : Program} (w : World) (base : Nat) (t ty e : TypeId) (i : TypeInfo) (size : Nat) (ht : P.underlying t = some (.slice e)) (hi : P.info? e = some i) (hsize : i.size = size)
    (v : Value) (n : Nat) (xs : List Value) (hown : w.ownsRow base e size v n xs) (c : Nat) :
    (Builtin.append_ #[t, t] ty #[v, .slice none 0 c]).run P w = .ok v w := by
  rcases hown.2 with ⟨rfl, rfl⟩ | ⟨g, cap, cur, rfl, hbg, hg, hnc, hcm, hcs, htake⟩
  · simp [Builtin.append_, run_underlying ht, sizeOf, typeInfo, hi, Builtin.lenOf, Builtin.firstCells, loadCells, loadCellsFrom]
  · have := run_append_room_src (P := P) w t t ty e i ht hi g 0 n cap (.slice none 0 c) 0 [] (Src.ofNil w ht c) (by omega) (fun j hj => by simp at hj) (fun j hj => by simp at hj)
    simpa [World.setCells] using this

theorem wpList_append_src {P : Program} {w : World} {ops : Array Oper} {rest : List Oper} {o : Oper} {a : Act} {Q : Exit → Act → World → Prop} (hgd : o.guard = none) (s x : Operand) (t : TypeId)
    (ho : o.op = .call { callee := .builtin .append, args := #[s, x], argTypes := #[t, t] })
    (base : Nat) (e : TypeId) (i : TypeInfo) (z : Value) (size bytes : Nat) (ht : P.underlying t = some (.slice e)) (hi : P.info? e = some i) (hz : i.zero = some z)
    (hsize : i.size = size) (hby : i.bytes = bytes) (hzs : z.cells.size = size) (hsz : 0 < size)
    (v : Value) (n : Nat) (xs : List Value) (hs : a.eval s = v) (hown : w.ownsRow base e size v n xs)
    (m : Nat) (news : List Value) (hsrc : SrcRow w size (a.eval x) m news)
    (h63 : n + m ≤ maxLen) (hbytes : (n + m) * bytes ≤ 140737488355328) (hbase : base ≤ w.heap.size)
    (h : ∀ a' c' w', w'.ownsRow base e size (.slice a' (n + m) c') (n + m) (xs ++ news) → w.grownBy w' v.ownBlock → wpList P ops Q rest (a.put o.dst (.slice a' (n + m) c')) w') : wpList P ops Q (o :: rest) a w := by
  rcases hsrc with ⟨rfl, rfl, c, hx⟩ | ⟨ad, c, hx, hl, hnews, h1⟩
  · refine wpList_plain hgd fun K hK => ?_
    have hr := run_append_nilsrc (P := P) w base t o.type e i size ht hi hsize v n xs hown c
    obtain ⟨a', c', rfl⟩ := Dk.slice_of hown
    unfold Oper.wp execOp
    simp only [ho, resolve, invoke, builtin, Sem.run_bind, Sem.run_pure, Result.andThen_ok, List.map_toArray, List.map_cons, List.map_nil, hs, hx, hr]
    refine hK _ _ ?_
    have hh := h a' c' w (by simpa using hown) (World.grownBy.refl _ _)
    simpa using hh
  · refine wpList_append_own w hgd s x t ho base e i z size bytes ht hi hz hsize hby hzs hsz v n xs hs hown ad m c news hx hl hnews h1 h63 hbytes hbase fun v' w' h2 h3 h4 => ?_
    obtain ⟨a', c', rfl⟩ := Dk.slice_of h2
    exact h a' c' w' h2 h3
end Go.Proofs.YtafmpllkehbmeaaGreatDoor.App
