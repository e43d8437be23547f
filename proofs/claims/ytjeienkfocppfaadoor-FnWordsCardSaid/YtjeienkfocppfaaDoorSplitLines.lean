/- Contracts and plain facts that a law of this seat leans on. Conditions: as each theorem types them. -/
import Derived.Test.YtjeienkfocppfaaDoorSplitAnyLaw
namespace Go.Proofs.YtjeienkfocppfaaDoor.SplitLines
open Go.ChangeShapes Go.WideShapes Go.ChangeAt Go.RowKit
open Go.ChangeMaps (open_string shut_string)
open Strs (Holds holds_of_own holds_below marks marks_length own_below)
open SplitAny (parts parts_len own_apart own_of_heap below_drewN)
set_option linter.unusedVariables false

def nl : ByteArray := ⟨#[10]⟩
theorem nl_size : nl.size ≤ 1048576 := by decide
/-- The lines of s: the parts between newlines, the last one only if it is not empty. -/
def lines (s : ByteArray) : List ByteArray := if ((parts s nl).getLastD ⟨#[]⟩).toList.isEmpty = true then (parts s nl).dropLast else parts s nl
theorem lines_len (s : ByteArray) (h : s.size ≤ 1048576) : (lines s).length ≤ s.size + 1 := by
  have := parts_len s nl
  unfold lines
  split
  · simp; omega
  · exact this
theorem parts_pos (s : ByteArray) : ∃ m, (parts s nl).length = m + 1 := ⟨_, by simp [parts]; rfl⟩
theorem last_at (p : List ByteArray) (m : Nat) (h : p.length = m + 1) : (p.map Value.string)[m]? = some (.string (p.getLastD ⟨#[]⟩)) := by
  have hm : m < p.length := by omega
  have hne : p ≠ [] := by intro e; rw [e] at h; simp at h
  rw [List.getElem?_map, List.getElem?_eq_getElem hm]
  simp only [Option.map_some, Option.some.injEq, Value.string.injEq]
  rw [List.getLastD_eq_getLast?, List.getLast?_eq_getElem?, h]
  simp [List.getElem?_eq_getElem hm]
/-- A row that the call owns, cut by its last place. -/
theorem own_less {w : World} {base : Nat} {e : TypeId} {g m cap : Nat} {p : List ByteArray} (h : w.ownsRow base e 1 (.slice (some ⟨g, 0, none⟩) (m + 1) cap) (m + 1) (p.map Value.string)) : w.ownsRow base e 1 (.slice (some ⟨g, 0, none⟩) m cap) p.dropLast.length (p.dropLast.map Value.string) := by
  have hl := h.1
  simp at hl
  have hd : p.dropLast.length = m := by simp; omega
  rw [hd]
  refine ⟨by simp; omega, ?_⟩
  rcases h.2 with ⟨hh, _⟩ | ⟨g', cap', cur, hv, hb, hg, hn, hc, hs, ht⟩
  · cases hh
  · simp only [Value.slice.injEq, Option.some.injEq, Addr.mk.injEq, and_true, true_and] at hv
    obtain ⟨rfl, rfl⟩ := hv
    refine .inr ⟨g, cap, cur, rfl, hb, hg, by omega, hc, hs, ?_⟩
    have : cur.toList.take (m * 1) = (cur.toList.take ((m + 1) * 1)).take m := by rw [List.take_take]; congr 1; omega
    rw [this, ht, List.dropLast_eq_take, ← List.map_take, hl]
    simp
theorem own_form {w : World} {base : Nat} {e : TypeId} {v : Value} {m : Nat} {xs : List Value} (h : w.ownsRow base e 1 v (m + 1) xs) : ∃ g cap, v = .slice (some ⟨g, 0, none⟩) (m + 1) cap ∧ m + 1 ≤ cap ∧ cap ≤ maxLen := by
  rcases h.2 with ⟨_, h0⟩ | ⟨g, cap, cur, rfl, _, _, hn, hc, _⟩
  · omega
  · exact ⟨g, cap, rfl, hn, hc⟩

set_option maxHeartbeats 400000 in
theorem impl_any (s : ByteArray) (w : World) (hs : s.size ≤ 1048576) :
    Calls Tryd.prog 13 #[.string s] w fun e w' => ∃ v, e = .returned v ∧ w'.ownsRow w.heap.size 9 1 v (lines s).length ((lines s).map Value.string) ∧ Below w.heap.size w w' := by
  go_enter Tryd.func13, Tryd.ntmps13
  go_wp2_with fail
  refine (SplitAny.impl_any s nl _ hs nl_size).mono ?_
  rintro e w1 ⟨v, rfl, hown, hb1⟩
  have hpl := parts_len s nl
  obtain ⟨m, hm⟩ := parts_pos s
  rw [hm] at hown hpl
  obtain ⟨g, cap, rfl, hcap, hcm⟩ := own_form hown
  unfold maxLen at hcm
  have hc := hown.cellAt m (by omega)
  rw [last_at _ m hm] at hc
  have HO := Lib.hid hown
  have HB1 := Lib.hid hb1
  have HM := Lib.hid hm
  clear hown hb1 hm
  by_cases hemp : ((parts s nl).getLastD ⟨#[]⟩).toList.isEmpty = true
  · have HL := Lib.hid (show lines s = (parts s nl).dropLast by rw [lines, if_pos hemp])
    generalize (parts s nl).getLastD ⟨#[]⟩ = x at hemp hc
    go_wp2
    go_ret
    exact ⟨_, rfl, by rw [HL.out]; exact own_less HO.out, HB1.out⟩
  · have HL := Lib.hid (show lines s = parts s nl by rw [lines, if_neg hemp])
    have hemp' : ((parts s nl).getLastD ⟨#[]⟩).toList.isEmpty = false := by simpa using hemp
    clear hemp
    generalize (parts s nl).getLastD ⟨#[]⟩ = x at hemp' hc
    go_wp2
    go_ret
    exact ⟨_, rfl, by rw [HL.out, HM.out]; exact HO.out, HB1.out⟩
end Go.Proofs.YtjeienkfocppfaaDoor.SplitLines
