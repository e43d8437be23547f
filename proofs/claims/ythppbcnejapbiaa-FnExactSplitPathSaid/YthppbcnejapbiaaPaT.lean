/- Contract: SplitPath of the model. Conditions: the path's size. -/
import Derived.Test.YthppbcnejapbiaaPaS
namespace Go.Proofs.Ythppbcnejapbiaa.PaT
open Go.ChangeShapes Go.WideShapes Go.ChangeAt Go.RowKit
open Foot
open SplitAny (parts)
open EnN (nameB)
open PaV PaS
set_option linter.unusedVariables false

theorem post_own {w w' : World} {p : ByteArray} {l : List ByteArray} {v : Value} (h : splitV p = (l, true)) (hown : w'.ownsRow w.heap.size 9 1 v l.length (l.map Value.string)) (hb : Below w.heap.size w w') : Post w p (.returned (.tuple #[v, .bool true])) w' := by
  refine ⟨v, fpR v, ?_, ?_, hb⟩
  · rw [h]
  · rw [h]; exact .inl ⟨hown, rfl⟩

set_option maxRecDepth 100000 in
set_option maxHeartbeats 3200000 in
theorem split_spec (p : ByteArray) (w : World) (hs : p.size ≤ 1048576) :
    Calls Try.prog 5 #[.string p] w (Post w p) := by
  cases hr : isRoot p
  · have q0 : (p.toList == [47]) = false := hr
    by_cases h0 : p.size = 0
    · have HV := Lib.hid (split_no hr (by omega))
      have q1 : p.toList.isEmpty = true := by rw [toList_eq, List.isEmpty_iff]; exact List.eq_nil_of_length_eq_zero (by rw [ba_len]; exact h0)
      clear hr h0
      go_enter Try.func5, Try.ntmps5
      go_wp2
      go_ret2
      exact post_no HV.out rfl (Below.refl _ _)
    · have q1 : p.toList.isEmpty = false := by
        rw [toList_eq, Bool.eq_false_iff]
        intro hh
        rw [List.isEmpty_iff] at hh
        exact h0 (by rw [← ba_len, hh]; rfl)
      have hz : 0 < p.size := by omega
      have hg0 : p.data.toList.getD 0 0 = p[0] := SplitAny.byte_at p 0 hz
      have hidx : ∀ W : World, (Instr.index 9 (.string p) (.int .i64 0)).run Try.prog W = .ok (.int .u8 (p[0].toNat : Int)) W := fun W => EnC.idx p 0 hz 0 rfl W
      obtain ⟨c, hc⟩ : ∃ c, c = p[0] := ⟨_, rfl⟩
      rw [← hc] at hg0 hidx
      clear hc
      by_cases h47 : c = 47
      · subst h47
        obtain ⟨r, hre⟩ : ∃ r, r = restB p := ⟨_, rfl⟩
        have hrs : r.size ≤ 1048576 := by rw [hre, rest_size]; omega
        have hi1 : (1 : Int) ≤ p.size := by omega
        have hsl : ∀ W : World, (Instr.slice 9 (.string p) (some (.int .i64 1)) none none).run Try.prog W = .ok (.string r) W := fun W => by
          rw [run_slice_string_l W 9 p Try.underlying9 .i64 1 (by decide) hi1, hre]; rfl
        have HY := Lib.hid (fun h => split_yes hr hz hg0 h)
        have HN := Lib.hid (fun (h : okN (parts (restB p) slB) = false) => split_no hr (fun hh => by rw [h] at hh; cases hh.2.2))
        rw [← hre] at HY HN
        have HPS := Lib.hid (fun y (hy : y ∈ parts r slB) => Nat.le_trans (part_size r slB y hy) hrs)
        have HSA := Lib.hid (SplitAny.spec_any r slB w hrs (by decide))
        have hml := parts_length r slB
        generalize parts r slB = t at HY HN HPS HSA hml
        obtain ⟨m, hm⟩ : ∃ m, m = t.length := ⟨_, rfl⟩
        have HM := Lib.hid hm
        rw [← hm] at HSA hml
        have u47 : ((UInt8.toNat 47 : Nat) : Int) = 47 := rfl
        rw [u47] at hidx
        clear hr h0 hg0 hre hm u47
        go_enter Try.func5, Try.ntmps5
        go_wp2_with fail
        refine (HSA.out).mono ?_
        rintro e w1 ⟨v, rfl, hown, hb⟩
        obtain ⟨a, cap, rfl⟩ := Dk.slice_of hown
        have HO := Lib.hid hown
        have HB := Lib.hid hb
        have HH := Lib.hid (show Strs.Holds w1 (.slice a m cap) t from Strs.holds_of_own hown)
        clear hown hb HSA hidx hsl
        go_wp2
        go_loopw [21] (fun iv wr => ∃ (j : Nat), j ≤ m ∧ iv = .int .i64 j ∧ (t.take j).all nameB = true ∧ wr = w1) (fun iv _ => m - (intOf iv).toNat)
        case atStart => exact ⟨0, Nat.zero_le _, rfl, by simp, rfl⟩
        case round =>
          obtain ⟨j, hj, rfl, hB, rfl⟩ := hrel
          have HBB := Lib.hid hB
          clear hB
          by_cases hlt : j < m
          · obtain ⟨b1, o1, rfl, hyc⟩ : ∃ b o, a = some ⟨b, o, none⟩ ∧ wr.cell? ⟨b, o + j, none⟩ = some (.string (t.getD j ⟨#[]⟩)) := by
              obtain ⟨a', c', e', hc'⟩ := HH.out
              obtain ⟨b, o, rfl, _, hcell⟩ := hc' (fun h => by have := HM.out; rw [h] at this; simp at this; omega)
              rw [Value.slice.injEq] at e'
              exact ⟨b, o, e'.1, hcell j (by rw [← HM.out]; exact hlt)⟩
            obtain ⟨y, hy⟩ : ∃ y, y = t.getD j ⟨#[]⟩ := ⟨_, rfl⟩
            rw [← hy] at hyc
            have HNX := Lib.hid (show (t.take (j + 1)).all nameB = nameB y from by rw [all_succ t j (by rw [← HM.out]; exact hlt), HBB.out, ← hy]; rfl)
            have hys : y.size ≤ 1048576 := by rw [hy]; exact HPS.out _ (getD_mem (by rw [← HM.out]; exact hlt))
            have HALL := Lib.hid (show nameB y = false → t.all nameB = false from fun h => by
              rw [Bool.eq_false_iff]
              intro hh
              rw [List.all_eq_true] at hh
              have := hh y (by rw [hy]; exact getD_mem (by rw [← HM.out]; exact hlt))
              rw [h] at this
              cases this)
            have HNA := Lib.hid (EnN.name_spec y hys wr)
            clear hy
            obtain ⟨B, hBe⟩ : ∃ B, B = nameB y := ⟨_, rfl⟩
            rw [← hBe] at HNX HALL HNA
            clear hBe
            cases B
            · have HV := Lib.hid (HN.out (by unfold okN; rw [HALL.out rfl, Bool.and_false]))
              go_wp2_with fail
              refine (HNA.out).mono ?_
              rintro e w3 ⟨rfl, rfl⟩
              go_wp2
              go_ret2
              exact post_no HV.out rfl HB.out
            · go_wp2_with fail
              refine (HNA.out).mono ?_
              rintro e w3 ⟨rfl, rfl⟩
              go_wp2
              go_roundw
              case rel => exact ⟨j + 1, by omega, by go_num, HNX.out, by trivial⟩
              case measure => simp [intOf]; omega
          · obtain rfl : j = m := by omega
            have HA := Lib.hid (show t.all nameB = true from by have := HBB.out; rwa [List.take_of_length_le (by rw [HM.out]; exact Nat.le_refl _)] at this)
            by_cases h8 : j ≤ 8
            · have hq : decide ((8 : Int) < j) = false := decide_eq_false (by omega)
              have HV := Lib.hid (HY.out (by unfold okN; rw [HA.out, ← HM.out, decide_eq_true h8]; rfl))
              clear h8
              go_wp2
              go_ret2
              refine post_own HV.out ?_ HB.out
              rw [← HM.out]; exact HO.out
            · have hq : decide ((8 : Int) < j) = true := decide_eq_true (by omega)
              have HV := Lib.hid (HN.out (by unfold okN; rw [← HM.out, decide_eq_false h8]; rfl))
              clear h8
              go_wp2
              go_ret2
              exact post_no HV.out rfl HB.out
      · have HV := Lib.hid (split_no hr (fun h => h47 (by rw [← hg0]; exact h.2.1)))
        have q2 : ((c.toNat : Int) != 47) = true := by
          rw [bne_iff_ne]
          intro hh
          exact h47 (UInt8.toNat_inj.1 (by show c.toNat = 47; omega))
        have q3 : ((c.toNat : Int) == 47) = false := by rw [← Bool.not_eq_true', ← bne]; exact q2
        clear hr h0 hg0 h47
        go_enter Try.func5, Try.ntmps5
        go_wp2
        go_ret2
        exact post_no HV.out rfl (Below.refl _ _)
  · have q0 : (p.toList == [47]) = true := hr
    have HV := Lib.hid (show splitV p = ([], true) from by unfold splitV; rw [if_pos hr])
    clear hr
    go_enter Try.func5, Try.ntmps5
    go_wp2
    go_ret2
    exact post_root HV.out (Below.refl _ _)
theorem total_le {l : List ByteArray} (h : ∀ x ∈ l, x.size ≤ 12) : Strs.total l ≤ l.length * 12 := by
  induction l with
  | nil => exact Nat.le_refl _
  | cons a r ih =>
    have h1 := h a (by simp)
    have h2 := ih (fun x hx => h x (by simp [hx]))
    unfold Strs.total at h2 ⊢
    rw [List.map_cons, List.sum_cons, List.length_cons]
    omega
theorem name_le {s : ByteArray} (h : nameB s = true) : s.size ≤ 12 := by
  unfold EnN.nameB at h
  simp only [Bool.and_eq_true, decide_eq_true_eq] at h
  exact h.1.1.1.2
theorem split_total (p : ByteArray) : (splitV p).1.length ≤ 8 ∧ Strs.total (splitV p).1 ≤ 96 := by
  have h1 := split_len p
  have h2 := total_le (fun x hx => name_le (split_names p x hx))
  omega
theorem cost_split (p : ByteArray) : TlF.cost (splitV p).1 ≤ 1073741824 ∧ 1 + TlF.wid (splitV p).1 ≤ 1073741824 := by
  have := split_total p
  unfold TlF.cost SF.cost TlF.wid SF.wid
  omega
end Go.Proofs.Ythppbcnejapbiaa.PaT
