/- Contracts and plain facts that a law of this seat leans on. Conditions: as each theorem types them. -/
import Derived.Test.YtgapjdkelkmdgaaIsDisk
namespace Go.Proofs.Ytgapjdkelkmdgaa.ReadS
open Go.ChangeShapes Go.WideShapes Go.ChangeAt Go.RowKit
open Wr (Wt wcells d0)
open Dk (D Holds Ok AtS AtW atS atW ret_bool Box)
set_option linter.unusedVariables false

/-- The data of the last of the first k writes that goes to sector i. -/
def lastTo (ws : List Wt) (i : Int) : Nat → Option ByteArray
  | 0 => none
  | k + 1 => if (ws.getD k d0).1 = i then some (ws.getD k d0).2 else lastTo ws i k
def readV (d : D) (i : Int) : ByteArray := (lastTo d.2 i d.2.length).getD (d.1.getD i.toNat ⟨#[]⟩)
/-- The sector's number is one of the disk's. -/
def Has (d : D) (i : Int) : Prop := 0 ≤ i ∧ i < d.1.length
instance (d : D) (i : Int) : Decidable (Has d i) := by unfold Has; infer_instance
def readF (d : D) (i : Int) : ByteArray := if Ok d ∧ Has d i then readV d i else ⟨#[]⟩
theorem ret_str {a b : ByteArray} (h : a = b) : Ending.returned (.string a) = .returned (.string b) := by rw [h]

set_option maxRecDepth 100000 in
set_option maxHeartbeats 400000 in
theorem read_any (w : World) (vs vp : Value) (d : D) (i : Int) (h1 : d.1.length ≤ 1073741824) (h2 : d.2.length ≤ 1073741824) (hi : Has d i) (h : Holds w vs vp d) :
    Calls Try.prog 94 #[.agg #[vs, vp], .int .i64 i] w fun e w' => e = .returned (.string (readV d i)) ∧ Below w.heap.size w w' := by
  obtain ⟨a, ca, rfl, hA⟩ := atS h.1
  obtain ⟨b, cb, rfl, hB⟩ := atW h.2
  obtain ⟨ss, ws⟩ := d
  dsimp only at hA hB h1 h2 ⊢
  obtain ⟨n, rfl⟩ : ∃ n : Nat, i = n := ⟨i.toNat, by have := hi.1; omega⟩
  have hn : n < ss.length := by have := hi.2; dsimp only at this; omega
  obtain ⟨L, hL⟩ : ∃ L, L = ss.length := ⟨_, rfl⟩
  obtain ⟨M, hM⟩ : ∃ M, M = ws.length := ⟨_, rfl⟩
  have hb0 := Joins.below_alloc1 w (.cells #[.slice a L ca, .slice b M cb] 26)
  obtain ⟨bs, os, rfl, hbs, hcs⟩ := hA n hn
  rw [← hL] at hn h1 ⊢
  rw [← hM] at h2 ⊢
  have HV := Lib.hid (show readV (ss, ws) n = (lastTo ws n M).getD (ss.getD n ⟨#[]⟩) by rw [readV, hM]; simp)
  have HB := Lib.hid (hB.below hb0)
  have HM := Lib.hid hM
  have hcs0 := (hb0.cell (p := ⟨bs, os + n, none⟩) hbs).trans hcs
  have HB0 := Lib.hid hb0
  clear hA hB h hL hM hi hb0 hcs
  generalize ss.getD n ⟨#[]⟩ = s at hcs0 HV
  go_enter Try.func94, Try.ntmps94
  go_wp2
  have hsz0 : (w.alloc (.cells #[.slice (some ⟨bs, os, none⟩) L ca, .slice b M cb] 26)).heap.size = w.heap.size + 1 := by simp
  have BX := Lib.hid (show Box (w.alloc (.cells #[.slice (some ⟨bs, os, none⟩) L ca, .slice b M cb] 26)) w.heap.size _ _ 26 from Dk.blk_new w _)
  generalize w.alloc (.cells #[.slice (some ⟨bs, os, none⟩) L ca, .slice b M cb] 26) = w0 at HB HB0 BX hcs0 hsz0 ⊢
  obtain ⟨x0, x1⟩ := BX.out.cells
  go_loop [5] (fun kv => ∃ m : Nat, m ≤ M ∧ kv = .int .i64 ((m : Int) - 1) ∧ lastTo ws n M = lastTo ws n m) (fun kv => ((intOf kv) + 1).toNat)
  case atStart => exact ⟨M, Nat.le_refl _, rfl, rfl⟩
  case round =>
    obtain ⟨m, hm, rfl, hq⟩ := hrel
    have HQ := Lib.hid hq
    clear hq
    cases m with
    | zero =>
      have HE := Lib.hid (show readV (ss, ws) n = s by rw [HV.out, HQ.out]; rfl)
      go_wp2
      go_ret
      exact ⟨ret_str HE.out.symm, HB0.out⟩
    | succ m =>
      obtain ⟨bw, ow, rfl, _, g1, g2⟩ := HB.out m (by rw [← HM.out]; omega)
      have e0 : (((m + 1 : Nat) : Int) - 1) = m := by omega
      rw [e0]
      by_cases hx : (ws.getD m d0).1 = n
      · have HE := Lib.hid (show readV (ss, ws) n = (ws.getD m d0).2 by rw [HV.out, HQ.out, lastTo, if_pos hx]; rfl)
        rw [hx] at g1
        generalize (ws.getD m d0).2 = x at g2 HE
        clear hx
        go_wp2
        go_ret
        exact ⟨ret_str HE.out.symm, HB0.out⟩
      · have HE := Lib.hid (show lastTo ws n M = lastTo ws n m by rw [HQ.out, lastTo, if_neg hx])
        generalize (ws.getD m d0).1 = x at g1 hx
        have hbq : (x == (n : Int)) = false := beq_false_of_ne hx
        go_wp2
        go_round
        case rel => exact ⟨m, by omega, by go_num, HE.out⟩
        case measure => simp [intOf]

end Go.Proofs.Ytgapjdkelkmdgaa.ReadS
