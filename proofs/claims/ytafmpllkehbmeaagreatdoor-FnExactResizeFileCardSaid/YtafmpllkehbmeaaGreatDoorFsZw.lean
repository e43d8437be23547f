/- Plain facts: the model's way of writing gives the same data as the program's. Conditions: as each theorem types them. -/
import Derived.Test.YtafmpllkehbmeaaGreatDoorFsZ
namespace Go.Proofs.YtafmpllkehbmeaaGreatDoor.FsZw
open InoV (I okI usedV hasB needV)
open FsV FsX FsY FsZ
set_option linter.unusedVariables false

/-- The blocks of what is written, one by one. -/
structure WrOk (f : F) (n : I) (a l : Nat) : Prop where
  len : (wrB f n a l).length = (wrI n a l).blocks.length
  need : ((wrI n a l).blocks.length : Int) = needV (max (((a + l : Nat) : Int)) n.size)
  at_ : ∀ t (h : t < (wrB f n a l).length), ((wrB f n a l)[t] = n.blocks.getD t (-1) ∧ (n.blocks.getD t (-1) ≠ -1 ∨ ¬ (a / 32 ≤ t ∧ t < lastB a l))) ∨ (n.blocks.getD t (-1) = -1 ∧ a / 32 ≤ t ∧ t < lastB a l ∧ ∃ k, k < 14 ∧ (wrB f n a l)[t] = ((14 * n.uid.toNat + k : Nat) : Int) ∧ hasB (allB f.inodes) ((14 * n.uid.toNat + k : Nat) : Int) = false)
  new : ∀ t t' (h : t < (wrB f n a l).length) (h' : t' < (wrB f n a l).length), t < t' → n.blocks.getD t (-1) = -1 → n.blocks.getD t' (-1) = -1 → (wrB f n a l)[t] ≠ -1 → (wrB f n a l)[t] ≠ (wrB f n a l)[t']
theorem need_mono {x y : Int} (h : x ≤ y) : needV x ≤ needV y := by unfold needV; split <;> split <;> omega
theorem need_nn (x : Int) : 0 ≤ needV x := by unfold needV; split <;> omega
theorem getD_hit {bs : List Int} {t : Nat} (h : bs.getD t (-1) ≠ -1) : ∃ h' : t < bs.length, bs[t] = bs.getD t (-1) := by
  rw [getD_m] at h ⊢
  split at h
  · exact ⟨(by assumption), by rw [dif_pos (by assumption)]⟩
  · exact absurd rfl h
theorem used_at {bs : List Int} {t : Nat} (h : bs.getD t (-1) ≠ -1) : bs.getD t (-1) ∈ usedV bs := by
  obtain ⟨h', e⟩ := getD_hit h
  rw [usedV, List.mem_filter, ← e]
  exact ⟨List.getElem_mem h', by rw [e]; simpa using h⟩
theorem WrOk.inr {f : F} {i a l : Nat} (w : WrOk f (ino f i) a l) (g : GoodF f i) : Inr (wrB f (ino f i) a l) := fun b hb => by
  obtain ⟨t, ht, rfl⟩ := List.mem_iff_getElem.1 hb
  have hu := g.uid
  rcases w.at_ t ht with ⟨e, _⟩ | ⟨_, _, _, k, hk, e, _⟩
  · rw [e]
    by_cases h : (ino f i).blocks.getD t (-1) = -1
    · exact .inl h
    · exact .inr ((own_facts g.ok).2 _ (g.used (used_at h)))
  · rw [e]; omega
theorem WrOk.dis {f : F} {i a l : Nat} (w : WrOk f (ino f i) a l) (g : GoodF f i) : Dis (wrB f (ino f i) a l) := by
  rw [dis_iff]
  intro t t' h h' hlt hne e
  have hold : ∀ s, (ino f i).blocks.getD s (-1) ≠ -1 → hasB (allB f.inodes) ((ino f i).blocks.getD s (-1)) = true := fun s hs => has_mem.2 (g.used (used_at hs))
  by_cases c1 : (ino f i).blocks.getD t (-1) = -1
  · by_cases c2 : (ino f i).blocks.getD t' (-1) = -1
    · exact w.new t t' h h' hlt c1 c2 hne e
    · rcases w.at_ t h with ⟨e1, _⟩ | ⟨_, _, _, k, hk, e1, hf⟩
      · rw [e1] at hne; exact hne c1
      · rcases w.at_ t' h' with ⟨e2, _⟩ | ⟨c, _⟩
        · have := hold t' c2
          rw [← e2, ← e, e1, hf] at this; cases this
        · exact c2 c
  · rcases w.at_ t h with ⟨e1, _⟩ | ⟨c, _⟩
    · by_cases c2 : (ino f i).blocks.getD t' (-1) = -1
      · rcases w.at_ t' h' with ⟨e2, _⟩ | ⟨_, _, _, k, hk, e2, hf⟩
        · rw [e, e2] at hne; exact hne c2
        · have := hold t c1
          rw [← e1, e, e2, hf] at this; cases this
      · rcases w.at_ t' h' with ⟨e2, _⟩ | ⟨c, _⟩
        · obtain ⟨q1, q2⟩ := getD_hit c1
          obtain ⟨p1, p2⟩ := getD_hit c2
          exact dis_iff.1 g.dis t t' q1 p1 hlt (by rw [q2]; exact c1) (by rw [q2, p2, ← e1, ← e2]; exact e)
        · exact c2 c
    · exact c1 c
/-- The bytes that a block of what is written had before. -/
theorem WrOk.old {f : F} {i a l : Nat} (w : WrOk f (ino f i) a l) (g : GoodF f i) {t j : Nat} (ht : t < (wrB f (ino f i) a l).length) (e : (wrB f (ino f i) a l)[t] = (j : Int)) : j < 56 ∧ (f.data.getD j e0).data.toList = one f.data ((ino f i).blocks.getD t (-1)) ∧ (f.data.getD j e0).size = 32 := by
  have hj : j < 56 := by
    have := w.inr g _ (List.getElem_mem ht)
    rw [e] at this; omega
  refine ⟨hj, ?_, g.dsz _ (mem_getD (by rw [g.dlen]; exact hj))⟩
  rcases w.at_ t ht with ⟨e1, _⟩ | ⟨c, _, _, k, hk, e1, hf⟩
  · rw [← e1, e, one, if_neg (by omega)]; rfl
  · rw [c, one, if_pos rfl]
    have : (j : Int) ∉ allB f.inodes := fun hh => by
      rw [← e, e1, ← has_mem, hf] at hh; cases hh
    rw [g.free hj this]; rfl
end Go.Proofs.YtafmpllkehbmeaaGreatDoor.FsZw
