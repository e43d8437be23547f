/- Plain facts on allocating and on the model's way of writing, resizing, freeing and moving contents: the same as the functions of the text before. Conditions: as each theorem types them. -/
import Derived.Test.YtafmpllkehbmeaaGreatDoorFsY
namespace Go.Proofs.YtafmpllkehbmeaaGreatDoor.FsZ
open InoV (I okI usedV hasB needV)
open FsV FsX FsY
set_option linter.unusedVariables false

/-- The numbers in use besides x. -/
def more (s : Int → Bool) (x : Int) : Int → Bool := fun z => decide (z = x) || s z
/-! The model's writing. -/
def putB (blk : ByteArray) (o : Nat) (s : List UInt8) : ByteArray := ⟨(splice blk.data.toList o s).toArray⟩
/-- A valid file system's inode. -/
structure GoodF (f : F) (i : Nat) : Prop where
  ok : okF f = true
  lt : i < 20
theorem GoodF.mem {f : F} {i : Nat} (h : GoodF f i) : ino f i ∈ f.inodes := mem_getD (by have := (parts_of (ok_parts h.ok).2.1).2.1; have := h.lt; omega)
theorem GoodF.inode {f : F} {i : Nat} (h : GoodF f i) : okI (ino f i) = true := (parts_of (ok_parts h.ok).2.1).2.2.2.2.1 _ h.mem
theorem GoodF.dlen {f : F} {i : Nat} (h : GoodF f i) : f.data.length = 56 := (parts_of (ok_parts h.ok).2.1).2.2.1
theorem GoodF.dsz {f : F} {i : Nat} (h : GoodF f i) : ∀ s ∈ f.data, s.size = 32 := (parts_of (ok_parts h.ok).2.1).2.2.2.2.2
theorem GoodF.dis {f : F} {i : Nat} (h : GoodF f i) : Dis (ino f i).blocks := dis_of (InoV.ok_blocks h.inode).1
theorem GoodF.used {f : F} {i : Nat} (h : GoodF f i) {b : Int} (hb : b ∈ usedV (ino f i).blocks) : b ∈ allB f.inodes := mem_all.2 ⟨_, h.mem, hb⟩
theorem GoodF.inr {f : F} {i : Nat} (h : GoodF f i) : Inr (ino f i).blocks := fun b hb => by
  by_cases e : b = -1
  · exact .inl e
  · exact .inr ((own_facts h.ok).2 b (h.used (List.mem_filter.2 ⟨hb, by simpa using e⟩)))
theorem GoodF.own {f : F} {i : Nat} (h : GoodF f i) {b : Int} (hb : b ∈ usedV (ino f i).blocks) : ownerV b = (ino f i).uid := ((own_iff _).1 (ok_parts h.ok).2.2.2.1).1 _ h.mem b hb
theorem z32_of {s : ByteArray} (h : s.size = 32) (hz : zB s = true) : s = z32 := by
  apply ByteArray.ext
  apply Array.toList_inj.1
  show s.data.toList = List.replicate 32 0
  unfold zB at hz
  rw [List.all_eq_true] at hz
  refine List.eq_replicate_iff.2 ⟨by simpa using h, fun b hb => by simpa using hz b hb⟩
/-- What nobody has is zeros. -/
theorem GoodF.free {f : F} {i : Nat} (h : GoodF f i) {j : Nat} (hj : j < 56) (hb : (j : Int) ∉ allB f.inodes) : f.data.getD j e0 = z32 := by
  have := ((else_iff f).1 (ok_parts h.ok).2.2.2.2).1 j hj
  rcases this with h1 | h1
  · exact absurd h1 hb
  · exact z32_of (h.dsz _ (mem_getD (by rw [h.dlen]; exact hj))) h1
theorem GoodF.uid {f : F} {i : Nat} (h : GoodF f i) : 0 ≤ (ino f i).uid ∧ (ino f i).uid ≤ 3 := uid_in (ok_parts h.ok).2.1 h.mem
theorem GoodF.size {f : F} {i : Nat} (h : GoodF f i) : 0 ≤ (ino f i).size ∧ (ino f i).size ≤ 256 ∧ ((ino f i).blocks.length : Int) = needV (ino f i).size ∧ (ino f i).blocks.length ≤ 8 := by
  have h1 := InoV.ok_nums h.inode
  have h2 := (InoV.ok_blocks h.inode).2
  omega
theorem getD_m {bs : List Int} {t : Nat} : bs.getD t (-1) = if h : t < bs.length then bs[t] else -1 := by
  rw [List.getD_eq_getElem?_getD]
  split
  · rw [List.getElem?_eq_getElem (by assumption)]; rfl
  · rw [List.getElem?_eq_none (by omega)]; rfl
theorem holes_len (bs : List Int) (m : Nat) : (holes bs m).length = m := by
  simp only [holes, List.length_take, List.length_append, List.length_replicate]; omega
theorem holes_at (bs : List Int) (m t : Nat) (h : t < m) : (holes bs m)[t]? = some (bs.getD t (-1)) := by
  rw [holes, List.getElem?_take, if_pos h, getD_m]
  split
  · rw [List.getElem?_append_left (by assumption), List.getElem?_eq_getElem (by assumption)]
  · rw [List.getElem?_append_right (by omega), List.getElem?_replicate, if_pos (by omega)]
end Go.Proofs.YtafmpllkehbmeaaGreatDoor.FsZ
