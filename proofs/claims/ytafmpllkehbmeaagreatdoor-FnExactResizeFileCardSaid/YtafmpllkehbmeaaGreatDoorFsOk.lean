/- Plain facts: writing, resizing, freeing and moving keep a file system valid; what a valid file system takes up; what its contents read as afterwards. Conditions: as each theorem types them. -/
import Derived.Test.YtafmpllkehbmeaaGreatDoorFsWm
import Derived.Test.YtafmpllkehbmeaaGreatDoorFsF
namespace Go.Proofs.YtafmpllkehbmeaaGreatDoor.FsOk
open InoV (I okI usedV hasB needV)
open FsV FsX FsY FsZ FsZw FsZr FsWm
set_option linter.unusedVariables false

/-! What a valid file system takes up. -/
theorem inode_cost {n : I} (h : okI n = true) : In.cost n ≤ 20 := by
  have h1 := (InoV.ok_blocks h).2
  have h2 := AclV.ok_len (InoV.ok_acls h).1
  have h3 := AclV.ok_len (InoV.ok_acls h).2
  unfold In.cost NiF.cost AeF.cost
  omega
theorem csum_ok (l : List I) (h : ∀ n ∈ l, okI n = true) : IF.csum l ≤ 20 * l.length := by
  induction l with
  | nil => exact Nat.le_refl _
  | cons n r ih =>
    have h1 := inode_cost (h n (by simp))
    have h2 := ih fun x hx => h x (by simp [hx])
    have e : IF.csum (n :: r) = In.cost n + IF.csum r := by simp [IF.csum]
    rw [e, List.length_cons]; omega
theorem data_cost (l : List ByteArray) (h : ∀ s ∈ l, s.size = 32) : SF.cost l = 33 * l.length := by
  have : ∀ l : List ByteArray, (∀ s ∈ l, s.size = 32) → Strs.total l = 32 * l.length := by
    intro l
    induction l with
    | nil => intro _; rfl
    | cons a r ih =>
      intro h
      have e : Strs.total (a :: r) = a.size + Strs.total r := by simp [Strs.total]
      rw [e, ih fun x hx => h x (by simp [hx]), h a (by simp), List.length_cons]; omega
  show l.length + Strs.total l = _
  rw [this l h]; omega
theorem ok_cost {f : F} (h : okF f = true) : FsF.cost f ≤ 4096 := by
  obtain ⟨h1, h2, h3, _, h5, h6⟩ := parts_of (ok_parts h).2.1
  have e1 := csum_ok _ h5
  have e2 := data_cost _ h6
  unfold FsF.cost IF.cost
  have e3 : QF.cost f.quotas = f.quotas.length := rfl
  omega
theorem ok_both {f : F} (h : okF f = true) : FsF.cost f ≤ 1073741824 ∧ 1 + FsF.wid f ≤ 1073741824 := by
  have h1 := ok_cost h
  have h2 := FsF.wid_cost f
  omega
theorem same_both {f : F} (h : FsF.cost f ≤ 1048576) : FsF.cost f ≤ 1073741824 ∧ 1 + FsF.wid f ≤ 1073741824 := ⟨by omega, FsF.wid_le h⟩

/-! When an inode is valid. -/
theorem inode_mk {n n' : I} (h : okI n = true) (hk : n.kind ≠ 0) (e1 : n'.kind = n.kind) (e2 : n'.mode = n.mode) (hu : 0 ≤ n'.uid ∧ n'.uid ≤ 3) (e4 : n'.gid = n.gid) (e5 : n'.links = n.links) (hs : 0 ≤ n'.size ∧ n'.size ≤ 256) (e7 : n'.tick = n.tick) (hb : InoV.blksB n'.blocks n'.blocks.length = true) (hl : (n'.blocks.length : Int) = needV n'.size) (e9 : n'.acl = n.acl) (e10 : n'.dflt = n.dflt) : okI n' = true := by
  have hg := h
  rw [okI, if_neg hk, Bool.and_eq_true] at h
  rw [okI, if_neg (by rw [e1]; exact hk), Bool.and_eq_true]
  obtain ⟨h1, h2⟩ := h
  refine ⟨?_, ?_⟩
  · simp only [InoV.numsB, Bool.and_eq_true, Bool.or_eq_true, decide_eq_true_eq, CredV.user_iff] at h1 ⊢
    rw [e1, e2, e4, e5, e7]
    obtain ⟨⟨⟨⟨⟨⟨⟨a1, a2⟩, a3⟩, a4⟩, a5⟩, a6⟩, a7⟩, a8⟩ := h1
    exact ⟨⟨⟨⟨⟨⟨⟨a1, a2⟩, hu⟩, a4⟩, a5⟩, hs⟩, a7⟩, hl⟩
  · simp only [InoV.restB, Bool.and_eq_true] at h2 ⊢
    obtain ⟨⟨a1, a2⟩, a3⟩ := h2
    have e : InoV.fileB n' = InoV.fileB n := by unfold InoV.fileB; rw [e1, e2, e10]
    rw [e, e9, e10]
    exact ⟨⟨hb, a2⟩, a3⟩

/-! When the file system with another inode is valid. -/
theorem blkAt_size {c : List UInt8} {k : Nat} (hc : c.length = 256) (hk : k < 8) : (blkAt c k).size = 32 := by
  show ((c.drop (32 * k)).take 32).toArray.size = 32
  rw [List.size_toArray, List.length_take, List.length_drop]; omega
theorem putD_size {c : List UInt8} (hc : c.length = 256) : ∀ (bs : List Int) (k : Nat) (d : List ByteArray), k + bs.length ≤ 8 → (∀ s ∈ d, s.size = 32) → ∀ s ∈ putD c k bs d, s.size = 32 := by
  intro bs
  induction bs with
  | nil => intro k d _ h s hs; exact h s hs
  | cons b r ih =>
    intro k d hk h s hs
    rw [List.length_cons] at hk
    rw [putD] at hs
    refine ih (k + 1) _ (by omega) (fun y hy => ?_) s hs
    split at hy
    · exact h y hy
    · rcases List.mem_or_eq_of_mem_set hy with hy | rfl
      · exact h y hy
      · exact blkAt_size hc (by omega)
theorem zeroD_size (bs : List Int) : ∀ d : List ByteArray, (∀ s ∈ d, s.size = 32) → ∀ s ∈ zeroD d bs, s.size = 32 := by
  induction bs with
  | nil => intro d h s hs; exact h s hs
  | cons b r ih =>
    intro d h s hs
    rw [zeroD_cons] at hs
    refine ih _ (fun y hy => ?_) s hs
    rcases List.mem_or_eq_of_mem_set hy with hy | rfl
    · exact h y hy
    · rfl
theorem z32_zero : zB z32 = true := by decide
theorem ok_with {f : F} {i : Nat} {n : I} {c : List UInt8} (g : GoodF f i) (hn : okI n = true) (hk : i = 0 → n.kind = 2) (h1 : ∀ b ∈ usedV n.blocks, ownerV b = n.uid) (h2 : Dis n.blocks) (hr : Inr n.blocks) (h3 : ∀ b ∈ usedV n.blocks, b ∈ usedV (ino f i).blocks ∨ b ∉ allB f.inodes) (hc : c.length = 256) (hz : ∀ j : Nat, n.size ≤ (j : Int) → j < 256 → c[j]? = some 0) : okF (withV f i n c) = true := by
  have h8 := (InoV.ok_blocks hn).2
  have hnum := InoV.ok_nums hn
  have hlen : (n.blocks.length : Int) = needV n.size := hnum.2.2.2.2.2.2.2.2.2.2.2.2.2.2
  have hsz : 0 ≤ n.size ∧ n.size ≤ 256 := by omega
  have hown : ∀ b ∈ usedV (ino f i).blocks, 0 ≤ b ∧ b ≤ 55 := fun b hb => (own_facts g.ok).2 b (g.used hb)
  have hzl : (zeroD f.data (usedV (ino f i).blocks)).length = 56 := by rw [zeroD_len]; exact g.dlen
  unfold withV
  refine ok_set g.ok g.lt hn hk h1 (dis_used.1 h2) h3 (by rw [putD_len]; exact hzl) (putD_size hc _ _ _ (by omega) (zeroD_size _ _ g.dsz)) (fun b hb hbo hbn => ?_) (fun b hb hbo hbn => ?_) ?_
  · rw [putD_out _ _ 0 _ hr hzl b (fun hh => hbn (usedV_of.2 ⟨hh, by omega⟩)), zeroD_get _ _ hown g.dlen]
    exact if_neg hbo
  · rw [putD_out _ _ 0 _ hr hzl b (fun hh => hbn (usedV_of.2 ⟨hh, by omega⟩)), zeroD_get _ _ hown g.dlen]
    rw [show (if (b : Int) ∈ usedV (ino f i).blocks then z32 else f.data.getD b e0) = z32 from if_pos hbo]
    exact z32_zero
  · unfold beyond
    by_cases h0 : n.blocks.length = 0
    · rw [if_pos h0]; rfl
    · by_cases hl : n.blocks.getD (n.blocks.length - 1) 0 = -1
      · rw [if_neg h0, if_pos hl]; rfl
      · rw [if_neg h0, if_neg hl]
        have hlt : n.blocks.length - 1 < n.blocks.length := by omega
        rw [getD_at hlt] at hl ⊢
        have hin := hr _ (List.getElem_mem hlt)
        have he : n.blocks[n.blocks.length - 1]? = some ((n.blocks[n.blocks.length - 1].toNat : Nat) : Int) := by
          rw [List.getElem?_eq_getElem hlt]
          congr 1; omega
        show zB (((putD c 0 n.blocks (zeroD f.data (usedV (ino f i).blocks))).getD n.blocks[n.blocks.length - 1].toNat e0).extract _ 32) = true
        rw [putD_in c n.blocks 0 _ hr h2 hzl _ _ he, Nat.zero_add]
        unfold zB
        rw [List.all_eq_true]
        intro x hx
        rw [ByteArray.data_extract, Array.toList_extract, List.extract_eq_take_drop, List.mem_iff_getElem] at hx
        obtain ⟨j, hj, e⟩ := hx
        have hbl : (blkAt c (n.blocks.length - 1)).data.toList = (c.drop (32 * (n.blocks.length - 1))).take 32 := rfl
        simp only [hbl, List.length_take, List.length_drop, List.getElem_take, List.getElem_drop] at hj e
        have hneed : 32 * (n.blocks.length - 1) < n.size ∧ n.size ≤ 32 * n.blocks.length := by
          unfold needV at hlen
          split at hlen <;> omega
        have := hz (32 * (n.blocks.length - 1) + ((n.size - ((n.blocks.length : Int) - 1) * 32).toNat + j)) (by omega) (by omega)
        rw [List.getElem?_eq_getElem (by omega), Option.some.injEq] at this
        rw [← e, this]; rfl

/-- An object: what is asked of the inode's number. -/
theorem has_kind {f : F} {k : Nat} (h : hasObjB f k = true) : GoodF f k ∧ (ino f k).kind ≠ 0 := by
  unfold hasObjB at h
  simp only [Bool.and_eq_true, decide_eq_true_eq, Bool.not_eq_true', decide_eq_false_iff_not] at h
  obtain ⟨⟨⟨h0, h19⟩, hok⟩, hk⟩ := h
  exact ⟨⟨hok, by omega⟩, hk⟩
theorem root_dir {f : F} {i : Nat} (g : GoodF f i) : i = 0 → (ino f i).kind = 2 := by
  rintro rfl
  have := (ok_parts g.ok).2.2.1
  unfold rootB at this
  exact of_decide_eq_true this
theorem take_Z_len {c : List UInt8} {z : Nat} (hc : c.length = 256) (hz : z ≤ 256) : (c.take z ++ Z (256 - z)).length = 256 := by
  rw [List.length_append, List.length_take, Z_len]; omega
theorem ok_resize {f : F} {i : Nat} {z : Int} (g : GoodF f i) (hk : (ino f i).kind ≠ 0) (h0 : 0 ≤ z) (h1 : z ≤ 256) : okF (withV f i (sized (ino f i) z) ((content f.data (ino f i).blocks).take z.toNat ++ Z (256 - z.toNat))) = true := by
  have hsz := g.size
  have hc := content_len g.dsz g.dlen g.inr hsz.2.2.2
  have hnd := need_nn z
  have hH : (sized (ino f i) z).blocks = holes (ino f i).blocks (needV z).toNat := rfl
  have hU : ∀ b ∈ usedV (sized (ino f i) z).blocks, b ∈ usedV (ino f i).blocks := fun b hb => by
    rw [hH, usedV_of] at hb
    refine usedV_of.2 ⟨?_, hb.2⟩
    have := List.mem_of_mem_take hb.1
    rcases List.mem_append.1 this with h | h
    · exact h
    · rw [List.mem_replicate] at h; exact absurd h.2 hb.2
  refine ok_with g (inode_mk g.inode hk rfl rfl g.uid rfl rfl ⟨h0, h1⟩ rfl (blks_of (holes_inr g.inr) (holes_dis g.dis)) ?_ rfl rfl) (root_dir g) (fun b hb => g.own (hU b hb)) (holes_dis g.dis) (holes_inr g.inr) (fun b hb => .inl (hU b hb)) (take_Z_len hc (by omega)) (fun j h3 h4 => ?_)
  · rw [hH, holes_len]
    show ((needV z).toNat : Int) = needV z
    omega
  · rw [take_Z_at hc (by omega) h4, if_neg (by have : z ≤ j := h3; omega)]
theorem ok_freed {f : F} {i : Nat} (g : GoodF f i) (hi : i ≠ 0) : okF (withV f i InoV.zero []) = true := by
  show okF (withV f i InoV.zero (Z 256)) = true
  refine ok_with g InoV.ok_zero (fun h => absurd h hi) (fun b hb => by cases hb) List.Pairwise.nil (fun b hb => by cases hb) (fun b hb => by cases hb) (Z_len 256) (fun j _ h => by rw [get_Z, if_pos h])
/-- All results are small. -/
theorem resize_both {f : F} {i z : Int} (h : FsF.cost f ≤ 1048576) : FsF.cost (resizeV f i z).1 ≤ 1073741824 ∧ 1 + FsF.wid (resizeV f i z).1 ≤ 1073741824 := by
  unfold resizeV
  split
  · exact same_both h
  · split
    · exact same_both h
    · rename_i h1 h2
      simp only [Bool.not_eq_true', Bool.and_eq_false_iff, decide_eq_false_iff_not, not_or, Bool.not_eq_false] at h1
      obtain ⟨ho, hz⟩ := h1
      obtain ⟨k, rfl⟩ : ∃ k : Nat, i = k := ⟨i.toNat, by unfold hasObjB at ho; simp only [Bool.and_eq_true, decide_eq_true_eq] at ho; omega⟩
      obtain ⟨g, hk⟩ := has_kind ho
      exact ok_both (ok_resize g hk (by omega) (by omega))
theorem free_both {f : F} {i : Int} (h : FsF.cost f ≤ 1048576) : FsF.cost (freeV f i).1 ≤ 1073741824 ∧ 1 + FsF.wid (freeV f i).1 ≤ 1073741824 := by
  unfold freeV
  split
  · rename_i h1
    simp only [Bool.and_eq_true, Bool.not_eq_true', decide_eq_false_iff_not] at h1
    obtain ⟨ho, hz⟩ := h1
    obtain ⟨k, rfl⟩ : ∃ k : Nat, i = k := ⟨i.toNat, by unfold hasObjB at ho; simp only [Bool.and_eq_true, decide_eq_true_eq] at ho; omega⟩
    obtain ⟨g, hk⟩ := has_kind ho
    exact ok_both (ok_freed g (by omega))
  · exact same_both h
end Go.Proofs.YtafmpllkehbmeaaGreatDoor.FsOk
