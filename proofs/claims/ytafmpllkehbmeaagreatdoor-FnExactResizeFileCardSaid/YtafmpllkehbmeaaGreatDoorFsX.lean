/- Plain facts on changing a file system: one inode and the data change; when it stays valid. No condition of its own. -/
import Derived.Test.YtafmpllkehbmeaaGreatDoorFsV
namespace Go.Proofs.YtafmpllkehbmeaaGreatDoor.FsX
open InoV (I okI usedV hasB)
open FsV
set_option linter.unusedVariables false

theorem go_of {p : List (Int × Int)} : ∀ {s : List Int}, (∀ x ∈ p, ownerV x.2 = x.1) → (p.map Prod.snd).Nodup → (∀ x ∈ p, x.2 ∉ s) → goB s p = true := by
  induction p with
  | nil => intro s _ _ _; rfl
  | cons a r ih =>
    intro s h1 h2 h3
    rw [List.map_cons, List.nodup_cons] at h2
    have hs : hasB s a.2 = false := by
      rw [Bool.eq_false_iff, ne_eq, has_mem]
      exact h3 a (by simp)
    rw [goB, oneB, hs, h1 a (by simp)]
    rw [ih (fun x hx => h1 x (by simp [hx])) h2.2 (fun x hx => ?_)]
    · simp
    · rw [List.mem_append, not_or]
      refine ⟨h3 x (by simp [hx]), fun hh => h2.1 ?_⟩
      rw [List.mem_singleton] at hh
      rw [← hh]
      exact List.mem_map_of_mem hx
/-- Each block's owner is its inode's, and none stands twice. -/
theorem own_iff (ns : List I) : ownB ns = true ↔ (∀ n ∈ ns, ∀ b ∈ usedV n.blocks, ownerV b = n.uid) ∧ (allB ns).Nodup := by
  constructor
  · intro h
    obtain ⟨h1, h2, _⟩ := go_mem h
    rw [pairs_snd] at h2
    refine ⟨fun n hn b hb => ?_, h2⟩
    exact h1 (n.uid, b) (List.mem_flatMap.2 ⟨n, hn, List.mem_map_of_mem hb⟩)
  · rintro ⟨h1, h2⟩
    refine go_of (fun x hx => ?_) (by rw [pairs_snd]; exact h2) (fun x _ hh => by cases hh)
    obtain ⟨n, hn, hx⟩ := List.mem_flatMap.1 hx
    obtain ⟨b, hb, rfl⟩ := List.mem_map.1 hx
    exact h1 n hn b hb
theorem mem_all {ns : List I} {b : Int} : b ∈ allB ns ↔ ∃ n ∈ ns, b ∈ usedV n.blocks := List.mem_flatMap
theorem ns_split (ns : List I) (i : Nat) (hi : i < ns.length) : ns = ns.take i ++ (ns.getD i InoV.zero :: ns.drop (i + 1)) := by
  rw [List.getD_eq_getElem?_getD, List.getElem?_eq_getElem hi]; simp
theorem set_split (ns : List I) (i : Nat) (n : I) (hi : i < ns.length) : ns.set i n = ns.take i ++ (n :: ns.drop (i + 1)) := by
  rw [List.set_eq_take_append_cons_drop, if_pos hi]
theorem all_split (ns : List I) (i : Nat) (hi : i < ns.length) : allB ns = allB (ns.take i) ++ (usedV (ns.getD i InoV.zero).blocks ++ allB (ns.drop (i + 1))) := by
  conv => lhs; rw [ns_split ns i hi]
  rw [all_app]; rfl
theorem all_set (ns : List I) (i : Nat) (n : I) (hi : i < ns.length) : allB (ns.set i n) = allB (ns.take i) ++ (usedV n.blocks ++ allB (ns.drop (i + 1))) := by
  rw [set_split ns i n hi, all_app]; rfl
/-- Another inode's block is not this one's. -/
theorem apart {ns : List I} {i : Nat} (h : (allB ns).Nodup) (hi : i < ns.length) {b : Int} (hb : b ∈ usedV (ns.getD i InoV.zero).blocks) : b ∉ allB (ns.take i) ∧ b ∉ allB (ns.drop (i + 1)) := by
  rw [all_split ns i hi, List.nodup_append] at h
  obtain ⟨_, h2, h3⟩ := h
  rw [List.nodup_append] at h2
  exact ⟨fun hh => h3 b hh b (List.mem_append.2 (.inl hb)) rfl, fun hh => h2.2.2 b hb b hh rfl⟩
theorem own_set {ns : List I} {i : Nat} {n : I} (h : ownB ns = true) (hi : i < ns.length) (h1 : ∀ b ∈ usedV n.blocks, ownerV b = n.uid) (h2 : (usedV n.blocks).Nodup) (h3 : ∀ b ∈ usedV n.blocks, b ∈ usedV (ns.getD i InoV.zero).blocks ∨ b ∉ allB ns) : ownB (ns.set i n) = true := by
  rw [own_iff] at h ⊢
  obtain ⟨g1, g2⟩ := h
  refine ⟨fun m hm b hb => ?_, ?_⟩
  · rcases List.mem_or_eq_of_mem_set hm with hm | rfl
    · exact g1 m hm b hb
    · exact h1 b hb
  · have hap : ∀ b ∈ usedV n.blocks, b ∉ allB (ns.take i) ∧ b ∉ allB (ns.drop (i + 1)) := fun b hb => by
      rcases h3 b hb with h | h
      · exact apart g2 hi h
      · rw [all_split ns i hi] at h
        simp only [List.mem_append, not_or] at h
        exact ⟨h.1, h.2.2⟩
    rw [all_split ns i hi, List.nodup_append, List.nodup_append] at g2
    obtain ⟨a1, ⟨_, a3, _⟩, a5⟩ := g2
    rw [all_set ns i n hi, List.nodup_append, List.nodup_append]
    refine ⟨a1, ⟨h2, a3, fun x hx y hy e => (hap x hx).2 (e ▸ hy)⟩, fun x hx y hy e => ?_⟩
    rcases List.mem_append.1 hy with hy | hy
    · exact (hap y hy).1 (e ▸ hx)
    · exact a5 x hx y (by simp [hy]) e
theorem parts_set {f : F} {i : Nat} {n : I} {d : List ByteArray} (h : partsB f = true) (hn : okI n = true) (hl : d.length = 56) (hs : ∀ s ∈ d, s.size = 32) : partsB { f with inodes := f.inodes.set i n, data := d } = true := by
  obtain ⟨h1, h2, h3, h4, h5, h6⟩ := parts_of h
  refine parts_mk h1 (by simpa using h2) hl (List.all_eq_true.2 h4) (List.all_eq_true.2 fun m hm => ?_) (List.all_eq_true.2 fun s hh => decide_eq_true (hs s hh))
  rcases List.mem_or_eq_of_mem_set hm with hm | rfl
  · exact h5 m hm
  · exact hn
theorem root_set {f : F} {i : Nat} {n : I} {d : List ByteArray} (h : rootB f = true) (hk : i = 0 → n.kind = 2) (hi : i < f.inodes.length) : rootB { f with inodes := f.inodes.set i n, data := d } = true := by
  rw [rootB, decide_eq_true_eq] at h ⊢
  show ((f.inodes.set i n).getD 0 InoV.zero).kind = 2
  by_cases h0 : i = 0
  · subst h0
    rw [List.getD_eq_getElem?_getD, List.getElem?_set_self hi]
    exact hk rfl
  · rw [List.getD_eq_getElem?_getD, List.getElem?_set_ne h0, ← List.getD_eq_getElem?_getD]
    exact h
theorem else_iff (f : F) : elseB f = true ↔ (∀ b : Nat, b < 56 → ((b : Int) ∈ allB f.inodes ∨ zB (f.data.getD b e0) = true)) ∧ ∀ n ∈ f.inodes, zB (beyond f n) = true := by
  rw [elseB, Bool.and_eq_true, List.all_eq_true, List.all_eq_true]
  refine and_congr ⟨fun h b hb => ?_, fun h b hb => ?_⟩ Iff.rfl
  · have := h b (List.mem_range.2 hb)
    rwa [freeB, Bool.or_eq_true, has_mem] at this
  · rw [freeB, Bool.or_eq_true, has_mem]
    exact h b (List.mem_range.1 hb)
/-- The last block, where there is one, is a hole or in use. -/
theorem last_used {n : I} (h0 : n.blocks.length ≠ 0) (h1 : n.blocks.getD (n.blocks.length - 1) 0 ≠ -1) : n.blocks.getD (n.blocks.length - 1) 0 ∈ usedV n.blocks := by
  rw [usedV, List.mem_filter]
  exact ⟨mem_getD (by omega), decide_eq_true h1⟩
theorem beyond_same {f : F} {n : I} {ns : List I} {d : List ByteArray} (h : ∀ b ∈ usedV n.blocks, d.getD b.toNat e0 = f.data.getD b.toNat e0) : beyond { f with inodes := ns, data := d } n = beyond f n := by
  unfold beyond
  by_cases h0 : n.blocks.length = 0
  · rw [if_pos h0, if_pos h0]
  · by_cases h1 : n.blocks.getD (n.blocks.length - 1) 0 = -1
    · rw [if_neg h0, if_neg h0, if_pos h1, if_pos h1]
    · rw [if_neg h0, if_neg h0, if_neg h1, if_neg h1]
      show (d.getD _ e0).extract _ _ = _
      rw [h _ (last_used h0 h1)]
/-- Inode i becomes n, the data d: the file system stays valid where n is valid, has its own blocks, no other inode's, what it has left is zeros, and nothing else has changed. -/
theorem ok_set {f : F} {i : Nat} {n : I} {d : List ByteArray} (h : okF f = true) (hi : i < 20) (hn : okI n = true) (hk : i = 0 → n.kind = 2)
    (h1 : ∀ b ∈ usedV n.blocks, ownerV b = n.uid) (h2 : (usedV n.blocks).Nodup) (h3 : ∀ b ∈ usedV n.blocks, b ∈ usedV (f.inodes.getD i InoV.zero).blocks ∨ b ∉ allB f.inodes)
    (hl : d.length = 56) (hs : ∀ s ∈ d, s.size = 32)
    (c1 : ∀ b : Nat, b < 56 → (b : Int) ∉ usedV (f.inodes.getD i InoV.zero).blocks → (b : Int) ∉ usedV n.blocks → d.getD b e0 = f.data.getD b e0)
    (c2 : ∀ b : Nat, b < 56 → (b : Int) ∈ usedV (f.inodes.getD i InoV.zero).blocks → (b : Int) ∉ usedV n.blocks → zB (d.getD b e0) = true)
    (c3 : zB (beyond { f with inodes := f.inodes.set i n, data := d } n) = true) : okF { f with inodes := f.inodes.set i n, data := d } = true := by
  obtain ⟨g1, g2, g3, g4, g5⟩ := ok_parts h
  obtain ⟨_, hlen, _⟩ := parts_of g2
  have hi' : i < f.inodes.length := by omega
  have hnd := (own_iff _).1 g4
  have hin := (own_facts h).2
  have e4 := own_set g4 hi' h1 h2 h3
  have hU : ∀ b ∈ usedV n.blocks, b ∉ allB (f.inodes.take i) ∧ b ∉ allB (f.inodes.drop (i + 1)) := fun b hb => by
    rcases h3 b hb with h | h
    · exact apart hnd.2 hi' h
    · rw [all_split f.inodes i hi'] at h
      simp only [List.mem_append, not_or] at h
      exact ⟨h.1, h.2.2⟩
  have e5 : elseB { f with inodes := f.inodes.set i n, data := d } = true := by
    rw [else_iff] at g5 ⊢
    refine ⟨fun b hb => ?_, fun m hm => ?_⟩
    · show (b : Int) ∈ allB (f.inodes.set i n) ∨ zB (d.getD b e0) = true
      rw [all_set f.inodes i n hi']
      by_cases hbn : (b : Int) ∈ usedV n.blocks
      · exact .inl (by simp [hbn])
      · by_cases hbo : (b : Int) ∈ usedV (f.inodes.getD i InoV.zero).blocks
        · exact .inr (c2 b hb hbo hbn)
        · rw [c1 b hb hbo hbn]
          rcases g5.1 b hb with h | h
          · rw [all_split f.inodes i hi'] at h
            simp only [List.mem_append] at h ⊢
            rcases h with h | h | h
            · exact .inl (.inl h)
            · exact absurd h hbo
            · exact .inl (.inr (.inr h))
          · exact .inr h
    · have hm' : m ∈ f.inodes.set i n := hm
      rw [set_split f.inodes i n hi', List.mem_append, List.mem_cons] at hm'
      have other : m ∈ f.inodes.take i ∨ m ∈ f.inodes.drop (i + 1) → zB (beyond { f with inodes := f.inodes.set i n, data := d } m) = true := fun hh => by
        have hmf : m ∈ f.inodes := hh.elim List.mem_of_mem_take List.mem_of_mem_drop
        rw [beyond_same fun b hb => ?_]
        · exact g5.2 m hmf
        · have hr := hin b (mem_all.2 ⟨m, hmf, hb⟩)
          have hcast : ((b.toNat : Nat) : Int) = b := Int.toNat_of_nonneg hr.1
          have hba : b ∈ allB (f.inodes.take i) ∨ b ∈ allB (f.inodes.drop (i + 1)) := hh.imp (fun h => mem_all.2 ⟨m, h, hb⟩) (fun h => mem_all.2 ⟨m, h, hb⟩)
          refine c1 b.toNat (by omega) (fun hx => ?_) (fun hx => ?_)
          · rw [hcast] at hx
            have := apart hnd.2 hi' hx
            exact hba.elim this.1 this.2
          · rw [hcast] at hx
            have := hU b hx
            exact hba.elim this.1 this.2
      rcases hm' with hm' | rfl | hm'
      · exact other (.inl hm')
      · exact c3
      · exact other (.inr hm')
  have e1 : tickB { f with inodes := f.inodes.set i n, data := d } = true := g1
  rw [okF, e1, parts_set g2 hn hl hs, root_set g3 hk hi', e5]
  show (true && true && true && (ownB (f.inodes.set i n) && true)) = true
  rw [e4]; rfl
end Go.Proofs.YtafmpllkehbmeaaGreatDoor.FsX
