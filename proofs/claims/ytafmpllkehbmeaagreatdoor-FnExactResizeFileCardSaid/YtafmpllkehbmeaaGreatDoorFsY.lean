/- Plain facts on the contents of files: what is read, written, resized, freed, moved to another owner, as functions on a file system; the blocks that an allocation chooses. No condition of its own. -/
import Derived.Test.YtafmpllkehbmeaaGreatDoorFsX
namespace Go.Proofs.YtafmpllkehbmeaaGreatDoor.FsY
open InoV (I okI usedV hasB needV)
open FsV
set_option linter.unusedVariables false

def ino (f : F) (i : Nat) : I := f.inodes.getD i InoV.zero
def Z (n : Nat) : List UInt8 := List.replicate n 0
def dat (d : List ByteArray) (b : Int) : ByteArray := d.getD b.toNat e0
/-- A block's bytes, zeros for a hole. -/
def one (d : List ByteArray) (b : Int) : List UInt8 := if b = -1 then Z 32 else (dat d b).data.toList
def cont (d : List ByteArray) (bs : List Int) : List UInt8 := bs.flatMap (one d)
/-- The content with zeros behind it. -/
def content (d : List ByteArray) (bs : List Int) : List UInt8 := cont d bs ++ Z (256 - 32 * bs.length)
def blkAt (c : List UInt8) (k : Nat) : ByteArray := ⟨((c.drop (32 * k)).take 32).toArray⟩
def zeroD (d : List ByteArray) (bs : List Int) : List ByteArray := bs.foldl (fun d b => d.set b.toNat z32) d
/-- Block after block of c is stored, from number k on. -/
def putD (c : List UInt8) : Nat → List Int → List ByteArray → List ByteArray
  | _, [], d => d
  | k, b :: r, d => putD c (k + 1) r (if b = -1 then d else d.set b.toNat (blkAt c k))
/-- n becomes inode i, its blocks have c. -/
def withV (f : F) (i : Nat) (n : I) (c : List UInt8) : F := { f with inodes := f.inodes.set i n, data := putD c 0 n.blocks (zeroD f.data (usedV (ino f i).blocks)) }
def hasObjB (f : F) (i : Int) : Bool := decide (0 ≤ i) && decide (i ≤ 19) && okF f && !decide ((ino f i.toNat).kind = 0)
/-- Another block for each chosen one: s are the numbers in use. -/
def renew (a : Nat) (q : Int) (ch : Int → Bool) : (Int → Bool) → List Int → List Int × Int
  | _, [] => ([], 0)
  | s, b :: r =>
    if ch b then
      if (pick (fun k => s (k : Int)) a 14 q).2 = 0 then
        ((pick (fun k => s (k : Int)) a 14 q).1 :: (renew a q ch (fun z => decide (z = (pick (fun k => s (k : Int)) a 14 q).1) || s z) r).1, (renew a q ch (fun z => decide (z = (pick (fun k => s (k : Int)) a 14 q).1) || s z) r).2)
      else (b :: r, (pick (fun k => s (k : Int)) a 14 q).2)
    else (b :: (renew a q ch s r).1, (renew a q ch s r).2)
def holes (bs : List Int) (m : Nat) : List Int := (bs ++ List.replicate (m - bs.length) (-1)).take m
def sized (n : I) (size : Int) : I := { n with size := size, blocks := holes n.blocks (needV size).toNat }
def splice (c : List UInt8) (a : Nat) (s : List UInt8) : List UInt8 := c.take a ++ s ++ c.drop (a + s.length)
def quo (f : F) (u : Nat) : Int := (f.quotas.getD u (0, 0)).2
def isHole (b : Int) : Bool := decide (b = -1)
def isBlock (b : Int) : Bool := !decide (b = -1)

/-- The inode that is written to, before its holes are filled. -/
def wrI (n : I) (a l : Nat) : I := sized n (max (((a + l : Nat) : Int)) n.size)
def lastB (a l : Nat) : Nat := (needV ((a + l : Nat) : Int)).toNat
def wrR (f : F) (n : I) (a l : Nat) : List Int × Int := renew (14 * n.uid.toNat) (quo f n.uid.toNat) isHole (hasB (allB f.inodes)) (((wrI n a l).blocks.take (lastB a l)).drop (a / 32))
def wrB (f : F) (n : I) (a l : Nat) : List Int := (wrI n a l).blocks.take (a / 32) ++ (wrR f n a l).1 ++ (wrI n a l).blocks.drop (lastB a l)
def resizeV (f : F) (i z : Int) : F × Int :=
  if !(hasObjB f i && decide (0 ≤ z)) then (f, 1)
  else if 256 < z then (f, 9)
  else (withV f i.toNat (sized (ino f i.toNat) z) ((content f.data (ino f i.toNat).blocks).take z.toNat ++ Z (256 - z.toNat)), 0)
def freeV (f : F) (i : Int) : F × Int := if hasObjB f i && !decide (i = 0) then (withV f i.toNat InoV.zero [], 0) else (f, 1)
/-! Lists. -/
theorem Z_len (n : Nat) : (Z n).length = n := by simp [Z]
theorem getD_set {α : Type} (l : List α) (z x : α) (i j : Nat) (h : i < l.length) : (l.set i x).getD j z = if i = j then x else l.getD j z := by
  rw [List.getD_eq_getElem?_getD, List.getElem?_set]
  by_cases e : i = j
  · subst e; simp [h]
  · simp [e]
theorem ext_getD {l m : List ByteArray} (hl : l.length = m.length) (h : ∀ j, j < l.length → l.getD j e0 = m.getD j e0) : l = m := by
  refine List.ext_getElem hl fun j h1 h2 => ?_
  have := h j h1
  rw [List.getD_eq_getElem?_getD, List.getD_eq_getElem?_getD, List.getElem?_eq_getElem h1, List.getElem?_eq_getElem h2] at this
  exact this
theorem zeroD_len (bs : List Int) : ∀ d, (zeroD d bs).length = d.length := by
  induction bs with
  | nil => intro d; rfl
  | cons b r ih => intro d; rw [zeroD, List.foldl_cons, ← zeroD, ih, List.length_set]
theorem zeroD_cons (b : Int) (r : List Int) (d : List ByteArray) : zeroD d (b :: r) = zeroD (d.set b.toNat z32) r := rfl
/-- In range: a hole or a block. -/
def Inr (bs : List Int) : Prop := ∀ b ∈ bs, b = -1 ∨ (0 ≤ b ∧ b ≤ 55)
theorem zeroD_get (bs : List Int) : ∀ d : List ByteArray, (∀ b ∈ bs, 0 ≤ b ∧ b ≤ 55) → d.length = 56 → ∀ j : Nat, (zeroD d bs).getD j e0 = if (j : Int) ∈ bs then z32 else d.getD j e0 := by
  induction bs with
  | nil => intro d _ _ j; simp [zeroD]
  | cons b r ih =>
    intro d hb hd j
    have hb0 := hb b (by simp)
    rw [zeroD_cons, ih _ (fun x hx => hb x (by simp [hx])) (by rw [List.length_set]; exact hd), getD_set _ _ _ _ _ (by omega)]
    by_cases h1 : (j : Int) ∈ r
    · rw [if_pos h1, if_pos (by simp [h1])]
    · rw [if_neg h1]
      by_cases h2 : b.toNat = j
      · rw [if_pos h2, if_pos (by simp; left; omega)]
      · rw [if_neg h2, if_neg (by simp [h1]; omega)]
theorem putD_len (c : List UInt8) (bs : List Int) : ∀ k d, (putD c k bs d).length = d.length := by
  induction bs with
  | nil => intro k d; rfl
  | cons b r ih => intro k d; rw [putD, ih]; split <;> simp
theorem putD_out (c : List UInt8) (bs : List Int) : ∀ k (d : List ByteArray), Inr bs → d.length = 56 → ∀ j : Nat, (j : Int) ∉ bs → (putD c k bs d).getD j e0 = d.getD j e0 := by
  induction bs with
  | nil => intro k d _ _ j _; rfl
  | cons b r ih =>
    intro k d hb hd j hj
    have hb0 := hb b (by simp)
    rw [List.mem_cons, not_or] at hj
    rw [putD, ih _ _ (fun x hx => hb x (by simp [hx])) (by split <;> simp [hd]) j hj.2]
    split
    · rfl
    · rw [getD_set _ _ _ _ _ (by omega), if_neg (by omega)]
/-- No block stands twice. -/
def Dis (bs : List Int) : Prop := bs.Pairwise fun x y => x ≠ -1 → x ≠ y
theorem putD_in (c : List UInt8) (bs : List Int) : ∀ k (d : List ByteArray), Inr bs → Dis bs → d.length = 56 → ∀ t j : Nat, bs[t]? = some (j : Int) → (putD c k bs d).getD j e0 = blkAt c (k + t) := by
  induction bs with
  | nil => intro k d _ _ _ t j h; simp at h
  | cons b r ih =>
    intro k d hb hp hd t j h
    have hb0 := hb b (by simp)
    rw [Dis, List.pairwise_cons] at hp
    rw [putD]
    cases t with
    | zero =>
      simp at h
      subst h
      rw [if_neg (by omega), putD_out c r _ _ (fun x hx => hb x (by simp [hx])) (by simp [hd]) j (fun hh => hp.1 _ hh (by omega) rfl), getD_set _ _ _ _ _ (by omega), if_pos (by omega), Nat.add_zero]
    | succ t =>
      rw [List.getElem?_cons_succ] at h
      rw [ih _ _ (fun x hx => hb x (by simp [hx])) hp.2 (by split <;> simp [hd]) t j h, show k + 1 + t = k + (t + 1) from by omega]
theorem dis_used {bs : List Int} : Dis bs ↔ (usedV bs).Nodup := by
  rw [Dis, usedV, List.Nodup, List.pairwise_filter]
  refine ⟨fun h => h.imp fun {x y} hh hx _ => hh (by simpa using hx), fun h => h.imp fun {x y} hh hx e => ?_⟩
  subst e
  exact hh (by simpa using hx) (by simpa using hx) rfl
theorem dis_iff {bs : List Int} : Dis bs ↔ ∀ i j (hi : i < bs.length) (hj : j < bs.length), i < j → bs[i] ≠ -1 → bs[i] ≠ bs[j] := List.pairwise_iff_getElem
theorem getD_at {bs : List Int} {i : Nat} (h : i < bs.length) : bs.getD i 0 = bs[i] := by rw [List.getD_eq_getElem?_getD, List.getElem?_eq_getElem h]; rfl
theorem dis_of {l : List Int} (h : InoV.blksB l l.length = true) : Dis l := by
  rw [dis_iff]
  intro i j hi hj hij hne e
  unfold InoV.blksB at h
  rw [List.all_eq_true] at h
  have := h j (List.mem_range.2 hj)
  simp only [InoV.blkB, Bool.and_eq_true, Bool.or_eq_true, decide_eq_true_eq, Bool.not_eq_true'] at this
  rw [getD_at hj] at this
  rcases this.2 with h1 | h1
  · rw [← e] at h1; exact hne h1
  · have hm : hasB (l.take j) l[j] = true := has_mem.2 (by
      rw [← e, List.mem_take_iff_getElem]
      exact ⟨i, by omega, rfl⟩)
    rw [h1] at hm; cases hm
theorem blks_of {l : List Int} (h1 : Inr l) (h2 : Dis l) : InoV.blksB l l.length = true := by
  unfold InoV.blksB
  rw [List.all_eq_true]
  intro j hj
  rw [List.mem_range] at hj
  have hm := h1 l[j] (List.getElem_mem hj)
  simp only [InoV.blkB, Bool.and_eq_true, Bool.or_eq_true, decide_eq_true_eq, Bool.not_eq_true']
  rw [getD_at hj]
  refine ⟨by omega, ?_⟩
  by_cases e : l[j] = -1
  · exact .inl e
  · refine .inr (Bool.eq_false_iff.2 fun hh => ?_)
    rw [has_mem, List.mem_take_iff_getElem] at hh
    obtain ⟨i, hi, e2⟩ := hh
    exact dis_iff.1 h2 i j (by omega) hj (by omega) (by rw [e2]; exact e) e2

/-! Bytes. -/
theorem one_len {d : List ByteArray} {b : Int} (hs : ∀ s ∈ d, s.size = 32) (hd : d.length = 56) (hb : b = -1 ∨ (0 ≤ b ∧ b ≤ 55)) : (one d b).length = 32 := by
  unfold one
  split
  · simp [Z]
  · have := hs (dat d b) (mem_getD (by omega))
    simpa using this
theorem cont_at (d : List ByteArray) (bs : List Int) (hs : ∀ s ∈ d, s.size = 32) (hd : d.length = 56) : Inr bs → (cont d bs).length = 32 * bs.length ∧ ∀ t (h : t < bs.length) j, j < 32 → (cont d bs)[32 * t + j]? = (one d bs[t])[j]? := by
  induction bs with
  | nil => intro _; exact ⟨rfl, fun t h => by simp at h⟩
  | cons b r ih =>
    intro hb
    have h1 := one_len hs hd (hb b (by simp))
    obtain ⟨i1, i2⟩ := ih fun x hx => hb x (by simp [hx])
    have e : cont d (b :: r) = one d b ++ cont d r := by simp [cont]
    refine ⟨by rw [e, List.length_append, h1, i1, List.length_cons]; omega, fun t h j hj => ?_⟩
    rw [e]
    cases t with
    | zero => rw [List.getElem?_append_left (by omega), Nat.mul_zero, Nat.zero_add]; rfl
    | succ t =>
      rw [List.getElem?_append_right (by omega), h1, show 32 * (t + 1) + j - 32 = 32 * t + j from by omega]
      exact i2 t (by simpa using h) j hj
theorem content_len {d : List ByteArray} {bs : List Int} (hs : ∀ s ∈ d, s.size = 32) (hd : d.length = 56) (hb : Inr bs) (h8 : bs.length ≤ 8) : (content d bs).length = 256 := by
  rw [content, List.length_append, (cont_at d bs hs hd hb).1, Z_len]; omega
theorem content_at {d : List ByteArray} {bs : List Int} (hs : ∀ s ∈ d, s.size = 32) (hd : d.length = 56) (hb : Inr bs) (h8 : bs.length ≤ 8) (t : Nat) (ht : t < 8) (j : Nat) (hj : j < 32) : (content d bs)[32 * t + j]? = (one d (bs.getD t (-1)))[j]? := by
  obtain ⟨c1, c2⟩ := cont_at d bs hs hd hb
  rw [content]
  by_cases h : t < bs.length
  · rw [List.getElem?_append_left (by omega), c2 t h j hj, List.getD_eq_getElem?_getD, List.getElem?_eq_getElem h]; rfl
  · rw [List.getElem?_append_right (by omega), c1, List.getD_eq_getElem?_getD, List.getElem?_eq_none (l := bs) (i := t) (by omega)]
    show (Z _)[_]? = (one d (-1))[j]?
    rw [one, if_pos rfl, Z, Z, List.getElem?_replicate, List.getElem?_replicate, if_pos (by omega), if_pos (by omega)]
theorem blk_ext {c : List UInt8} {k : Nat} {s : ByteArray} (hs : s.size = 32) (h : ∀ j, j < 32 → c[32 * k + j]? = s.data.toList[j]?) : blkAt c k = s := by
  apply ByteArray.ext
  apply Array.toList_inj.1
  show (c.drop (32 * k)).take 32 = s.data.toList
  refine List.ext_getElem? fun j => ?_
  rw [List.getElem?_take]
  split
  · rw [List.getElem?_drop]; exact h j (by assumption)
  · rw [List.getElem?_eq_none]
    have : s.data.toList.length = 32 := by simpa using hs
    omega
end Go.Proofs.YtafmpllkehbmeaaGreatDoor.FsY
