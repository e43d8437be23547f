/- Inodes as values: which ones are valid, their bytes, the inode that bytes stand for. Plain facts, no condition. -/
import Derived.Test.YtjefefedhhloiaaGreatDoorCredV
import Derived.Test.YtjefefedhhloiaaGreatDoorGetNumber
namespace Go.Proofs.YtjefefedhhloiaaGreatDoor.InoV
open Go
open AclV (At a0 okB packV packL packL_len ok_len pack_size unpackV unpack_of)
open CredV (userB user_iff)
open ModeV (modeB mode_iff stickyB)
open Nums (lowL lowL_length getL byteN byteN_toNat)
open GetNumber (seg)
set_option linter.unusedVariables false

theorem ext {a b : ByteArray} (h : a.data.toList = b.data.toList) : a = b := ByteArray.ext (Array.toList_inj.1 h)
structure I where
  kind : Int
  mode : Int
  uid : Int
  gid : Int
  links : Int
  size : Int
  tick : Int
  blocks : List Int
  acl : List At
  dflt : List At
def zero : I := ⟨0, 0, 0, 0, 0, 0, 0, [], [], []⟩
theorem I.eq_iff {a b : I} : a = b ↔ a.kind = b.kind ∧ a.mode = b.mode ∧ a.uid = b.uid ∧ a.gid = b.gid ∧ a.links = b.links ∧ a.size = b.size ∧ a.tick = b.tick ∧ a.blocks = b.blocks ∧ a.acl = b.acl ∧ a.dflt = b.dflt := by
  constructor
  · rintro rfl; exact ⟨rfl, rfl, rfl, rfl, rfl, rfl, rfl, rfl, rfl, rfl⟩
  · intro h
    cases a; cases b
    simp only at h
    obtain ⟨rfl, rfl, rfl, rfl, rfl, rfl, rfl, rfl, rfl, rfl⟩ := h
    rfl
/-- Two inodes are equal. -/
def sameB (a b : I) : Bool := decide (a.kind = b.kind) && decide (a.mode = b.mode) && decide (a.uid = b.uid) && decide (a.gid = b.gid) && decide (a.links = b.links) && decide (a.size = b.size) && decide (a.tick = b.tick) && decide (a.blocks = b.blocks) && decide (a.acl = b.acl) && decide (a.dflt = b.dflt)
theorem same_iff (a b : I) : sameB a b = true ↔ a = b := by
  rw [I.eq_iff]
  simp [sameB, and_assoc]
theorem same_refl (a : I) : sameB a a = true := (same_iff a a).2 rfl
def needV (n : Int) : Int := if n ≤ 0 then 0 else (n - 1) / 32 + 1
theorem need_range {n : Int} (h0 : 0 ≤ n) (h : n ≤ 256) : 0 ≤ needV n ∧ needV n ≤ 8 := by
  unfold needV
  split <;> omega
def usedV (l : List Int) : List Int := l.filter fun b => decide (b ≠ -1)
/-- A number is among these. -/
def hasB (l : List Int) (x : Int) : Bool := l.any fun y => decide (y = x)
/-- Block i of a list is fine: a hole, or a number that has not stood before. -/
def blkB (l : List Int) (i : Nat) : Bool := decide (-1 ≤ l.getD i 0) && decide (l.getD i 0 ≤ 999) && (decide (l.getD i 0 = -1) || !hasB (l.take i) (l.getD i 0))
def blksB (l : List Int) (k : Nat) : Bool := (List.range k).all (blkB l)
theorem blks_succ (l : List Int) (k : Nat) : blksB l (k + 1) = (blksB l k && blkB l k) := by simp [blksB, List.range_succ]
theorem blks_mono {l : List Int} {j k : Nat} (h : blksB l k = true) (hjk : j ≤ k) : blksB l j = true := by
  unfold blksB at *
  rw [List.all_eq_true] at *
  exact fun i hi => h i (by rw [List.mem_range] at *; omega)
theorem blks_at {l : List Int} {k i : Nat} (h : blksB l k = true) (hi : i < k) : -1 ≤ l.getD i 0 ∧ l.getD i 0 ≤ 999 := by
  unfold blksB at h
  rw [List.all_eq_true] at h
  have := h i (List.mem_range.2 hi)
  simp only [blkB, Bool.and_eq_true, decide_eq_true_eq] at this
  exact this.1
def numsB (n : I) : Bool := (decide (n.kind = 1) || decide (n.kind = 2)) && modeB n.mode && userB n.uid && userB n.gid && (decide (0 ≤ n.links) && decide (n.links ≤ 1000)) && (decide (0 ≤ n.size) && decide (n.size ≤ 256)) && (decide (0 ≤ n.tick) && decide (n.tick ≤ 1000000000)) && decide ((n.blocks.length : Int) = needV n.size)
def fileB (n : I) : Bool := decide (n.kind = 1) && (!n.dflt.isEmpty || stickyB n.mode)
def restB (n : I) : Bool := blksB n.blocks n.blocks.length && !fileB n && (okB n.acl && okB n.dflt)
def okI (n : I) : Bool := if n.kind = 0 then sameB n zero else numsB n && restB n
theorem ok_zero : okI zero = true := by rw [okI, if_pos (show zero.kind = 0 from rfl)]; exact same_refl _
theorem ok_free {n : I} (h : okI n = true) (hk : n.kind = 0) : n = zero := by
  rw [okI, if_pos hk, same_iff] at h; exact h
/-- What a valid inode's parts are. -/
theorem ok_nums {n : I} (h : okI n = true) : 0 ≤ n.kind ∧ n.kind ≤ 2 ∧ 0 ≤ n.mode ∧ n.mode ≤ 2047 ∧ 0 ≤ n.uid ∧ n.uid ≤ 3 ∧ 0 ≤ n.gid ∧ n.gid ≤ 3 ∧ 0 ≤ n.links ∧ n.links ≤ 1000 ∧ 0 ≤ n.size ∧ n.size ≤ 256 ∧ 0 ≤ n.tick ∧ n.tick ≤ 1000000000 ∧ (n.blocks.length : Int) = needV n.size := by
  by_cases hk : n.kind = 0
  · have := ok_free h hk
    subst this
    refine ⟨?_, ?_, ?_, ?_, ?_, ?_, ?_, ?_, ?_, ?_, ?_, ?_, ?_, ?_, rfl⟩ <;> decide
  · rw [okI, if_neg hk, Bool.and_eq_true] at h
    have h1 := h.1
    simp only [numsB, Bool.and_eq_true, Bool.or_eq_true, decide_eq_true_eq, mode_iff, user_iff] at h1
    omega
theorem ok_blocks {n : I} (h : okI n = true) : blksB n.blocks n.blocks.length = true ∧ n.blocks.length ≤ 8 := by
  have hn := ok_nums h
  have hr := need_range hn.2.2.2.2.2.2.2.2.2.2.1 hn.2.2.2.2.2.2.2.2.2.2.2.1
  refine ⟨?_, by omega⟩
  by_cases hk : n.kind = 0
  · have := ok_free h hk
    subst this
    rfl
  · rw [okI, if_neg hk, Bool.and_eq_true] at h
    have h1 := h.2
    simp only [restB, Bool.and_eq_true] at h1
    exact h1.1.1
theorem ok_acls {n : I} (h : okI n = true) : okB n.acl = true ∧ okB n.dflt = true := by
  by_cases hk : n.kind = 0
  · have := ok_free h hk
    subst this
    exact ⟨rfl, rfl⟩
  · rw [okI, if_neg hk, Bool.and_eq_true] at h
    have h1 := h.2
    simp only [restB, Bool.and_eq_true] at h1
    exact h1.2

/-! The bytes. -/
/-- The bytes of the first k blocks: each number plus one, 0 where there is none. -/
def blkL (l : List Int) (k : Nat) : List UInt8 := (List.range k).flatMap fun i => lowL (l.getD i (-1) + 1).toNat 2
theorem blkL_length (l : List Int) (k : Nat) : (blkL l k).length = 2 * k := by
  induction k with
  | zero => rfl
  | succ k ih => rw [blkL, List.range_succ, List.flatMap_append, List.length_append, ← blkL, ih]; simp [lowL_length]; omega
theorem blkL_succ (l : List Int) (k : Nat) : blkL l (k + 1) = blkL l k ++ lowL (l.getD k (-1) + 1).toNat 2 := by
  simp [blkL, List.range_succ]
def headL (n : I) : List UInt8 := lowL n.kind.toNat 1 ++ lowL n.mode.toNat 2 ++ lowL n.uid.toNat 1 ++ lowL n.gid.toNat 1 ++ lowL n.links.toNat 2 ++ lowL n.size.toNat 2 ++ lowL n.tick.toNat 4
theorem headL_length (n : I) : (headL n).length = 13 := by simp [headL, lowL_length]
def inoL (n : I) : List UInt8 := headL n ++ blkL n.blocks 8 ++ packL n.acl ++ packL n.dflt ++ List.replicate 29 0
theorem inoL_length {n : I} (h : okI n = true) : (inoL n).length = 96 := by
  have ha := ok_acls h
  simp only [inoL, List.length_append, headL_length, blkL_length, packL_len (ok_len ha.1), packL_len (ok_len ha.2), List.length_replicate]
def packI (n : I) : ByteArray := if okI n = true then ⟨(inoL n).toArray⟩ else ⟨#[]⟩
theorem packI_size {n : I} (h : okI n = true) : (packI n).size = 96 := by
  rw [packI, if_pos h]
  show (inoL n).toArray.size = 96
  rw [List.size_toArray, inoL_length h]
theorem packI_no {n : I} (h : okI n = false) : packI n = ⟨#[]⟩ := by rw [packI, if_neg (by rw [h]; simp)]
/-- A number that lies at a place of a text. -/
def num (s : ByteArray) (a k : Nat) : Int := (getL (seg s a k) : Nat)
theorem foldl_low (n : Nat) : ∀ (j a : Nat), (lowL n j).foldl (fun a b => a * 256 + b.toNat) a = a * 256 ^ j + n % 256 ^ j := by
  intro j
  induction j with
  | zero => intro a; simp [lowL, Nat.mod_one]
  | succ j ih =>
    intro a
    rw [lowL, List.foldl_cons, ih, byteN_toNat, Nat.pow_succ, Nat.mod_mul, Nat.add_mul, Nat.mul_assoc, Nat.mul_comm 256 (256 ^ j), Nat.add_assoc, Nat.mul_comm (n / 256 ^ j % 256)]
    omega
theorem getL_low (n j : Nat) (h : n < 256 ^ j) : getL (lowL n j) = n := by
  have := foldl_low n j 0
  rw [Nat.mod_eq_of_lt h] at this
  simpa [getL] using this
theorem seg_mid {s : ByteArray} {A B C : List UInt8} {a k : Nat} (h : s.data.toList = A ++ B ++ C) (ha : A.length = a) (hk : B.length = k) : seg s a k = B := by
  unfold seg
  rw [h, List.append_assoc, List.drop_append_of_le_length (by omega), List.drop_eq_nil_of_le (by omega), List.nil_append, List.take_append_of_le_length (by omega), List.take_of_length_le (by omega)]
/-- What bytes stand for, read field by field. -/
def needN (s : ByteArray) : Nat := min (needV (num s 7 2)).toNat 8
def readB (s : ByteArray) (k : Nat) : List Int := (List.range k).map fun i => num s (13 + 2 * i) 2 - 1
def optL (x : Option (List At)) : List At := match x with
  | some l => l
  | none => []
noncomputable def readI (s : ByteArray) : I := ⟨num s 0 1, num s 1 2, num s 3 1, num s 4 1, num s 5 2, num s 7 2, num s 9 4, readB s (needN s), optL (unpackV (s.extract 29 48)), optL (unpackV (s.extract 48 67))⟩
theorem readB_succ (s : ByteArray) (k : Nat) : readB s (k + 1) = readB s k ++ [num s (13 + 2 * k) 2 - 1] := by simp [readB, List.range_succ]
theorem readB_length (s : ByteArray) (k : Nat) : (readB s k).length = k := by simp [readB]
theorem num_seg {s : ByteArray} {A B C : List UInt8} {a k n : Nat} (h : s.data.toList = A ++ B ++ C) (ha : A.length = a) (hB : B = lowL n k) (hn : n < 256 ^ k) : num s a k = (n : Int) := by
  have hk : B.length = k := by rw [hB, lowL_length]
  rw [num, seg_mid h ha hk, hB, getL_low n k hn]
theorem num_of {s : ByteArray} {A B C : List UInt8} {a k : Nat} {x : Int} (h : s.data.toList = A ++ B ++ C) (ha : A.length = a) (hB : B = lowL x.toNat k) (h0 : 0 ≤ x) (hx : x < 256 ^ k) : num s a k = x := by
  have hn : x.toNat < 256 ^ k := by
    have e : ((256 ^ k : Nat) : Int) = (256 : Int) ^ k := Int.natCast_pow 256 k
    generalize (256 : Int) ^ k = P at hx e
    generalize 256 ^ k = Q at e ⊢
    omega
  rw [num_seg h ha hB hn]; omega
theorem blk_mid (l : List Int) {i k : Nat} (h : i < k) : ∃ C, blkL l k = blkL l i ++ lowL (l.getD i (-1) + 1).toNat 2 ++ C := by
  induction k with
  | zero => omega
  | succ k ih =>
    rcases Nat.lt_or_ge i k with hj | hj
    · obtain ⟨C, hC⟩ := ih hj
      exact ⟨C ++ lowL (l.getD k (-1) + 1).toNat 2, by rw [blkL_succ, hC]; simp only [List.append_assoc]⟩
    · obtain rfl : i = k := by omega
      exact ⟨[], by rw [blkL_succ, List.append_nil]⟩
theorem getD_one {l : List Int} {i : Nat} (h : i < l.length) (d e : Int) : l.getD i d = l.getD i e := by
  rw [List.getD_eq_getElem?_getD, List.getD_eq_getElem?_getD, List.getElem?_eq_getElem h]; rfl
theorem ext_mid {s : ByteArray} {A B C : List UInt8} {a b : Nat} (h : s.data.toList = A ++ B ++ C) (ha : A.length = a) (hb : a + B.length = b) : s.extract a b = ⟨B.toArray⟩ := by
  apply ext
  rw [ByteArray.data_extract, Array.toList_extract, h]
  simp only [List.extract_eq_take_drop]
  rw [List.append_assoc, List.drop_append_of_le_length (by omega), List.drop_eq_nil_of_le (by omega), List.nil_append, List.take_append_of_le_length (by omega), List.take_of_length_le (by omega)]
/-- An inode's bytes stand for it. -/
theorem read_pack {n : I} (h : okI n = true) : readI (packI n) = n := by
  have f := ok_nums h
  have hb := ok_blocks h
  have ha := ok_acls h
  have e : (packI n).data.toList = inoL n := by rw [packI, if_pos h]
  generalize packI n = s at e
  obtain ⟨f1, f2, f3, f4, f5, f6, f7, f8, f9, f10, f11, f12, f13, f14, f15⟩ := f
  have hA := packL_len (ok_len ha.1)
  have hD := packL_len (ok_len ha.2)
  have hpa : packV n.acl = ⟨(packL n.acl).toArray⟩ := by rw [packV, if_pos ha.1]
  have hpd : packV n.dflt = ⟨(packL n.dflt).toArray⟩ := by rw [packV, if_pos ha.2]
  have hr := need_range f11 f12
  have n7 : num s 7 2 = n.size := num_of (A := lowL n.kind.toNat 1 ++ lowL n.mode.toNat 2 ++ lowL n.uid.toNat 1 ++ lowL n.gid.toNat 1 ++ lowL n.links.toNat 2) (B := lowL n.size.toNat 2) (C := lowL n.tick.toNat 4 ++ blkL n.blocks 8 ++ packL n.acl ++ packL n.dflt ++ List.replicate 29 0) (by rw [e]; simp only [inoL, headL, List.append_assoc]) (by simp [lowL_length]) rfl f11 (by omega)
  have hneed : needN s = n.blocks.length := by
    rw [needN, n7]; omega
  refine I.eq_iff.2 ⟨?_, ?_, ?_, ?_, ?_, n7, ?_, ?_, ?_, ?_⟩
  · exact num_of (A := []) (B := lowL n.kind.toNat 1) (C := lowL n.mode.toNat 2 ++ lowL n.uid.toNat 1 ++ lowL n.gid.toNat 1 ++ lowL n.links.toNat 2 ++ lowL n.size.toNat 2 ++ lowL n.tick.toNat 4 ++ blkL n.blocks 8 ++ packL n.acl ++ packL n.dflt ++ List.replicate 29 0) (by rw [e]; simp only [inoL, headL, List.append_assoc, List.nil_append]) rfl rfl f1 (by omega)
  · exact num_of (A := lowL n.kind.toNat 1) (B := lowL n.mode.toNat 2) (C := lowL n.uid.toNat 1 ++ lowL n.gid.toNat 1 ++ lowL n.links.toNat 2 ++ lowL n.size.toNat 2 ++ lowL n.tick.toNat 4 ++ blkL n.blocks 8 ++ packL n.acl ++ packL n.dflt ++ List.replicate 29 0) (by rw [e]; simp only [inoL, headL, List.append_assoc]) (by simp [lowL_length]) rfl f3 (by omega)
  · exact num_of (A := lowL n.kind.toNat 1 ++ lowL n.mode.toNat 2) (B := lowL n.uid.toNat 1) (C := lowL n.gid.toNat 1 ++ lowL n.links.toNat 2 ++ lowL n.size.toNat 2 ++ lowL n.tick.toNat 4 ++ blkL n.blocks 8 ++ packL n.acl ++ packL n.dflt ++ List.replicate 29 0) (by rw [e]; simp only [inoL, headL, List.append_assoc]) (by simp [lowL_length]) rfl f5 (by omega)
  · exact num_of (A := lowL n.kind.toNat 1 ++ lowL n.mode.toNat 2 ++ lowL n.uid.toNat 1) (B := lowL n.gid.toNat 1) (C := lowL n.links.toNat 2 ++ lowL n.size.toNat 2 ++ lowL n.tick.toNat 4 ++ blkL n.blocks 8 ++ packL n.acl ++ packL n.dflt ++ List.replicate 29 0) (by rw [e]; simp only [inoL, headL, List.append_assoc]) (by simp [lowL_length]) rfl f7 (by omega)
  · exact num_of (A := lowL n.kind.toNat 1 ++ lowL n.mode.toNat 2 ++ lowL n.uid.toNat 1 ++ lowL n.gid.toNat 1) (B := lowL n.links.toNat 2) (C := lowL n.size.toNat 2 ++ lowL n.tick.toNat 4 ++ blkL n.blocks 8 ++ packL n.acl ++ packL n.dflt ++ List.replicate 29 0) (by rw [e]; simp only [inoL, headL, List.append_assoc]) (by simp [lowL_length]) rfl f9 (by omega)
  · exact num_of (A := lowL n.kind.toNat 1 ++ lowL n.mode.toNat 2 ++ lowL n.uid.toNat 1 ++ lowL n.gid.toNat 1 ++ lowL n.links.toNat 2 ++ lowL n.size.toNat 2) (B := lowL n.tick.toNat 4) (C := blkL n.blocks 8 ++ packL n.acl ++ packL n.dflt ++ List.replicate 29 0) (by rw [e]; simp only [inoL, headL, List.append_assoc]) (by simp [lowL_length]) rfl f13 (by omega)
  · show readB s (needN s) = n.blocks
    rw [hneed]
    refine List.ext_getElem (by rw [readB_length]) fun i h1 h2 => ?_
    simp only [readB, List.getElem_map, List.getElem_range]
    obtain ⟨C, hC⟩ := blk_mid n.blocks (show i < 8 by omega)
    have hbi := blks_at hb.1 h2
    have hgd := getD_one h2 (-1) 0
    have hge : n.blocks.getD i 0 = n.blocks[i] := by rw [List.getD_eq_getElem?_getD, List.getElem?_eq_getElem h2]; rfl
    have := num_of (s := s) (a := 13 + 2 * i) (k := 2) (x := n.blocks.getD i (-1) + 1) (A := headL n ++ blkL n.blocks i) (B := lowL (n.blocks.getD i (-1) + 1).toNat 2) (C := C ++ packL n.acl ++ packL n.dflt ++ List.replicate 29 0) (by rw [e]; simp only [inoL, hC, List.append_assoc]) (by rw [List.length_append, headL_length, blkL_length]) rfl (by omega) (by omega)
    rw [this, hgd, hge]; omega
  · show optL (unpackV (s.extract 29 48)) = n.acl
    rw [ext_mid (A := headL n ++ blkL n.blocks 8) (B := packL n.acl) (C := packL n.dflt ++ List.replicate 29 0) (by rw [e]; simp only [inoL, List.append_assoc]) (by rw [List.length_append, headL_length, blkL_length]) (by rw [hA]), ← hpa, unpack_of ha.1]; rfl
  · show optL (unpackV (s.extract 48 67)) = n.dflt
    rw [ext_mid (A := headL n ++ blkL n.blocks 8 ++ packL n.acl) (B := packL n.dflt) (C := List.replicate 29 0) (by rw [e]; simp only [inoL, List.append_assoc]) (by rw [List.length_append, List.length_append, headL_length, blkL_length, hA]) (by rw [hD]), ← hpd, unpack_of ha.2]; rfl
theorem packI_inj {n m : I} (hn : okI n = true) (hm : okI m = true) (h : packI n = packI m) : n = m := by
  rw [← read_pack hn, h, read_pack hm]
/-- The inode whose bytes are s. -/
noncomputable def unpackI (s : ByteArray) : I × Bool := if packI (readI s) = s ∧ okI (readI s) = true then (readI s, true) else (zero, false)
theorem unpackI_of {n : I} (h : okI n = true) : unpackI (packI n) = (n, true) := by
  rw [unpackI, read_pack h, if_pos ⟨rfl, h⟩]
theorem unpackI_none {s : ByteArray} (h : ∀ n, okI n = true → packI n ≠ s) : unpackI s = (zero, false) := by
  rw [unpackI, if_neg fun hh => h _ hh.2 hh.1]
theorem unpackI_short {s : ByteArray} (h : s.size ≠ 96) : unpackI s = (zero, false) := unpackI_none fun n hn e => h (by rw [← e]; exact packI_size hn)
end Go.Proofs.YtjefefedhhloiaaGreatDoor.InoV
