/- A part. -/
import Derived.Test.YthppbcnejapbiaaGreatDoorCredV
import Derived.Test.YthppbcnejapbiaaGreatDoorGetNumber
namespace Go.Proofs.YthppbcnejapbiaaGreatDoor.InoV
open Go
open AclV (At a0 okB ok_len)
open CredV (userB user_iff)
open ModeV (modeB mode_iff stickyB)
open Nums (lowL lowL_length getL byteN byteN_toNat)
open GetNumber (seg)
set_option linter.unusedVariables false
structure I where
 kind : Int
 mode : Int
 uid : Int
 gid : Int
 links : Int
 size : Int
 tick : Int
 blocks : List Int
 acl : List At
 dflt : List At
def zero : I := ⟨0, 0, 0, 0, 0, 0, 0, [], [], []⟩
theorem I.eq_iff {a b : I} : a = b ↔ a.kind = b.kind /\ a.mode = b.mode /\ a.uid = b.uid /\ a.gid = b.gid /\ a.links = b.links /\ a.size = b.size /\ a.tick = b.tick /\ a.blocks = b.blocks /\ a.acl = b.acl /\ a.dflt = b.dflt := by
 constructor
 ·rintro rfl; exact ⟨rfl, rfl, rfl, rfl, rfl, rfl, rfl, rfl, rfl, rfl⟩
 ·intro h
  cases a; cases b
  simp only at h
  obtain ⟨rfl, rfl, rfl, rfl, rfl, rfl, rfl, rfl, rfl, rfl⟩ := h
  rfl
def sameB (a b : I) : Bool := decide (a.kind = b.kind) && decide (a.mode = b.mode) && decide (a.uid = b.uid) && decide (a.gid = b.gid) && decide (a.links = b.links) && decide (a.size = b.size) && decide (a.tick = b.tick) && decide (a.blocks = b.blocks) && decide (a.acl = b.acl) && decide (a.dflt = b.dflt)
theorem same_iff (a b : I) : sameB a b = true ↔ a = b := by
 rw [I.eq_iff]
 simp [sameB, and_assoc]
def needV (n : Int) : Int := if n <= 0 then 0 else (n - 1) / 32 + 1
theorem need_range {n : Int} (h0 : 0 <= n) (h : n <= 256) : 0 <= needV n /\ needV n <= 8 := by
 unfold needV
 split <;> omega
def usedV (l : List Int) : List Int := l.filter fun b => decide (b ≠ -1)
def hasB (l : List Int) (x : Int) : Bool := l.any fun y => decide (y = x)
def blkB (l : List Int) (i : Nat) : Bool := decide (-1 <= l.getD i 0) && decide (l.getD i 0 <= 999) && (decide (l.getD i 0 = -1) || !hasB (l.take i) (l.getD i 0))
def blksB (l : List Int) (k : Nat) : Bool := (List.range k).all (blkB l)
theorem blks_succ (l : List Int) (k : Nat) : blksB l (k + 1) = (blksB l k && blkB l k) := by simp [blksB, List.range_succ]
def numsB (n : I) : Bool := (decide (n.kind = 1) || decide (n.kind = 2)) && modeB n.mode && userB n.uid && userB n.gid && (decide (0 <= n.links) && decide (n.links <= 1000)) && (decide (0 <= n.size) && decide (n.size <= 256)) && (decide (0 <= n.tick) && decide (n.tick <= 1000000000)) && decide ((n.blocks.length : Int) = needV n.size)
def fileB (n : I) : Bool := decide (n.kind = 1) && (!n.dflt.isEmpty || stickyB n.mode)
def restB (n : I) : Bool := blksB n.blocks n.blocks.length && !fileB n && (okB n.acl && okB n.dflt)
def okI (n : I) : Bool := if n.kind = 0 then sameB n zero else numsB n && restB n
theorem ok_free {n : I} (h : okI n = true) (hk : n.kind = 0) : n = zero := by
 rw [okI, if_pos hk, same_iff] at h; exact h
theorem ok_nums {n : I} (h : okI n = true) : 0 <= n.kind /\ n.kind <= 2 /\ 0 <= n.mode /\ n.mode <= 2047 /\ 0 <= n.uid /\ n.uid <= 3 /\ 0 <= n.gid /\ n.gid <= 3 /\ 0 <= n.links /\ n.links <= 1000 /\ 0 <= n.size /\ n.size <= 256 /\ 0 <= n.tick /\ n.tick <= 1000000000 /\ (n.blocks.length : Int) = needV n.size := by
 by_cases hk : n.kind = 0
 ·have := ok_free h hk
  subst this
  refine ⟨?_, ?_, ?_, ?_, ?_, ?_, ?_, ?_, ?_, ?_, ?_, ?_, ?_, ?_, rfl⟩ <;> decide
 ·rw [okI, if_neg hk, Bool.and_eq_true] at h
  have h1 := h.1
  simp only [numsB, Bool.and_eq_true, Bool.or_eq_true, decide_eq_true_eq, mode_iff, user_iff] at h1
  omega
theorem ok_blocks {n : I} (h : okI n = true) : blksB n.blocks n.blocks.length = true /\ n.blocks.length <= 8 := by
 have hn := ok_nums h
 have hr := need_range hn.2.2.2.2.2.2.2.2.2.2.1 hn.2.2.2.2.2.2.2.2.2.2.2.1
 refine ⟨?_, by omega⟩
 by_cases hk : n.kind = 0
 ·have := ok_free h hk
  subst this
  rfl
 ·rw [okI, if_neg hk, Bool.and_eq_true] at h
  have h1 := h.2
  simp only [restB, Bool.and_eq_true] at h1
  exact h1.1.1
theorem ok_acls {n : I} (h : okI n = true) : okB n.acl = true /\ okB n.dflt = true := by
 by_cases hk : n.kind = 0
 ·have := ok_free h hk
  subst this
  exact ⟨rfl, rfl⟩
 ·rw [okI, if_neg hk, Bool.and_eq_true] at h
  have h1 := h.2
  simp only [restB, Bool.and_eq_true] at h1
  exact h1.2
end Go.Proofs.YthppbcnejapbiaaGreatDoor.InoV
