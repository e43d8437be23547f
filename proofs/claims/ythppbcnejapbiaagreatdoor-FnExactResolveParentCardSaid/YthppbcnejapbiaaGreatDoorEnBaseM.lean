/- Helper texts joined, one behind another (a claim has at most 60 files): what each proves, its own head says: YthppbcnejapbiaaGreatDoorCrS, YthppbcnejapbiaaGreatDoorPaV, YthppbcnejapbiaaGreatDoorPwV, YthppbcnejapbiaaGreatDoorFsWm, YthppbcnejapbiaaGreatDoorFsOk, YthppbcnejapbiaaGreatDoorMp, YthppbcnejapbiaaGreatDoorMr, YthppbcnejapbiaaGreatDoorAl, YthppbcnejapbiaaGreatDoorAw, YthppbcnejapbiaaGreatDoorAs, YthppbcnejapbiaaGreatDoorCrF, YthppbcnejapbiaaGreatDoorPwA, YthppbcnejapbiaaGreatDoorPwM. -/
import Derived.Test.YthppbcnejapbiaaGreatDoorCredV
import Derived.Test.YthppbcnejapbiaaGreatDoorEnBaseA
import Derived.Test.YthppbcnejapbiaaGreatDoorSplitC
import Derived.Test.YthppbcnejapbiaaGreatDoorFsBaseC
import Derived.Test.YthppbcnejapbiaaGreatDoorFsBaseD
import Derived.Test.YthppbcnejapbiaaGreatDoorFsBaseA
import Derived.Test.YthppbcnejapbiaaGreatDoorFsBaseB
import Derived.Test.YthppbcnejapbiaaGreatDoorFam
import Derived.Test.YthppbcnejapbiaaGreatDoorEnBaseO

-- YthppbcnejapbiaaGreatDoorCrS
/- Credentials as a struct of fields, and as the triple that the facts on permissions speak of. No condition. -/
namespace Go.Proofs.YthppbcnejapbiaaGreatDoor.CrS
structure C where
  uid : Int
  gid : Int
  groups : List Int
/-- As a triple. -/
def tri (c : C) : CredV.Cr := (c.uid, c.gid, c.groups)
end Go.Proofs.YthppbcnejapbiaaGreatDoor.CrS

-- YthppbcnejapbiaaGreatDoorPaV
/- Plain facts on absolute paths: the names that a path consists of, told in the program's way and in the model's; the path of names. No condition of its own. -/
namespace Go.Proofs.YthppbcnejapbiaaGreatDoor.PaV
open SplitAny (parts)
open SplitC (splitC parts_eq splitC_ne)
open EnN (nameB)
set_option linter.unusedVariables false

def slB : ByteArray := ⟨#[47]⟩
def restB (p : ByteArray) : ByteArray := p.extract 1 p.size
def isRoot (p : ByteArray) : Bool := p.toList == [47]
def okN (l : List ByteArray) : Bool := decide (l.length ≤ 8) && l.all nameB
/-- The names of a path, and whether it is one. -/
def splitV (p : ByteArray) : List ByteArray × Bool :=
  if isRoot p = true then ([], true)
  else if 0 < p.size ∧ p.data.toList.getD 0 0 = 47 ∧ okN (parts (restB p) slB) = true then (parts (restB p) slB, true) else ([], false)
theorem ba_len (s : ByteArray) : s.data.toList.length = s.size := by simp
theorem ext_data (r : ByteArray) (a b : Nat) : (r.extract a b).data.toList = (r.data.toList.take b).drop a := by
  rw [ByteArray.data_extract, Array.toList_extract, List.extract_eq_drop_take', List.drop_take]
theorem rest_list (p : ByteArray) : (restB p).data.toList = p.data.toList.drop 1 := by
  unfold restB
  rw [ext_data, List.take_of_length_le (by rw [ba_len]; exact Nat.le_refl _)]
theorem has47 : slB.data.toList.contains (47 : UInt8) = true := by decide
theorem hasnot {c : UInt8} (h : c ≠ 47) : slB.data.toList.contains c = false := by
  show [(47 : UInt8)].contains c = false
  simp [h]
theorem parts_slash {p : ByteArray} {l : List UInt8} (h : p.data.toList = 47 :: l) : parts p slB = ⟨#[]⟩ :: parts (restB p) slB := by
  rw [parts_eq, parts_eq, rest_list, h, splitC, if_pos has47]
  rfl
theorem parts_other {p : ByteArray} {c : UInt8} {l : List UInt8} (h : p.data.toList = c :: l) (hc : c ≠ 47) : ∃ x t, parts p slB = x :: t ∧ x.data.toList ≠ [] := by
  rw [parts_eq, h, splitC, if_neg (by rw [hasnot hc]; simp)]
  cases hs : splitC (slB.data.toList.contains ·) l with
  | nil => exact absurd hs (splitC_ne _ _)
  | cons a t => exact ⟨_, _, rfl, by simp⟩
theorem parts_none {p : ByteArray} (h : p.data.toList = []) : parts p slB = [⟨#[]⟩] := by
  rw [parts_eq, h]; rfl
theorem parts_cons (p : ByteArray) : ∃ x t, parts p slB = x :: t := by
  rw [parts_eq]
  cases hs : splitC (slB.data.toList.contains ·) p.data.toList with
  | nil => exact absurd hs (splitC_ne _ _)
  | cons a t => exact ⟨_, _, rfl⟩
/-- The program's way. -/
theorem split_prog {p x : ByteArray} {t : List ByteArray} (hr : isRoot p = false) (h : parts p slB = x :: t) :
    splitV p = if (0 < t.length ∧ t.length ≤ 8) ∧ x.data.toList = [] ∧ t.all nameB = true then (t, true) else ([], false) := by
  unfold splitV okN
  rw [if_neg (by rw [hr]; simp)]
  cases hp : p.data.toList with
  | nil =>
    have e := parts_none hp
    rw [h] at e
    cases e
    have hz : p.size = 0 := by rw [← ba_len, hp]; rfl
    rw [if_neg (by omega), if_neg (by simp)]
  | cons c l =>
    have hz : 0 < p.size := by rw [← ba_len, hp]; simp
    by_cases hc : c = 47
    · subst hc
      have e := parts_slash hp
      rw [h] at e
      cases e
      obtain ⟨y, u, hy⟩ := parts_cons (restB p)
      have hl : 0 < (parts (restB p) slB).length := by rw [hy]; simp
      by_cases h8 : (parts (restB p) slB).length ≤ 8
      · by_cases ha : (parts (restB p) slB).all nameB = true
        · rw [if_pos ⟨hz, rfl, by rw [ha, decide_eq_true h8]; rfl⟩, if_pos ⟨⟨hl, h8⟩, rfl, ha⟩]
        · rw [if_neg (fun hh => ha (by have := hh.2.2; rw [Bool.and_eq_true] at this; exact this.2)), if_neg (fun hh => ha hh.2.2)]
      · rw [if_neg (fun hh => h8 (by have := hh.2.2; rw [Bool.and_eq_true] at this; exact of_decide_eq_true this.1)), if_neg (fun hh => h8 hh.1.2)]
    · obtain ⟨y, u, hy, hne⟩ := parts_other hp hc
      rw [h] at hy
      cases hy
      rw [if_neg (fun hh => hc hh.2.1), if_neg (fun hh => hne hh.2.1)]
theorem split_no {p : ByteArray} (hr : isRoot p = false) (h : ¬ (0 < p.size ∧ p.data.toList.getD 0 0 = 47 ∧ okN (parts (restB p) slB) = true)) : splitV p = ([], false) := by
  unfold splitV
  rw [if_neg (by rw [hr]; simp), if_neg h]
theorem split_yes {p : ByteArray} (hr : isRoot p = false) (h0 : 0 < p.size) (h1 : p.data.toList.getD 0 0 = 47) (h2 : okN (parts (restB p) slB) = true) : splitV p = (parts (restB p) slB, true) := by
  unfold splitV
  rw [if_neg (by rw [hr]; simp), if_pos ⟨h0, h1, h2⟩]
theorem part_size (s b : ByteArray) : ∀ x ∈ parts s b, x.size ≤ s.size := by
  have hk : ∀ k, k ≤ s.size → ∀ x ∈ (SplitAny.cutL s b k).1, x.size ≤ s.size := by
    intro k
    induction k with
    | zero => intro _ x hx; cases hx
    | succ k ih =>
      intro hk x hx
      rw [SplitAny.cutL] at hx
      split at hx
      · rcases List.mem_append.1 hx with h | h
        · exact ih (by omega) x h
        · rw [List.mem_singleton] at h
          rw [h, ByteArray.size_extract]; omega
      · exact ih (by omega) x hx
  intro x hx
  rcases List.mem_append.1 hx with h | h
  · exact hk _ (Nat.le_refl _) x h
  · rw [List.mem_singleton] at h
    rw [h, ByteArray.size_extract]; omega
theorem rest_size (p : ByteArray) : (restB p).size = p.size - 1 := by unfold restB; rw [ByteArray.size_extract]; omega
theorem parts_length (s b : ByteArray) : (parts s b).length ≤ s.size + 1 := by
  have := (SplitAny.cutL_le s b s.size).1
  simp [parts]; omega
theorem split_len (p : ByteArray) : (splitV p).1.length ≤ 8 := by
  unfold splitV okN
  split
  · exact Nat.zero_le _
  · split
    · rename_i h
      have := h.2.2
      rw [Bool.and_eq_true] at this
      exact of_decide_eq_true this.1
    · exact Nat.zero_le _
end Go.Proofs.YthppbcnejapbiaaGreatDoor.PaV

-- YthppbcnejapbiaaGreatDoorPwV
/- Plain facts on the resolution of paths: who may pass an inode, where names lead. No condition of its own. -/
namespace Go.Proofs.YthppbcnejapbiaaGreatDoor.PwV
open FsV (F okF)
open FsY (ino hasObjB)
open FsZ (GoodF)
open EnV EnF
open CredV (allowedV credB)
open CrS (tri)
open PaV (splitV)
open EnN (nameB)
set_option linter.unusedVariables false

/-- Who has all bits of want for an inode. -/
def accB (f : F) (c : CrS.C) (k : Nat) (want : Int) : Bool := allowedV (tri c) (ino f k).uid (ino f k).gid (ino f k).mode (ino f k).acl want
def mayV (f : F) (c : CrS.C) (i want : Int) : Bool := hasObjB f i && accB f c i.toNat want
/-- Why one gets no further. -/
def passC (f : F) (c : CrS.C) (k : Nat) : Int := if (ino f k).kind = 2 then (if accB f c k 1 = true then 0 else 2) else 5
/-- Where names lead from an inode on. -/
def walkV (f : F) (c : CrS.C) : List ByteArray → Nat → Nat × Int
  | [], k => if (ino f k).kind = 0 then (0, 3) else (k, 0)
  | s :: r, k => if passC f c k = 0 then (match findL (entsV f k) s with | none => (0, 3) | some e => walkV f c r e.2.toNat) else (0, passC f c k)
theorem walk_nil_no {f : F} {c : CrS.C} {k : Nat} (h : (ino f k).kind = 0) : walkV f c [] k = (0, 3) := by rw [walkV, if_pos h]
theorem walk_nil {f : F} {c : CrS.C} {k : Nat} (h : (ino f k).kind ≠ 0) : walkV f c [] k = (k, 0) := by rw [walkV, if_neg h]
theorem walk_stop {f : F} {c : CrS.C} {k : Nat} {s : ByteArray} {r : List ByteArray} (h : passC f c k ≠ 0) : walkV f c (s :: r) k = (0, passC f c k) := by rw [walkV, if_neg h]
theorem walk_miss {f : F} {c : CrS.C} {k : Nat} {s : ByteArray} {r : List ByteArray} (h : passC f c k = 0) (h2 : findL (entsV f k) s = none) : walkV f c (s :: r) k = (0, 3) := by rw [walkV, if_pos h, h2]
theorem walk_go {f : F} {c : CrS.C} {k : Nat} {s : ByteArray} {r : List ByteArray} {e : ByteArray × Int} (h : passC f c k = 0) (h2 : findL (entsV f k) s = some e) : walkV f c (s :: r) k = walkV f c r e.2.toNat := by rw [walkV, if_pos h, h2]
theorem pass_dir {f : F} {c : CrS.C} {k : Nat} (h : passC f c k = 0) : (ino f k).kind = 2 := by
  unfold passC at h
  split at h
  · assumption
  · cases h
theorem find_mem {l : List (ByteArray × Int)} {s : ByteArray} {e : ByteArray × Int} (h : findL l s = some e) : e ∈ l := List.mem_of_find?_eq_some h
theorem ents_mem {f : F} {k : Nat} {e : ByteArray × Int} (h : e ∈ entsV f k) : nameB e.1 = true ∧ 0 ≤ e.2 ∧ e.2 ≤ 19 := by
  unfold entsV entsL at h
  rw [List.mem_filterMap] at h
  obtain ⟨j, _, hj⟩ := h
  obtain ⟨nm, i⟩ := e
  have := ent_facts hj
  exact ⟨this.1, this.2.1, this.2.2.1⟩
theorem find_in {f : F} {k : Nat} {s : ByteArray} {e : ByteArray × Int} (h : findL (entsV f k) s = some e) : e.2.toNat < 20 ∧ (e.2.toNat : Int) = e.2 := by
  have := ents_mem (find_mem h)
  omega
/-- The program looks an entry up in whatever inode; where one may pass, it is a directory. -/
theorem find_pass {f : F} {c : CrS.C} {k : Nat} {s : ByteArray} (hok : okF f = true) (hk : k < 20) (h : passC f c k = 0) : findV f (k : Int) s = (findL (entsV f k) s).map (·.2) := by
  have h2 := pass_dir h
  unfold findV
  rw [if_pos, Int.toNat_natCast]
  refine EnD.dirC_dir ?_ (by rw [Int.toNat_natCast]; exact h2)
  unfold hasObjB
  rw [Int.toNat_natCast, h2, hok, decide_eq_true (show (0 : Int) ≤ k by omega), decide_eq_true (show (k : Int) ≤ 19 by omega)]
  rfl
theorem walk_lt {f : F} {c : CrS.C} : ∀ {l : List ByteArray} {k : Nat}, k < 20 → (walkV f c l k).1 < 20
  | [], k, h => by
    rw [walkV]
    split
    · exact Nat.zero_lt_succ _
    · exact h
  | s :: r, k, h => by
    rw [walkV]
    split
    · cases hf : findL (entsV f k) s with
      | none => exact Nat.zero_lt_succ _
      | some e => exact walk_lt (find_in hf).1
    · exact Nat.zero_lt_succ _
def resolveV (f : F) (c : CrS.C) (p : ByteArray) : Int × Int :=
  if okF f = true ∧ credB (tri c) = true then (if (splitV p).2 = true then (((walkV f c (splitV p).1 0).1 : Int), (walkV f c (splitV p).1 0).2) else (0, 11)) else (0, 1)
def parentV (f : F) (c : CrS.C) (p : ByteArray) : Int × ByteArray × Int :=
  if okF f = true ∧ credB (tri c) = true then
    if (splitV p).2 = true ∧ (splitV p).1 ≠ [] then
      if (walkV f c (splitV p).1.dropLast 0).2 = 0 then
        if passC f c (walkV f c (splitV p).1.dropLast 0).1 = 0 then (((walkV f c (splitV p).1.dropLast 0).1 : Int), (splitV p).1.getLastD ⟨#[]⟩, 0) else (0, ⟨#[]⟩, passC f c (walkV f c (splitV p).1.dropLast 0).1)
      else (0, ⟨#[]⟩, (walkV f c (splitV p).1.dropLast 0).2)
    else (0, ⟨#[]⟩, 11)
  else (0, ⟨#[]⟩, 1)
end Go.Proofs.YthppbcnejapbiaaGreatDoor.PwV

-- YthppbcnejapbiaaGreatDoorFsWm
/- Plain facts on the model's writing block by block, its allocations on the way included: what is done so far and the file system as it stands then. Conditions: as each theorem types them. -/
namespace Go.Proofs.YthppbcnejapbiaaGreatDoor.FsWm
open InoV (I okI usedV hasB needV)
open FsV FsX FsY FsZ FsZw
open CoR (mid mid_zero mid_len mid_at mid_set mid_skip)
set_option linter.unusedVariables false

/-- While holes of a row are being filled: l0 the row, o where the window begins, 'pre' what its first blocks have become; us what is in use in the whole file system. -/
structure Fil (u : Nat) (us l0 : List Int) (o : Nat) (pre : List Int) : Prop where
  fit : o + pre.length ≤ l0.length
  old : ∀ t (h : t < pre.length), l0.getD (o + t) 0 ≠ -1 → pre[t] = l0.getD (o + t) 0
  new : ∀ t (h : t < pre.length), l0.getD (o + t) 0 = -1 → ∃ k, k < 14 ∧ pre[t] = ((14 * u + k : Nat) : Int) ∧ pre[t] ∉ us
  one : ∀ t t' (h : t < pre.length) (h' : t' < pre.length), t < t' → l0.getD (o + t) 0 = -1 → l0.getD (o + t') 0 = -1 → pre[t] ≠ pre[t']
end Go.Proofs.YthppbcnejapbiaaGreatDoor.FsWm

-- YthppbcnejapbiaaGreatDoorFsOk
/- Plain facts: writing, resizing, freeing and moving keep a file system valid; what a valid file system takes up; what its contents read as afterwards. Conditions: as each theorem types them. -/
namespace Go.Proofs.YthppbcnejapbiaaGreatDoor.FsOk
open InoV (I okI usedV hasB needV)
open FsV FsX FsY FsZ FsZw FsZr FsWm
set_option linter.unusedVariables false

/-! What a valid file system takes up. -/
theorem inode_cost {n : I} (h : okI n = true) : In.cost n ≤ 20 := by
  have h1 := (InoV.ok_blocks h).2
  have h2 := AclV.ok_len (InoV.ok_acls h).1
  have h3 := AclV.ok_len (InoV.ok_acls h).2
  unfold In.cost NiF.cost AeF.cost
  omega
/-! When an inode is valid. -/
/-! When the file system with another inode is valid. -/
theorem has_of {f : F} {k : Nat} (g : GoodF f k) (h : (ino f k).kind ≠ 0) : hasObjB f k = true := by
  unfold hasObjB
  have := g.lt
  simp [g.ok, h]
  omega
end Go.Proofs.YthppbcnejapbiaaGreatDoor.FsOk

-- YthppbcnejapbiaaGreatDoorMp
/- Contracts and plain facts that a law of this seat leans on. Conditions: as each theorem types them. -/
namespace Go.Proofs.YthppbcnejapbiaaGreatDoor.Mp
open Go.ChangeShapes Go.WideShapes Go.ChangeAt Go.RowKit
open Bx CredV ModeV
open Ni (HoldsN)
open Dk (ret_bool)
open Strs (ret_int)
set_option linter.unusedVariables false

def res (x : Int × Bool) : Ending := .returned (.tuple #[.int .i64 x.1, .bool x.2])
theorem str_ne {r s : ByteArray} (h : r ≠ s) : (r.toList == s.toList) = false := by
  rw [Lib.toList_data, Lib.toList_data]
  exact beq_eq_false_iff_ne.2 fun he => h (ByteArray.ext (Array.toList_inj.1 he))
theorem take_snoc (s : ByteArray) (k : Nat) (h : k < s.size) : s.data.toList.take (k + 1) = s.data.toList.take k ++ [s[k]] := by
  rw [List.take_succ_eq_append_getElem (by simpa using h)]; rfl
theorem pow_le {k : Nat} (h : k ≤ 11) : 2 ^ k ≤ 2048 := by
  have := Nat.pow_le_pow_right (show 0 < 2 by omega) h
  exact this
end Go.Proofs.YthppbcnejapbiaaGreatDoor.Mp

-- YthppbcnejapbiaaGreatDoorMr
/- Contracts and plain facts that a law of this seat leans on. Conditions: as each theorem types them. -/
namespace Go.Proofs.YthppbcnejapbiaaGreatDoor.Mr
open Go.ChangeShapes Go.WideShapes Go.ChangeAt Go.RowKit
open Bx CredV ModeV
open Ni (HoldsN)
open Dk (ret_bool)
open Strs (ret_int)
set_option linter.unusedVariables false


end Go.Proofs.YthppbcnejapbiaaGreatDoor.Mr

-- YthppbcnejapbiaaGreatDoorAl
/- Contracts: the program's Allowed and the model's. Conditions: the number of groups and of entries. -/
namespace Go.Proofs.YthppbcnejapbiaaGreatDoor.Al
open Go.ChangeShapes Go.WideShapes Go.ChangeAt Go.RowKit
open Bx CredV ModeV
open AclV (At a0 okB permV maskV)
open Ni (HoldsN)
open Dk (ret_bool)
open Strs (ret_int own_below)
open AclB (cells_new)
set_option linter.unusedVariables false

/-- One of these permissions has all bits of p. -/
def anyB (ps : List Int) (p : Int) : Bool := ps.any fun x => covB x p
def NoneQ (l : List Int) (p : Int) (k : Nat) : Prop := ∀ i, i < k → covB (l.getD i 0) p = false
theorem none_zero (l : List Int) (p : Int) : NoneQ l p 0 := fun i h => absurd h (Nat.not_lt_zero _)
theorem none_succ {l : List Int} {p : Int} {k : Nat} (h : NoneQ l p k) (hk : covB (l.getD k 0) p = false) : NoneQ l p (k + 1) := fun i hi => by
  rcases Nat.lt_or_ge i k with hji | hji
  · exact h i hji
  · rw [show i = k from by omega]; exact hk
def idxQ (l : List Int) (p : Int) : Int := if anyB l p = true then ((l.findIdx fun x => covB x p : Nat) : Int) else -1
theorem any_at {l : List Int} {p : Int} {k : Nat} (hk : k < l.length) (h : NoneQ l p k) (he : covB (l.getD k 0) p = true) : anyB l p = true ∧ idxQ l p = (k : Int) := by
  have h1 : anyB l p = true := by
    rw [anyB, List.any_eq_true]
    exact ⟨l[k], List.getElem_mem hk, by rw [← CrI.getD_get hk]; exact he⟩
  refine ⟨h1, ?_⟩
  rw [idxQ, if_pos h1]
  congr 1
  rw [List.findIdx_eq hk]
  refine ⟨by rw [← CrI.getD_get hk]; exact he, fun j hj => ?_⟩
  have := h j hj
  rw [CrI.getD_get (by omega)] at this
  exact this
theorem any_none {l : List Int} {p : Int} (h : NoneQ l p l.length) : anyB l p = false ∧ idxQ l p = -1 := by
  have h1 : anyB l p = false := by
    rw [anyB, List.any_eq_false]
    intro y hy
    obtain ⟨i, hi, rfl⟩ := List.mem_iff_getElem.1 hy
    have := h i hi
    rw [CrI.getD_get hi] at this
    rw [this]; simp
  exact ⟨h1, by rw [idxQ, if_neg (by rw [h1]; simp)]⟩
theorem idx_sign (l : List Int) (p : Int) : decide (0 ≤ idxQ l p) = anyB l p := by
  unfold idxQ
  cases h : anyB l p
  · rfl
  · rw [if_pos rfl]; exact decide_eq_true (by omega)
/-- The method value. -/
def isFn (p : Int) : Value := .func (.func 185) #[.int .i64 p] #[]

set_option maxRecDepth 100000 in
set_option maxHeartbeats 800000 in
theorem index_any (w : World) (gv : Value) (l : List Int) (x : Int) (hn : l.length ≤ 1073741824) (hx : In8 x) (hl : ∀ y ∈ l, In8 y) (h : HoldsN w gv l) :
    Calls Tryz.prog 241 #[gv, isFn x] w fun e w' => e = .returned (.int .i64 (idxQ l x)) ∧ w = w' := by
  obtain ⟨a, c, rfl, hc⟩ := h
  have HC := Lib.hid hc
  have HX := Lib.hid hx
  have HL := Lib.hid hl
  clear hc hx hl
  obtain ⟨N, hN⟩ : ∃ N, N = l.length := ⟨_, rfl⟩
  rw [← hN] at hn ⊢
  have HN := Lib.hid hN
  clear hN
  unfold isFn
  go_enter Tryz.func241, Tryz.ntmps241
  go_wp2_with fail
  go_loop [8] (fun iv => ∃ k : Nat, k ≤ N ∧ iv = .int .i64 k ∧ NoneQ l x k) (fun iv => N - (intOf iv).toNat)
  case atStart => exact ⟨0, Nat.zero_le _, rfl, none_zero l x⟩
  case round =>
    obtain ⟨k, hk, rfl, hno⟩ := hrel
    have HNO := Lib.hid hno
    clear hno
    by_cases hlt : k < N
    · have hlx : k < l.length := by rw [← HN.out]; exact hlt
      obtain ⟨b, o, rfl, hb, g0⟩ := HC.out k hlx
      have HI := Lib.hid (Pm.isin_any x (l.getD k 0) w HX.out (HL.out _ (by rw [CrI.getD_get hlx]; exact List.getElem_mem hlx)))
      cases he : covB (l.getD k 0) x
      · have HS := Lib.hid (none_succ HNO.out he)
        rw [he] at HI
        clear he
        generalize l.getD k 0 = y at g0 HI
        go_wp2_with fail
        refine HI.out.mono ?_
        rintro e wq ⟨rfl, rfl⟩
        go_wp2
        go_round
        case rel => exact ⟨k + 1, by omega, by go_num, HS.out⟩
        case measure => simp [intOf]; omega
      · have HV := Lib.hid (any_at hlx HNO.out he)
        rw [he] at HI
        clear he
        generalize l.getD k 0 = y at g0 HI
        go_wp2_with fail
        refine HI.out.mono ?_
        rintro e wq ⟨rfl, rfl⟩
        go_wp2
        go_ret
        exact ⟨ret_int HV.out.2.symm, rfl⟩
    · obtain rfl : k = N := by omega
      have HV := Lib.hid (any_none (l := l) (p := x) (by rw [← HN.out]; exact HNO.out))
      go_wp2
      go_ret
      exact ⟨ret_int HV.out.2.symm, rfl⟩
set_option maxRecDepth 100000 in
theorem contains_any (w : World) (gv : Value) (l : List Int) (x : Int) (hn : l.length ≤ 1073741824) (hx : In8 x) (hl : ∀ y ∈ l, In8 y) (h : HoldsN w gv l) :
    Calls Tryz.prog 218 #[gv, isFn x] w fun e w' => e = .returned (.bool (anyB l x)) ∧ w = w' := by
  have HI := Lib.hid (index_any w gv l x hn hx hl h)
  have HV := Lib.hid (idx_sign l x)
  obtain ⟨a, c, rfl, _⟩ := h
  generalize idxQ l x = y at HI HV
  unfold isFn at HI ⊢
  go_enter Tryz.func218, Tryz.ntmps218
  go_wp2_with fail
  refine HI.out.mono ?_
  rintro e wq ⟨rfl, rfl⟩
  go_wp2
  go_ret
  exact ⟨ret_bool HV.out, rfl⟩
set_option maxRecDepth 100000 in
theorem oneof_any (w : World) (gv : Value) (l : List Int) (x : Int) (hn : l.length ≤ 1073741824) (hx : In8 x) (hl : ∀ y ∈ l, In8 y) (h : HoldsN w gv l) :
    Calls Tryz.prog 189 #[.int .i64 x, gv] w fun e w' => e = .returned (.bool (anyB l x)) ∧ w = w' := by
  have HI := Lib.hid (contains_any w gv l x hn hx hl h)
  obtain ⟨a, c, rfl, _⟩ := h
  unfold isFn at HI
  go_enter Tryz.func189, Tryz.ntmps189
  go_wp2_with fail
  refine HI.out.mono ?_
  rintro e wq ⟨rfl, rfl⟩
  go_wp2
  go_ret
  exact ⟨rfl, rfl⟩
theorem class_any (m k : Int) (w : World) :
    Calls Tryz.prog 186 #[.int .i64 m, .int .i64 k] w fun e w' => e = .returned (.int .i64 (permOfV m k)) ∧ w = w' := by
  have HP := Lib.hid (Pm.perm_impl m k w)
  generalize permOfV m k = r at HP ⊢
  go_enter Tryz.func186, Tryz.ntmps186
  go_wp2_with fail
  refine HP.out.mono ?_
  rintro e wq ⟨rfl, rfl⟩
  go_wp2
  go_ret
  exact ⟨rfl, rfl⟩

/-- The permissions that the mask limits. -/
def grpL (c : Cr) (gid mode : Int) (l : List At) : List Int := (if inB c gid = true then [permOfV mode 1] else []) ++ (l.filter (grpB c)).map fun x => x.2.2
def maskL (c : Cr) (gid mode : Int) (l : List At) : List Int := if (permV l 1 c.1).2 = true then [(permV l 1 c.1).1] else grpL c gid mode l
theorem permInfo : (Tryz.prog.info? 178).map (fun i => (i.zero, i.size, i.bytes)) = some (some (.int .i64 0), 1, 8) := by kernel_rfl
theorem row_one (w : World) (n : Int) (T : TypeId) : (w.alloc (.cells #[.int .i64 n] T)).ownsRow w.heap.size T 1 (.slice (some ⟨w.heap.size, 0, none⟩) 1 1) 1 ([n].map (Value.int .i64)) :=
  ⟨rfl, .inr ⟨w.heap.size, 1, #[.int .i64 n], rfl, Nat.le_refl _, World.alloc_heap_new w _, Nat.le_refl _, by unfold maxLen; omega, rfl, rfl⟩⟩
theorem own_none (w : World) (base : Nat) (T : TypeId) : w.ownsRow base T 1 (.slice none 0 0) 0 (([] : List Int).map (Value.int .i64)) := ⟨rfl, .inl ⟨rfl, rfl⟩⟩
theorem one_new (w : World) (x : Value) (T : TypeId) : ∀ j u, [x][j]? = some u → (w.alloc (.cells #[x] T)).cell? ((⟨w.heap.size, 0, none⟩ : Addr).add j) = some u := by
  intro j u hj
  rw [Addr.add_lit, Nat.zero_add, World.cell?_alloc_at _ _ _ _ rfl]
  simpa using hj
theorem filt_next {l : List At} {k : Nat} (q : At → Bool) (hk : k < l.length) : ((l.take (k + 1)).filter q).map (fun x => x.2.2) = ((l.take k).filter q).map (fun x => x.2.2) ++ (if q (l.getD k a0) = true then [(l.getD k a0).2.2] else []) := by
  have eg : l.getD k a0 = l[k] := by rw [List.getD_eq_getElem?_getD, List.getElem?_eq_getElem hk]; rfl
  rw [List.take_succ_eq_append_getElem hk, List.filter_append, List.map_append, eg]
  congr 1
  by_cases h : q l[k] = true
  · rw [if_pos h]; simp [h]
  · rw [if_neg h]; simp [h]
theorem filt_len (l : List At) (q : At → Bool) (k : Nat) : (((l.take k).filter q).map (fun x => x.2.2)).length ≤ k := by
  rw [List.length_map]
  exact Nat.le_trans (List.length_filter_le _ _) (List.length_take_le _ _)


set_option maxRecDepth 100000 in
set_option maxHeartbeats 3200000 in
theorem masked_any (w : World) (u g : Int) (gv : Value) (gl : List Int) (gid mode : Int) (av : Value) (l : List At) (hgl : gl.length ≤ 1073741824) (hal : l.length ≤ 1048576) (hG : HoldsN w gv gl) (hA : Ae.Holds w av l) :
    Calls Tryz.prog 187 #[.agg #[.int .i64 u, .int .i64 g, gv], .int .i64 gid, .int .i64 mode, av] w fun e w' => ∃ v, e = .returned v ∧ w'.ownsRow w.heap.size 178 1 v (maskL (u, g, gl) gid mode l).length ((maskL (u, g, gl) gid mode l).map (Value.int .i64)) ∧ Below w.heap.size w w' := by
  obtain ⟨i0, hi, hz0, hz1, hz2⟩ := info_parts permInfo
  have HF0 := Lib.hid hi
  have HF1 := Lib.hid hz0
  have HF2 := Lib.hid hz1
  have HF3 := Lib.hid hz2
  clear hi hz0 hz1 hz2
  have HB := Lib.hid ((Below.refl w.heap.size w).alloc (Nat.le_refl _) (.cells #[.int .i64 u, .int .i64 g, gv] 54))
  have hx := new w #[.int .i64 u, .int .i64 g, gv] 54
  have HG := Lib.hid (Ni.holds_below hG HB.out)
  have HA := Lib.hid (Ae.holds_below hA HB.out)
  obtain ⟨ga, gc, rfl, _⟩ := hG
  obtain ⟨aa, ac, rfl, hat⟩ := Ae.atL hA
  have HAT := Lib.hid hat
  clear hA hat
  have hs0 : w.heap.size < (w.alloc (.cells #[.int .i64 u, .int .i64 g, .slice ga gl.length gc] 54)).heap.size := by simp
  have HPM := Lib.hid (fun W h => AclQ.perm_impl W (.slice aa l.length ac) l 1 u (by omega) h)
  have HIN := Lib.hid (fun W n h => CrI.in_impl W u g (.slice ga gl.length gc) gl n hgl h)
  obtain ⟨NG, hNG⟩ : ∃ NG, NG = gl.length := ⟨_, rfl⟩
  rw [← hNG] at hx HB HG HA hs0 HIN ⊢
  clear hNG hgl
  obtain ⟨N, hN⟩ : ∃ N, N = l.length := ⟨_, rfl⟩
  rw [← hN] at HA HPM hal ⊢
  have HN := Lib.hid hN
  clear hN
  generalize hpv : permV l 1 u = pv at HPM
  obtain ⟨pn, pb⟩ := pv
  have HPV := Lib.hid hpv
  clear hpv
  go_enter Tryz.func187, Tryz.ntmps187
  go_wp2_with fail
  generalize w.alloc (.cells #[.int .i64 u, .int .i64 g, .slice ga NG gc] 54) = w0 at hx HB HG HA hs0 ⊢
  obtain ⟨c0, c1, c2⟩ := Bk.three hx
  have HX := Lib.hid hx
  clear hx
  go_wp2_with fail
  refine (HPM.out _ HA.out).mono ?_
  rintro e w1 ⟨rfl, hb⟩
  dsimp only [AclQ.res]
  replace HX := Lib.hid (HX.out.all hb)
  replace HB := Lib.hid (HB.out.trans (hb.mono HB.out.size))
  replace HG := Lib.hid (Ni.holds_below HG.out hb)
  replace HA := Lib.hid (Ae.holds_below HA.out hb)
  have hs1 : w.heap.size < w1.heap.size := Nat.lt_of_lt_of_le hs0 hb.size
  clear c0 c1 c2 hb hs0
  obtain ⟨c0, c1, c2⟩ := Bk.three HX.out
  cases pb
  · have HV := Lib.hid (show maskL (u, g, gl) gid mode l = grpL (u, g, gl) gid mode l by rw [maskL]; dsimp only; rw [HPV.out]; rfl)
    go_wp2_with fail
    refine (HIN.out _ gid HG.out).mono ?_
    rintro e w2 ⟨rfl, hb⟩
    replace HX := Lib.hid (HX.out.all hb)
    replace HB := Lib.hid (HB.out.trans (hb.mono HB.out.size))
    replace HG := Lib.hid (Ni.holds_below HG.out hb)
    replace HA := Lib.hid (Ae.holds_below HA.out hb)
    have hs2 : w.heap.size < w2.heap.size := Nat.lt_of_lt_of_le hs1 hb.size
    clear c0 c1 c2 hb hs1
    obtain ⟨c0, c1, c2⟩ := Bk.three HX.out
    cases hin : inB (u, g, gl) gid
    · have HI1 := Lib.hid (show grpL (u, g, gl) gid mode l = [] ++ (l.filter (grpB (u, g, gl))).map fun x => x.2.2 by rw [grpL, hin]; rfl)
      clear hin
      go_wp2_with fail
      go_loopw [11, 34] (fun pv iv wr => ∃ (k : Nat) (ps : List Int) (a : Option Addr) (c : Nat), k ≤ N ∧ iv = .int .i64 k ∧ pv = .slice a ps.length c ∧ ps.length ≤ 1 + k ∧ ps = ([] : List Int) ++ ((l.take k).filter (grpB (u, g, gl))).map (fun x => x.2.2) ∧ wr.ownsRow w2.heap.size 178 1 (.slice a ps.length c) ps.length (ps.map (Value.int .i64)) ∧ Below w2.heap.size w2 wr) (fun _ iv _ => N - (intOf iv).toNat)
      case atStart => exact ⟨0, [], none, 0, Nat.zero_le _, rfl, rfl, by simp, by simp, own_none w2 _ _, Below.refl _ _⟩
      case round =>
        obtain ⟨k, ps, a9, c9, hk, rfl, rfl, hpl, hps, hown, hbel⟩ := hrel
        have HPS := Lib.hid hps
        have HO := Lib.hid hown
        have HBEL := Lib.hid hbel
        have HBR := Lib.hid (HB.out.trans (hbel.mono HB.out.size))
        have hwr : w.heap.size < wr.heap.size := Nat.lt_of_lt_of_le hs2 hbel.size
        have hsz := hbel.size
        have HXR := Lib.hid (HX.out.all hbel)
        obtain ⟨c0, c1, c2⟩ := Bk.three HXR.out
        clear hps hown hbel
        by_cases hlt : k < N
        · have hlx : k < l.length := by rw [← HN.out]; exact hlt
          obtain ⟨b, o, rfl, hb, g0, g1, g2⟩ := HAT.out k hlx
          rw [← HBR.out.cell (p := ⟨b, _, none⟩) hb] at g0 g1 g2
          have HQ := Lib.hid (filt_next (grpB (u, g, gl)) hlx)
          have HQL := Lib.hid (filt_len l (grpB (u, g, gl)) (k + 1))
          have HGR := Lib.hid (Ni.holds_below HG.out HBEL.out)
          cases hgq : grpB (u, g, gl) (l.getD k a0)
          · rw [hgq, if_neg (by simp), List.append_nil] at HQ
            have HPS2 := Lib.hid (show ps = ([] : List Int) ++ ((l.take (k + 1)).filter (grpB (u, g, gl))).map (fun x => x.2.2) by rw [HQ.out]; exact HPS.out)
            have HGQ := Lib.hid hgq
            clear hgq HQ
            generalize l.getD k a0 = x at g0 g1 g2 HGQ
            obtain ⟨n0, n1, n2⟩ := x
            dsimp only at g0 g1 g2
            have HB2 := Lib.hid (HBEL.out.alloc hsz (.cells #[.int .i64 n0, .int .i64 n1, .int .i64 n2] 161))
            have HO2 := Lib.hid (World.ownsRow.alloc HO.out (.cells #[.int .i64 n0, .int .i64 n1, .int .i64 n2] 161))
            have HG2 := Lib.hid (Ni.holds_below HGR.out ((Below.refl wr.heap.size wr).alloc (Nat.le_refl _) (.cells #[.int .i64 n0, .int .i64 n1, .int .i64 n2] 161)))
            by_cases h0 : n0 = 2
            · have hib : inB (u, g, gl) n1 = false := by have := HGQ.out; simp only [grpB, h0, decide_true, Bool.true_and] at this; exact this
              subst h0
              have HI := Lib.hid (HIN.out _ n1 HG2.out)
              rw [hib] at HI
              clear hib
              go_wp2_with fail
              refine HI.out.mono ?_
              rintro e w5 ⟨rfl, hb5⟩
              replace HO2 := Lib.hid (own_below HO2.out hb5)
              replace HB2 := Lib.hid (HB2.out.trans (hb5.mono HB2.out.size))
              clear hb5
              go_wp2
              go_roundw
              case rel => exact ⟨k + 1, ps, _, _, by omega, by go_num, rfl, by omega, HPS2.out, HO2.out, HB2.out⟩
              case measure => simp [intOf]; omega
            · have h1 : (n0 == 2) = false := beq_eq_false_iff_ne.2 h0
              clear h0
              go_wp2
              go_roundw
              case rel => exact ⟨k + 1, ps, _, _, by omega, by go_num, rfl, by omega, HPS2.out, HO2.out, HB2.out⟩
              case measure => simp [intOf]; omega
          · rw [hgq, if_pos rfl] at HQ
            have HGQ := Lib.hid hgq
            clear hgq
            generalize l.getD k a0 = x at g0 g1 g2 HGQ HQ
            obtain ⟨n0, n1, n2⟩ := x
            dsimp only at g0 g1 g2 HQ
            have HPS2 := Lib.hid (show ps ++ [n2] = ([] : List Int) ++ ((l.take (k + 1)).filter (grpB (u, g, gl))).map (fun x => x.2.2) by rw [HQ.out, HPS.out, List.append_assoc])
            have hib : n0 = 2 ∧ inB (u, g, gl) n1 = true := by
              have := HGQ.out
              simp only [grpB, Bool.and_eq_true, decide_eq_true_eq] at this
              exact this
            obtain ⟨rfl, hib⟩ := hib
            have HB2 := Lib.hid (HBEL.out.alloc hsz (.cells #[.int .i64 2, .int .i64 n1, .int .i64 n2] 161))
            have HO2 := Lib.hid (World.ownsRow.alloc HO.out (.cells #[.int .i64 2, .int .i64 n1, .int .i64 n2] 161))
            have HG2 := Lib.hid (Ni.holds_below HGR.out ((Below.refl wr.heap.size wr).alloc (Nat.le_refl _) (.cells #[.int .i64 2, .int .i64 n1, .int .i64 n2] 161)))
            have HI := Lib.hid (HIN.out _ n1 HG2.out)
            rw [hib] at HI
            have y2 := cells_new wr #[.int .i64 2, .int .i64 n1, .int .i64 n2] 161 2 _ rfl
            clear hib HQ HGQ
            go_wp2_with fail
            refine HI.out.mono ?_
            rintro e w5 ⟨rfl, hb5⟩
            have q2 := (hb5.cell (p := ⟨wr.heap.size, 2, none⟩) (by simp)).trans y2
            replace HO2 := Lib.hid (World.ownsRow.alloc (own_below HO2.out hb5) (.cells #[.int .i64 n2] 178))
            replace HB2 := Lib.hid (HB2.out.trans (hb5.mono HB2.out.size))
            have hs5 := HB2.out.size
            clear hb5 y2
            go_wp2_with (first | (at_builtin; refine wpList_append_own _ rfl _ _ 181 rfl w2.heap.size 178 i0 (.int .i64 0) 1 8 Tryz.underlying181 HF0.out HF1.out HF2.out HF3.out rfl (by decide) _ _ _ rfl HO2.out ⟨w5.heap.size, 0, none⟩ 1 1 [.int .i64 n2] rfl rfl (one_new _ _ _) (by simp [Value.oneCell']) (by unfold maxLen; omega) (by omega) (by simp only [World.size_alloc]; omega) ?_))
            intro v9 w9 hown9 hg9 _
            obtain ⟨a8, c8, rfl⟩ := Dk.slice_of hown9
            have HO9 := Lib.hid hown9
            have HB9 := Lib.hid ((HB2.out.alloc hs5 (.cells #[.int .i64 n2] 178)).grown hg9 (by simp; omega) (fun k hk => (HO2.out.lt k hk).1))
            clear hown9 hg9
            go_wp2
            go_roundw
            case rel => exact ⟨k + 1, ps ++ [n2], _, _, by omega, by go_num, by rw [List.length_append]; rfl, by rw [List.length_append, List.length_singleton]; omega, HPS2.out, by rw [List.length_append, List.length_singleton, List.map_append]; exact HO9.out, HB9.out⟩
            case measure => simp [intOf]; omega
        · obtain rfl : k = N := by omega
          have HR := Lib.hid (show maskL (u, g, gl) gid mode l = ps by rw [HV.out, HI1.out, HPS.out, HN.out, List.take_length])
          go_wp2
          go_ret
          refine ⟨_, rfl, ?_, HBR.out⟩
          rw [HR.out]
          exact SplitAny.own_mono HO.out HB.out.size

    · have HI1 := Lib.hid (show grpL (u, g, gl) gid mode l = [permOfV mode 1] ++ (l.filter (grpB (u, g, gl))).map fun x => x.2.2 by rw [grpL, hin]; rfl)
      have HCL := Lib.hid (class_any mode 1 w2)
      generalize permOfV mode 1 = p1 at HI1 HCL
      have HO2 := Lib.hid (World.ownsRow.alloc (own_none w2 w2.heap.size 178) (.cells #[.int .i64 p1] 178))
      clear hin
      go_wp2_with fail
      refine HCL.out.mono ?_
      rintro e wq ⟨rfl, rfl⟩
      go_wp2_with (first | (at_builtin; refine wpList_append_own _ rfl _ _ 181 rfl w2.heap.size 178 i0 (.int .i64 0) 1 8 Tryz.underlying181 HF0.out HF1.out HF2.out HF3.out rfl (by decide) _ _ _ rfl HO2.out ⟨w2.heap.size, 0, none⟩ 1 1 [.int .i64 p1] rfl rfl (one_new _ _ _) (by simp [Value.oneCell']) (by unfold maxLen; omega) (by omega) (by simp only [World.size_alloc]; omega) ?_))
      intro v9 w9 hown9 hg9 _
      obtain ⟨a8, c8, rfl⟩ := Dk.slice_of hown9
      have HO9 := Lib.hid hown9
      have HB9 := Lib.hid (((Below.refl w2.heap.size w2).alloc (Nat.le_refl _) (.cells #[.int .i64 p1] 178)).grown hg9 (by simp) (fun k hk => (HO2.out.lt k hk).1))
      clear hown9 hg9
      go_wp2_with fail
      go_loopw [11, 34] (fun pv iv wr => ∃ (k : Nat) (ps : List Int) (a : Option Addr) (c : Nat), k ≤ N ∧ iv = .int .i64 k ∧ pv = .slice a ps.length c ∧ ps.length ≤ 1 + k ∧ ps = [p1] ++ ((l.take k).filter (grpB (u, g, gl))).map (fun x => x.2.2) ∧ wr.ownsRow w2.heap.size 178 1 (.slice a ps.length c) ps.length (ps.map (Value.int .i64)) ∧ Below w2.heap.size w2 wr) (fun _ iv _ => N - (intOf iv).toNat)
      case atStart => exact ⟨0, [p1], _, _, Nat.zero_le _, rfl, rfl, by simp, by simp, HO9.out, HB9.out⟩
      case round =>
        obtain ⟨k, ps, a9, c9, hk, rfl, rfl, hpl, hps, hown, hbel⟩ := hrel
        have HPS := Lib.hid hps
        have HO := Lib.hid hown
        have HBEL := Lib.hid hbel
        have HBR := Lib.hid (HB.out.trans (hbel.mono HB.out.size))
        have hwr : w.heap.size < wr.heap.size := Nat.lt_of_lt_of_le hs2 hbel.size
        have hsz := hbel.size
        have HXR := Lib.hid (HX.out.all hbel)
        obtain ⟨c0, c1, c2⟩ := Bk.three HXR.out
        clear hps hown hbel
        by_cases hlt : k < N
        · have hlx : k < l.length := by rw [← HN.out]; exact hlt
          obtain ⟨b, o, rfl, hb, g0, g1, g2⟩ := HAT.out k hlx
          rw [← HBR.out.cell (p := ⟨b, _, none⟩) hb] at g0 g1 g2
          have HQ := Lib.hid (filt_next (grpB (u, g, gl)) hlx)
          have HQL := Lib.hid (filt_len l (grpB (u, g, gl)) (k + 1))
          have HGR := Lib.hid (Ni.holds_below HG.out HBEL.out)
          cases hgq : grpB (u, g, gl) (l.getD k a0)
          · rw [hgq, if_neg (by simp), List.append_nil] at HQ
            have HPS2 := Lib.hid (show ps = [p1] ++ ((l.take (k + 1)).filter (grpB (u, g, gl))).map (fun x => x.2.2) by rw [HQ.out]; exact HPS.out)
            have HGQ := Lib.hid hgq
            clear hgq HQ
            generalize l.getD k a0 = x at g0 g1 g2 HGQ
            obtain ⟨n0, n1, n2⟩ := x
            dsimp only at g0 g1 g2
            have HB2 := Lib.hid (HBEL.out.alloc hsz (.cells #[.int .i64 n0, .int .i64 n1, .int .i64 n2] 161))
            have HO2 := Lib.hid (World.ownsRow.alloc HO.out (.cells #[.int .i64 n0, .int .i64 n1, .int .i64 n2] 161))
            have HG2 := Lib.hid (Ni.holds_below HGR.out ((Below.refl wr.heap.size wr).alloc (Nat.le_refl _) (.cells #[.int .i64 n0, .int .i64 n1, .int .i64 n2] 161)))
            by_cases h0 : n0 = 2
            · have hib : inB (u, g, gl) n1 = false := by have := HGQ.out; simp only [grpB, h0, decide_true, Bool.true_and] at this; exact this
              subst h0
              have HI := Lib.hid (HIN.out _ n1 HG2.out)
              rw [hib] at HI
              clear hib
              go_wp2_with fail
              refine HI.out.mono ?_
              rintro e w5 ⟨rfl, hb5⟩
              replace HO2 := Lib.hid (own_below HO2.out hb5)
              replace HB2 := Lib.hid (HB2.out.trans (hb5.mono HB2.out.size))
              clear hb5
              go_wp2
              go_roundw
              case rel => exact ⟨k + 1, ps, _, _, by omega, by go_num, rfl, by omega, HPS2.out, HO2.out, HB2.out⟩
              case measure => simp [intOf]; omega
            · have h1 : (n0 == 2) = false := beq_eq_false_iff_ne.2 h0
              clear h0
              go_wp2
              go_roundw
              case rel => exact ⟨k + 1, ps, _, _, by omega, by go_num, rfl, by omega, HPS2.out, HO2.out, HB2.out⟩
              case measure => simp [intOf]; omega
          · rw [hgq, if_pos rfl] at HQ
            have HGQ := Lib.hid hgq
            clear hgq
            generalize l.getD k a0 = x at g0 g1 g2 HGQ HQ
            obtain ⟨n0, n1, n2⟩ := x
            dsimp only at g0 g1 g2 HQ
            have HPS2 := Lib.hid (show ps ++ [n2] = [p1] ++ ((l.take (k + 1)).filter (grpB (u, g, gl))).map (fun x => x.2.2) by rw [HQ.out, HPS.out, List.append_assoc])
            have hib : n0 = 2 ∧ inB (u, g, gl) n1 = true := by
              have := HGQ.out
              simp only [grpB, Bool.and_eq_true, decide_eq_true_eq] at this
              exact this
            obtain ⟨rfl, hib⟩ := hib
            have HB2 := Lib.hid (HBEL.out.alloc hsz (.cells #[.int .i64 2, .int .i64 n1, .int .i64 n2] 161))
            have HO2 := Lib.hid (World.ownsRow.alloc HO.out (.cells #[.int .i64 2, .int .i64 n1, .int .i64 n2] 161))
            have HG2 := Lib.hid (Ni.holds_below HGR.out ((Below.refl wr.heap.size wr).alloc (Nat.le_refl _) (.cells #[.int .i64 2, .int .i64 n1, .int .i64 n2] 161)))
            have HI := Lib.hid (HIN.out _ n1 HG2.out)
            rw [hib] at HI
            have y2 := cells_new wr #[.int .i64 2, .int .i64 n1, .int .i64 n2] 161 2 _ rfl
            clear hib HQ HGQ
            go_wp2_with fail
            refine HI.out.mono ?_
            rintro e w5 ⟨rfl, hb5⟩
            have q2 := (hb5.cell (p := ⟨wr.heap.size, 2, none⟩) (by simp)).trans y2
            replace HO2 := Lib.hid (World.ownsRow.alloc (own_below HO2.out hb5) (.cells #[.int .i64 n2] 178))
            replace HB2 := Lib.hid (HB2.out.trans (hb5.mono HB2.out.size))
            have hs5 := HB2.out.size
            clear hb5 y2
            go_wp2_with (first | (at_builtin; refine wpList_append_own _ rfl _ _ 181 rfl w2.heap.size 178 i0 (.int .i64 0) 1 8 Tryz.underlying181 HF0.out HF1.out HF2.out HF3.out rfl (by decide) _ _ _ rfl HO2.out ⟨w5.heap.size, 0, none⟩ 1 1 [.int .i64 n2] rfl rfl (one_new _ _ _) (by simp [Value.oneCell']) (by unfold maxLen; omega) (by omega) (by simp only [World.size_alloc]; omega) ?_))
            intro v9 w9 hown9 hg9 _
            obtain ⟨a8, c8, rfl⟩ := Dk.slice_of hown9
            have HO9 := Lib.hid hown9
            have HB9 := Lib.hid ((HB2.out.alloc hs5 (.cells #[.int .i64 n2] 178)).grown hg9 (by simp; omega) (fun k hk => (HO2.out.lt k hk).1))
            clear hown9 hg9
            go_wp2
            go_roundw
            case rel => exact ⟨k + 1, ps ++ [n2], _, _, by omega, by go_num, by rw [List.length_append]; rfl, by rw [List.length_append, List.length_singleton]; omega, HPS2.out, by rw [List.length_append, List.length_singleton, List.map_append]; exact HO9.out, HB9.out⟩
            case measure => simp [intOf]; omega
        · obtain rfl : k = N := by omega
          have HR := Lib.hid (show maskL (u, g, gl) gid mode l = ps by rw [HV.out, HI1.out, HPS.out, HN.out, List.take_length])
          go_wp2
          go_ret
          refine ⟨_, rfl, ?_, HBR.out⟩
          rw [HR.out]
          exact SplitAny.own_mono HO.out HB.out.size

  · have HV := Lib.hid (show maskL (u, g, gl) gid mode l = [pn] by rw [maskL]; dsimp only; rw [HPV.out]; rfl)
    have HO := Lib.hid (row_one w1 pn 178)
    have HB2 := Lib.hid (HB.out.alloc HB.out.size (.cells #[.int .i64 pn] 178))
    have hs9 := HB.out.size
    go_wp2
    go_ret
    refine ⟨_, rfl, ?_, HB2.out⟩
    rw [HV.out]
    exact SplitAny.own_mono HO.out hs9

end Go.Proofs.YthppbcnejapbiaaGreatDoor.Al

-- YthppbcnejapbiaaGreatDoorAw
/- Contracts: the program's Allowed and the model's. Conditions: the number of groups and of entries. -/
namespace Go.Proofs.YthppbcnejapbiaaGreatDoor.Aw
open Go.ChangeShapes Go.WideShapes Go.ChangeAt Go.RowKit
open Bx CredV ModeV Al
open AclV (At a0 okB permV maskV)
open Ni (HoldsN)
open Dk (ret_bool)
open Strs (ret_int own_below)
open AclB (cells_new)
set_option linter.unusedVariables false

theorem and_both : ∀ a, a < 8 → ∀ b, b < 8 → ∀ c, c < 8 → (((a &&& b : Nat) &&& c) = c ↔ (a &&& c = c ∧ b &&& c = c)) := by decide +kernel
theorem cov_both {a b c : Int} (ha : In8 a) (hb : In8 b) (hc : In8 c) : covB (andP a b) c = (covB b c && covB a c) := by
  rw [Bool.eq_iff_iff, Bool.and_eq_true, cov_iff hc.1, cov_iff hc.1, cov_iff hc.1]
  have := and_both a.toNat (by have := ha.1; have := ha.2; omega) b.toNat (by have := hb.1; have := hb.2; omega) c.toNat (by have := hc.1; have := hc.2; omega)
  have e : (andP a b).toNat = a.toNat &&& b.toNat := by unfold andP; omega
  rw [e, this, And.comm]
theorem grpL_nil {c : Cr} {gid mode : Int} {l : List At} : grpL c gid mode l = [] ↔ (inB c gid || l.any (grpB c)) = false := by
  unfold grpL
  cases h1 : inB c gid
  · rw [if_neg (by simp), List.nil_append, List.map_eq_nil_iff, List.filter_eq_nil_iff, Bool.false_or, List.any_eq_false]
  · rw [if_pos rfl]; simp
theorem grpL_any {c : Cr} {gid mode : Int} {l : List At} {want : Int} : anyB (grpL c gid mode l) want = ((inB c gid && covB (permOfV mode 1) want) || l.any fun x => grpB c x && covB x.2.2 want) := by
  have e : ((l.filter (grpB c)).map fun x => x.2.2).any (fun x => covB x want) = l.any fun x => grpB c x && covB x.2.2 want := by
    rw [List.any_map, List.any_filter]; rfl
  unfold grpL anyB
  rw [List.any_append, e]
  cases h1 : inB c gid
  · rw [if_neg (by simp)]; simp
  · rw [if_pos rfl]; simp
theorem decide_masked {c : Cr} {uid gid mode : Int} {l : List At} {want : Int} (hl : okB l = true) (hw : In8 want) (h0 : c.1 ≠ 0) (h1 : c.1 ≠ uid) :
    decideV c uid gid mode l want = if maskL c gid mode l = [] then covB (permOfV mode 2) want else (covB (maskV l) want && anyB (maskL c gid mode l) want) := by
  rw [decideV, if_neg h0, if_neg h1]
  by_cases hn : (permV l 1 c.1).2 = true
  · rw [if_pos hn, maskL, if_pos hn, if_neg (by simp), cov_both (perm_in hl _ _) (mask_in hl) hw]
    simp [anyB]
  · rw [if_neg hn, maskL, if_neg hn]
    by_cases h3 : (inB c gid || l.any (grpB c)) = true
    · rw [if_pos h3, if_neg (by rw [grpL_nil, h3]; simp), grpL_any, Bool.and_comm]
    · rw [if_neg h3, if_pos (grpL_nil.2 (by simpa using h3))]
theorem maskL_in {c : Cr} {gid mode : Int} {l : List At} (hl : okB l = true) : ∀ y ∈ maskL c gid mode l, In8 y := by
  intro y hy
  unfold maskL at hy
  by_cases hn : (permV l 1 c.1).2 = true
  · rw [if_pos hn, List.mem_singleton] at hy
    subst hy
    exact perm_in hl _ _
  · rw [if_neg hn, grpL, List.mem_append] at hy
    rcases hy with hy | hy
    · by_cases hi : inB c gid = true
      · rw [if_pos hi, List.mem_singleton] at hy
        subst hy
        exact permOf_range _ _
      · rw [if_neg hi] at hy; cases hy
    · obtain ⟨x, hx, rfl⟩ := List.mem_map.1 hy
      exact ent_in hl (List.mem_filter.1 hx).1
theorem maskL_len {c : Cr} {gid mode : Int} {l : List At} (hl : l.length ≤ 1048576) : (maskL c gid mode l).length ≤ 1048577 := by
  unfold maskL
  split
  · simp
  · unfold grpL
    rw [List.length_append, List.length_map]
    have := List.length_filter_le (grpB c) l
    split <;> simp <;> omega
theorem any_next {l : List At} {k : Nat} (q : At → Bool) (hk : k < l.length) : (l.take (k + 1)).any q = ((l.take k).any q || q (l.getD k a0)) := by
  have eg : l.getD k a0 = l[k] := by rw [List.getD_eq_getElem?_getD, List.getElem?_eq_getElem hk]; rfl
  rw [List.take_succ_eq_append_getElem hk, List.any_append, eg]; simp
theorem getD_mem {l : List At} {k : Nat} (hk : k < l.length) : l.getD k a0 ∈ l := by
  rw [List.getD_eq_getElem?_getD, List.getElem?_eq_getElem hk]
  exact List.getElem_mem hk


set_option maxRecDepth 100000 in
set_option maxHeartbeats 6400000 in
theorem allowed_impl (w : World) (u g : Int) (gv : Value) (gl : List Int) (uid gid mode : Int) (av : Value) (l : List At) (want : Int) (hgl : gl.length ≤ 1073741824) (hal : l.length ≤ 1048576) (hG : HoldsN w gv gl) (hA : Ae.Holds w av l) :
    Calls Tryz.prog 137 #[.agg #[.int .i64 u, .int .i64 g, gv], .int .i64 uid, .int .i64 gid, .int .i64 mode, av, .int .i64 want] w fun e w' => e = .returned (.bool (allowedV (u, g, gl) uid gid mode l want)) ∧ Below w.heap.size w w' := by
  have HB := Lib.hid ((Below.refl w.heap.size w).alloc (Nat.le_refl _) (.cells #[.int .i64 u, .int .i64 g, gv] 54))
  have hx := new w #[.int .i64 u, .int .i64 g, gv] 54
  have HG := Lib.hid (Ni.holds_below hG HB.out)
  have HA := Lib.hid (Ae.holds_below hA HB.out)
  obtain ⟨ga, gc, rfl, _⟩ := hG
  obtain ⟨aa, ac, rfl, hat⟩ := Ae.atL hA
  have HAT := Lib.hid hat
  clear hA hat
  have hs0 : w.heap.size < (w.alloc (.cells #[.int .i64 u, .int .i64 g, .slice ga gl.length gc] 54)).heap.size := by simp
  have HU1 := Lib.hid (fun W => Pm.user_impl uid W)
  have HU2 := Lib.hid (fun W => Pm.user_impl gid W)
  have HM := Lib.hid (fun W => Pm.mode_impl mode W)
  have HW := Lib.hid (fun W => AclS.perm_any want W)
  have HIA := Lib.hid (fun W h => AclI.impl_any W (.slice aa l.length ac) l (by omega) h)
  have HIC := Lib.hid (fun W h => CrI.cred_impl W u g (.slice ga gl.length gc) gl hgl h)
  have HMA := Lib.hid (fun W h => AclQ.mask_impl W (.slice aa l.length ac) l (by omega) h)
  have HMP := Lib.hid (fun W h1 h2 => masked_any W u g (.slice ga gl.length gc) gl gid mode (.slice aa l.length ac) l hgl hal h1 h2)
  have HML := Lib.hid (maskL_len (c := (u, g, gl)) (gid := gid) (mode := mode) hal)
  obtain ⟨NG, hNG⟩ : ∃ NG, NG = gl.length := ⟨_, rfl⟩
  rw [← hNG] at hx HB HG HA hs0 HIC HMP ⊢
  clear hNG hgl
  obtain ⟨N, hN⟩ : ∃ N, N = l.length := ⟨_, rfl⟩
  rw [← hN] at HA HIA HMA HMP hal ⊢
  have HN := Lib.hid hN
  clear hN

  cases huid : userB uid
  · have HV := Lib.hid (show allowedV (u, g, gl) uid gid mode l want = false by simp only [allowedV, argsB, huid, Bool.and_false, Bool.false_and])
    rw [huid] at HU1
    clear huid
    go_enter Tryz.func137, Tryz.ntmps137
    go_wp2_with fail
    generalize w.alloc (.cells #[.int .i64 u, .int .i64 g, .slice ga NG gc] 54) = w0 at hx HB HG HA hs0 ⊢
    obtain ⟨c0, c1, c2⟩ := Bk.three hx
    have HX := Lib.hid hx
    clear hx
    go_wp2_with fail
    refine (HU1.out _).mono ?_
    rintro e wq ⟨rfl, rfl⟩
    go_wp2
    go_ret
    exact ⟨ret_bool HV.out.symm, HB.out⟩
  · rw [huid] at HU1
    cases hgid : userB gid
    · have HV := Lib.hid (show allowedV (u, g, gl) uid gid mode l want = false by simp only [allowedV, argsB, hgid, Bool.and_false, Bool.false_and, Bool.and_assoc])
      rw [hgid] at HU2
      clear huid hgid
      go_enter Tryz.func137, Tryz.ntmps137
      go_wp2_with fail
      generalize w.alloc (.cells #[.int .i64 u, .int .i64 g, .slice ga NG gc] 54) = w0 at hx HB HG HA hs0 ⊢
      obtain ⟨c0, c1, c2⟩ := Bk.three hx
      have HX := Lib.hid hx
      clear hx
      go_wp2_with fail
      refine (HU1.out _).mono ?_
      rintro e wq ⟨rfl, rfl⟩
      go_wp2_with fail
      refine (HU2.out _).mono ?_
      rintro e wq ⟨rfl, rfl⟩
      go_wp2
      go_ret
      exact ⟨ret_bool HV.out.symm, HB.out⟩
    · rw [hgid] at HU2
      cases hmode : modeB mode
      · have HV := Lib.hid (show allowedV (u, g, gl) uid gid mode l want = false by simp only [allowedV, argsB, hmode, Bool.and_false, Bool.false_and, Bool.and_assoc])
        rw [hmode] at HM
        clear huid hgid hmode
        go_enter Tryz.func137, Tryz.ntmps137
        go_wp2_with fail
        generalize w.alloc (.cells #[.int .i64 u, .int .i64 g, .slice ga NG gc] 54) = w0 at hx HB HG HA hs0 ⊢
        obtain ⟨c0, c1, c2⟩ := Bk.three hx
        have HX := Lib.hid hx
        clear hx
        go_wp2_with fail
        refine (HU1.out _).mono ?_
        rintro e wq ⟨rfl, rfl⟩
        go_wp2_with fail
        refine (HU2.out _).mono ?_
        rintro e wq ⟨rfl, rfl⟩
        go_wp2_with fail
        refine (HM.out _).mono ?_
        rintro e wq ⟨rfl, rfl⟩
        go_wp2
        go_ret
        exact ⟨ret_bool HV.out.symm, HB.out⟩
      · rw [hmode] at HM
        cases hacl : okB l
        · have HV := Lib.hid (show allowedV (u, g, gl) uid gid mode l want = false by simp only [allowedV, argsB, hacl, Bool.and_false, Bool.false_and])
          rw [hacl] at HIA
          clear huid hgid hmode hacl
          go_enter Tryz.func137, Tryz.ntmps137
          go_wp2_with fail
          generalize w.alloc (.cells #[.int .i64 u, .int .i64 g, .slice ga NG gc] 54) = w0 at hx HB HG HA hs0 ⊢
          obtain ⟨c0, c1, c2⟩ := Bk.three hx
          have HX := Lib.hid hx
          clear hx
          go_wp2_with fail
          refine (HU1.out _).mono ?_
          rintro e wq ⟨rfl, rfl⟩
          go_wp2_with fail
          refine (HU2.out _).mono ?_
          rintro e wq ⟨rfl, rfl⟩
          go_wp2_with fail
          refine (HM.out _).mono ?_
          rintro e wq ⟨rfl, rfl⟩
          go_wp2_with fail
          refine (HIA.out _ HA.out).mono ?_
          rintro e w1 ⟨rfl, hb⟩
          replace HX := Lib.hid (HX.out.all hb)
          replace HB := Lib.hid (HB.out.trans (hb.mono HB.out.size))
          replace HG := Lib.hid (Ni.holds_below HG.out hb)
          replace HA := Lib.hid (Ae.holds_below HA.out hb)
          have hs1 : w.heap.size < w1.heap.size := Nat.lt_of_lt_of_le hs0 hb.size
          clear c0 c1 c2 hb hs0
          obtain ⟨c0, c1, c2⟩ := Bk.three HX.out
          go_wp2
          go_ret
          exact ⟨ret_bool HV.out.symm, HB.out⟩
        · rw [hacl] at HIA
          cases hcred : credB (u, g, gl)
          · have HV := Lib.hid (show allowedV (u, g, gl) uid gid mode l want = false by simp only [allowedV, argsB, hcred, Bool.false_and])
            rw [hcred] at HIC
            clear huid hgid hmode hacl hcred
            go_enter Tryz.func137, Tryz.ntmps137
            go_wp2_with fail
            generalize w.alloc (.cells #[.int .i64 u, .int .i64 g, .slice ga NG gc] 54) = w0 at hx HB HG HA hs0 ⊢
            obtain ⟨c0, c1, c2⟩ := Bk.three hx
            have HX := Lib.hid hx
            clear hx
            go_wp2_with fail
            refine (HU1.out _).mono ?_
            rintro e wq ⟨rfl, rfl⟩
            go_wp2_with fail
            refine (HU2.out _).mono ?_
            rintro e wq ⟨rfl, rfl⟩
            go_wp2_with fail
            refine (HM.out _).mono ?_
            rintro e wq ⟨rfl, rfl⟩
            go_wp2_with fail
            refine (HIA.out _ HA.out).mono ?_
            rintro e w1 ⟨rfl, hb⟩
            replace HX := Lib.hid (HX.out.all hb)
            replace HB := Lib.hid (HB.out.trans (hb.mono HB.out.size))
            replace HG := Lib.hid (Ni.holds_below HG.out hb)
            replace HA := Lib.hid (Ae.holds_below HA.out hb)
            have hs1 : w.heap.size < w1.heap.size := Nat.lt_of_lt_of_le hs0 hb.size
            clear c0 c1 c2 hb hs0
            obtain ⟨c0, c1, c2⟩ := Bk.three HX.out
            go_wp2_with fail
            refine (HIC.out _ HG.out).mono ?_
            rintro e w2 ⟨rfl, hb⟩
            replace HX := Lib.hid (HX.out.all hb)
            replace HB := Lib.hid (HB.out.trans (hb.mono HB.out.size))
            replace HG := Lib.hid (Ni.holds_below HG.out hb)
            replace HA := Lib.hid (Ae.holds_below HA.out hb)
            have hs2 : w.heap.size < w2.heap.size := Nat.lt_of_lt_of_le hs1 hb.size
            clear c0 c1 c2 hb hs1
            obtain ⟨c0, c1, c2⟩ := Bk.three HX.out
            go_wp2
            go_ret
            exact ⟨ret_bool HV.out.symm, HB.out⟩
          · rw [hcred] at HIC
            cases hwant : (decide (0 ≤ want) && decide (want ≤ 7))
            · have HV := Lib.hid (show allowedV (u, g, gl) uid gid mode l want = false by rw [allowedV, argsB, Bool.and_assoc (credB (u, g, gl) && okB l && userB uid && userB gid && modeB mode), hwant, Bool.and_false, Bool.false_and])
              rw [hwant] at HW
              clear huid hgid hmode hacl hcred hwant
              go_enter Tryz.func137, Tryz.ntmps137
              go_wp2_with fail
              generalize w.alloc (.cells #[.int .i64 u, .int .i64 g, .slice ga NG gc] 54) = w0 at hx HB HG HA hs0 ⊢
              obtain ⟨c0, c1, c2⟩ := Bk.three hx
              have HX := Lib.hid hx
              clear hx
              go_wp2_with fail
              refine (HU1.out _).mono ?_
              rintro e wq ⟨rfl, rfl⟩
              go_wp2_with fail
              refine (HU2.out _).mono ?_
              rintro e wq ⟨rfl, rfl⟩
              go_wp2_with fail
              refine (HM.out _).mono ?_
              rintro e wq ⟨rfl, rfl⟩
              go_wp2_with fail
              refine (HIA.out _ HA.out).mono ?_
              rintro e w1 ⟨rfl, hb⟩
              replace HX := Lib.hid (HX.out.all hb)
              replace HB := Lib.hid (HB.out.trans (hb.mono HB.out.size))
              replace HG := Lib.hid (Ni.holds_below HG.out hb)
              replace HA := Lib.hid (Ae.holds_below HA.out hb)
              have hs1 : w.heap.size < w1.heap.size := Nat.lt_of_lt_of_le hs0 hb.size
              clear c0 c1 c2 hb hs0
              obtain ⟨c0, c1, c2⟩ := Bk.three HX.out
              go_wp2_with fail
              refine (HIC.out _ HG.out).mono ?_
              rintro e w2 ⟨rfl, hb⟩
              replace HX := Lib.hid (HX.out.all hb)
              replace HB := Lib.hid (HB.out.trans (hb.mono HB.out.size))
              replace HG := Lib.hid (Ni.holds_below HG.out hb)
              replace HA := Lib.hid (Ae.holds_below HA.out hb)
              have hs2 : w.heap.size < w2.heap.size := Nat.lt_of_lt_of_le hs1 hb.size
              clear c0 c1 c2 hb hs1
              obtain ⟨c0, c1, c2⟩ := Bk.three HX.out
              go_wp2_with fail
              refine (HW.out _).mono ?_
              rintro e wq ⟨rfl, rfl⟩
              go_wp2
              go_ret
              exact ⟨ret_bool HV.out.symm, HB.out⟩
            · rw [hwant] at HW
              have hw8 : In8 want := by simp only [Bool.and_eq_true, decide_eq_true_eq] at hwant; exact hwant
              have HV := Lib.hid (show allowedV (u, g, gl) uid gid mode l want = decideV (u, g, gl) uid gid mode l want by rw [allowedV, argsB, Bool.and_assoc (credB (u, g, gl) && okB l && userB uid && userB gid && modeB mode), hwant, huid, hgid, hmode, hacl, hcred]; rfl)
              have HW8 := Lib.hid hw8
              have HOK := Lib.hid hacl
              clear huid hgid hmode hacl hcred hwant hw8
              by_cases h0 : u = 0
              · have HV2 := Lib.hid (show decideV (u, g, gl) uid gid mode l want = true by rw [decideV, if_pos h0])
                subst h0
                go_enter Tryz.func137, Tryz.ntmps137
                go_wp2_with fail
                generalize w.alloc (.cells #[.int .i64 0, .int .i64 g, .slice ga NG gc] 54) = w0 at hx HB HG HA hs0 ⊢
                obtain ⟨c0, c1, c2⟩ := Bk.three hx
                have HX := Lib.hid hx
                clear hx
                go_wp2_with fail
                refine (HU1.out _).mono ?_
                rintro e wq ⟨rfl, rfl⟩
                go_wp2_with fail
                refine (HU2.out _).mono ?_
                rintro e wq ⟨rfl, rfl⟩
                go_wp2_with fail
                refine (HM.out _).mono ?_
                rintro e wq ⟨rfl, rfl⟩
                go_wp2_with fail
                refine (HIA.out _ HA.out).mono ?_
                rintro e w1 ⟨rfl, hb⟩
                replace HX := Lib.hid (HX.out.all hb)
                replace HB := Lib.hid (HB.out.trans (hb.mono HB.out.size))
                replace HG := Lib.hid (Ni.holds_below HG.out hb)
                replace HA := Lib.hid (Ae.holds_below HA.out hb)
                have hs1 : w.heap.size < w1.heap.size := Nat.lt_of_lt_of_le hs0 hb.size
                clear c0 c1 c2 hb hs0
                obtain ⟨c0, c1, c2⟩ := Bk.three HX.out
                go_wp2_with fail
                refine (HIC.out _ HG.out).mono ?_
                rintro e w2 ⟨rfl, hb⟩
                replace HX := Lib.hid (HX.out.all hb)
                replace HB := Lib.hid (HB.out.trans (hb.mono HB.out.size))
                replace HG := Lib.hid (Ni.holds_below HG.out hb)
                replace HA := Lib.hid (Ae.holds_below HA.out hb)
                have hs2 : w.heap.size < w2.heap.size := Nat.lt_of_lt_of_le hs1 hb.size
                clear c0 c1 c2 hb hs1
                obtain ⟨c0, c1, c2⟩ := Bk.three HX.out
                go_wp2_with fail
                refine (HW.out _).mono ?_
                rintro e wq ⟨rfl, rfl⟩
                go_wp2
                go_ret
                exact ⟨ret_bool (by rw [HV.out, HV2.out]), HB.out⟩
              · by_cases h1 : u = uid
                · have HV2 := Lib.hid (show decideV (u, g, gl) uid gid mode l want = covB (permOfV mode 0) want by rw [decideV, if_neg h0, if_pos h1])
                  have HC0 := Lib.hid (fun W => class_any mode 0 W)
                  have HI0 := Lib.hid (fun W => Pm.isin_any want (permOfV mode 0) W HW8.out (permOf_range _ _))
                  have hu0 : (u == 0) = false := beq_eq_false_iff_ne.2 h0
                  generalize permOfV mode 0 = p0 at HV2 HC0 HI0
                  subst h1
                  clear h0
                  go_enter Tryz.func137, Tryz.ntmps137
                  go_wp2_with fail
                  generalize w.alloc (.cells #[.int .i64 u, .int .i64 g, .slice ga NG gc] 54) = w0 at hx HB HG HA hs0 ⊢
                  obtain ⟨c0, c1, c2⟩ := Bk.three hx
                  have HX := Lib.hid hx
                  clear hx
                  go_wp2_with fail
                  refine (HU1.out _).mono ?_
                  rintro e wq ⟨rfl, rfl⟩
                  go_wp2_with fail
                  refine (HU2.out _).mono ?_
                  rintro e wq ⟨rfl, rfl⟩
                  go_wp2_with fail
                  refine (HM.out _).mono ?_
                  rintro e wq ⟨rfl, rfl⟩
                  go_wp2_with fail
                  refine (HIA.out _ HA.out).mono ?_
                  rintro e w1 ⟨rfl, hb⟩
                  replace HX := Lib.hid (HX.out.all hb)
                  replace HB := Lib.hid (HB.out.trans (hb.mono HB.out.size))
                  replace HG := Lib.hid (Ni.holds_below HG.out hb)
                  replace HA := Lib.hid (Ae.holds_below HA.out hb)
                  have hs1 : w.heap.size < w1.heap.size := Nat.lt_of_lt_of_le hs0 hb.size
                  clear c0 c1 c2 hb hs0
                  obtain ⟨c0, c1, c2⟩ := Bk.three HX.out
                  go_wp2_with fail
                  refine (HIC.out _ HG.out).mono ?_
                  rintro e w2 ⟨rfl, hb⟩
                  replace HX := Lib.hid (HX.out.all hb)
                  replace HB := Lib.hid (HB.out.trans (hb.mono HB.out.size))
                  replace HG := Lib.hid (Ni.holds_below HG.out hb)
                  replace HA := Lib.hid (Ae.holds_below HA.out hb)
                  have hs2 : w.heap.size < w2.heap.size := Nat.lt_of_lt_of_le hs1 hb.size
                  clear c0 c1 c2 hb hs1
                  obtain ⟨c0, c1, c2⟩ := Bk.three HX.out
                  go_wp2_with fail
                  refine (HW.out _).mono ?_
                  rintro e wq ⟨rfl, rfl⟩
                  go_wp2_with fail
                  refine (HC0.out _).mono ?_
                  rintro e wq ⟨rfl, rfl⟩
                  go_wp2_with fail
                  refine (HI0.out _).mono ?_
                  rintro e wq ⟨rfl, rfl⟩
                  go_wp2
                  go_ret
                  exact ⟨ret_bool (by rw [HV.out, HV2.out]), HB.out⟩
                · have HD := Lib.hid (decide_masked (c := (u, g, gl)) (uid := uid) (gid := gid) (mode := mode) (l := l) (want := want) HOK.out HW8.out h0 h1)
                  have HIN := Lib.hid (maskL_in (c := (u, g, gl)) (gid := gid) (mode := mode) (l := l) HOK.out)
                  have hu0 : (u == 0) = false := beq_eq_false_iff_ne.2 h0
                  have hu1 : (u == uid) = false := beq_eq_false_iff_ne.2 h1
                  clear h0 h1
                  generalize maskL (u, g, gl) gid mode l = ml at HD HIN HMP HML
                  by_cases hml : ml = []
                  · subst hml
                    rw [if_pos rfl] at HD
                    have HC2 := Lib.hid (fun W => class_any mode 2 W)
                    have HI2 := Lib.hid (fun W => Pm.isin_any want (permOfV mode 2) W HW8.out (permOf_range _ _))
                    generalize permOfV mode 2 = p2 at HD HC2 HI2
                    go_enter Tryz.func137, Tryz.ntmps137
                    go_wp2_with fail
                    generalize w.alloc (.cells #[.int .i64 u, .int .i64 g, .slice ga NG gc] 54) = w0 at hx HB HG HA hs0 ⊢
                    obtain ⟨c0, c1, c2⟩ := Bk.three hx
                    have HX := Lib.hid hx
                    clear hx
                    go_wp2_with fail
                    refine (HU1.out _).mono ?_
                    rintro e wq ⟨rfl, rfl⟩
                    go_wp2_with fail
                    refine (HU2.out _).mono ?_
                    rintro e wq ⟨rfl, rfl⟩
                    go_wp2_with fail
                    refine (HM.out _).mono ?_
                    rintro e wq ⟨rfl, rfl⟩
                    go_wp2_with fail
                    refine (HIA.out _ HA.out).mono ?_
                    rintro e w1 ⟨rfl, hb⟩
                    replace HX := Lib.hid (HX.out.all hb)
                    replace HB := Lib.hid (HB.out.trans (hb.mono HB.out.size))
                    replace HG := Lib.hid (Ni.holds_below HG.out hb)
                    replace HA := Lib.hid (Ae.holds_below HA.out hb)
                    have hs1 : w.heap.size < w1.heap.size := Nat.lt_of_lt_of_le hs0 hb.size
                    clear c0 c1 c2 hb hs0
                    obtain ⟨c0, c1, c2⟩ := Bk.three HX.out
                    go_wp2_with fail
                    refine (HIC.out _ HG.out).mono ?_
                    rintro e w2 ⟨rfl, hb⟩
                    replace HX := Lib.hid (HX.out.all hb)
                    replace HB := Lib.hid (HB.out.trans (hb.mono HB.out.size))
                    replace HG := Lib.hid (Ni.holds_below HG.out hb)
                    replace HA := Lib.hid (Ae.holds_below HA.out hb)
                    have hs2 : w.heap.size < w2.heap.size := Nat.lt_of_lt_of_le hs1 hb.size
                    clear c0 c1 c2 hb hs1
                    obtain ⟨c0, c1, c2⟩ := Bk.three HX.out
                    go_wp2_with fail
                    refine (HW.out _).mono ?_
                    rintro e wq ⟨rfl, rfl⟩
                    go_wp2_with fail
                    refine (HMP.out _ HG.out HA.out).mono ?_
                    rintro e w3 ⟨mv, rfl, hown, hb⟩
                    obtain ⟨ma, mc, rfl⟩ := Dk.slice_of hown
                    clear hown
                    simp only [List.length_nil]
                    replace HX := Lib.hid (HX.out.all hb)
                    replace HB := Lib.hid (HB.out.trans (hb.mono HB.out.size))
                    replace HG := Lib.hid (Ni.holds_below HG.out hb)
                    replace HA := Lib.hid (Ae.holds_below HA.out hb)
                    have hs3 : w.heap.size < w3.heap.size := Nat.lt_of_lt_of_le hs2 hb.size
                    clear c0 c1 c2 hb hs2
                    obtain ⟨c0, c1, c2⟩ := Bk.three HX.out
                    go_wp2_with fail
                    refine (HC2.out _).mono ?_
                    rintro e wq ⟨rfl, rfl⟩
                    go_wp2_with fail
                    refine (HI2.out _).mono ?_
                    rintro e wq ⟨rfl, rfl⟩
                    go_wp2
                    go_ret
                    exact ⟨ret_bool (by rw [HV.out, HD.out]), HB.out⟩
                  · rw [if_neg hml] at HD
                    have hpos : 0 < ml.length := List.length_pos_iff.2 hml
                    have HI3 := Lib.hid (fun W => Pm.isin_any want (maskV l) W HW8.out (mask_in HOK.out))
                    have HON := Lib.hid (fun W v h => oneof_any W v ml want (by have := HML.out; omega) HW8.out HIN.out h)
                    obtain ⟨NM, hNM⟩ : ∃ NM, NM = ml.length := ⟨_, rfl⟩
                    have HNM := Lib.hid hNM
                    rw [← hNM] at hpos
                    have hne : (0 : Int) < (NM : Int) := by omega
                    clear hml hNM
                    generalize maskV l = mk at HD HI3 HMA
                    cases hcv : covB mk want
                    · rw [hcv] at HI3
                      rw [hcv, Bool.false_and] at HD
                      clear hcv
                      go_enter Tryz.func137, Tryz.ntmps137
                      go_wp2_with fail
                      generalize w.alloc (.cells #[.int .i64 u, .int .i64 g, .slice ga NG gc] 54) = w0 at hx HB HG HA hs0 ⊢
                      obtain ⟨c0, c1, c2⟩ := Bk.three hx
                      have HX := Lib.hid hx
                      clear hx
                      go_wp2_with fail
                      refine (HU1.out _).mono ?_
                      rintro e wq ⟨rfl, rfl⟩
                      go_wp2_with fail
                      refine (HU2.out _).mono ?_
                      rintro e wq ⟨rfl, rfl⟩
                      go_wp2_with fail
                      refine (HM.out _).mono ?_
                      rintro e wq ⟨rfl, rfl⟩
                      go_wp2_with fail
                      refine (HIA.out _ HA.out).mono ?_
                      rintro e w1 ⟨rfl, hb⟩
                      replace HX := Lib.hid (HX.out.all hb)
                      replace HB := Lib.hid (HB.out.trans (hb.mono HB.out.size))
                      replace HG := Lib.hid (Ni.holds_below HG.out hb)
                      replace HA := Lib.hid (Ae.holds_below HA.out hb)
                      have hs1 : w.heap.size < w1.heap.size := Nat.lt_of_lt_of_le hs0 hb.size
                      clear c0 c1 c2 hb hs0
                      obtain ⟨c0, c1, c2⟩ := Bk.three HX.out
                      go_wp2_with fail
                      refine (HIC.out _ HG.out).mono ?_
                      rintro e w2 ⟨rfl, hb⟩
                      replace HX := Lib.hid (HX.out.all hb)
                      replace HB := Lib.hid (HB.out.trans (hb.mono HB.out.size))
                      replace HG := Lib.hid (Ni.holds_below HG.out hb)
                      replace HA := Lib.hid (Ae.holds_below HA.out hb)
                      have hs2 : w.heap.size < w2.heap.size := Nat.lt_of_lt_of_le hs1 hb.size
                      clear c0 c1 c2 hb hs1
                      obtain ⟨c0, c1, c2⟩ := Bk.three HX.out
                      go_wp2_with fail
                      refine (HW.out _).mono ?_
                      rintro e wq ⟨rfl, rfl⟩
                      go_wp2_with fail
                      refine (HMP.out _ HG.out HA.out).mono ?_
                      rintro e w3 ⟨mv, rfl, hown, hb⟩
                      have HOL := Lib.hid (Ni.holds_of_own (bs := ml) hown)
                      obtain ⟨ma, mc, rfl⟩ := Dk.slice_of hown
                      clear hown
                      rw [← HNM.out] at HOL ⊢
                      replace HX := Lib.hid (HX.out.all hb)
                      replace HB := Lib.hid (HB.out.trans (hb.mono HB.out.size))
                      replace HG := Lib.hid (Ni.holds_below HG.out hb)
                      replace HA := Lib.hid (Ae.holds_below HA.out hb)
                      have hs3 : w.heap.size < w3.heap.size := Nat.lt_of_lt_of_le hs2 hb.size
                      clear c0 c1 c2 hb hs2
                      obtain ⟨c0, c1, c2⟩ := Bk.three HX.out
                      go_wp2_with fail
                      refine (HMA.out _ HA.out).mono ?_
                      rintro e w4 ⟨rfl, hb⟩
                      replace HX := Lib.hid (HX.out.all hb)
                      replace HB := Lib.hid (HB.out.trans (hb.mono HB.out.size))
                      replace HG := Lib.hid (Ni.holds_below HG.out hb)
                      replace HA := Lib.hid (Ae.holds_below HA.out hb)
                      have hs4 : w.heap.size < w4.heap.size := Nat.lt_of_lt_of_le hs3 hb.size
                      replace HOL := Lib.hid (Ni.holds_below HOL.out hb)
                      clear c0 c1 c2 hb hs3
                      obtain ⟨c0, c1, c2⟩ := Bk.three HX.out
                      go_wp2_with fail
                      refine (HI3.out _).mono ?_
                      rintro e wq ⟨rfl, rfl⟩
                      go_wp2
                      go_ret
                      exact ⟨ret_bool (by rw [HV.out, HD.out]), HB.out⟩
                    · rw [hcv] at HI3
                      rw [hcv, Bool.true_and] at HD
                      clear hcv
                      go_enter Tryz.func137, Tryz.ntmps137
                      go_wp2_with fail
                      generalize w.alloc (.cells #[.int .i64 u, .int .i64 g, .slice ga NG gc] 54) = w0 at hx HB HG HA hs0 ⊢
                      obtain ⟨c0, c1, c2⟩ := Bk.three hx
                      have HX := Lib.hid hx
                      clear hx
                      go_wp2_with fail
                      refine (HU1.out _).mono ?_
                      rintro e wq ⟨rfl, rfl⟩
                      go_wp2_with fail
                      refine (HU2.out _).mono ?_
                      rintro e wq ⟨rfl, rfl⟩
                      go_wp2_with fail
                      refine (HM.out _).mono ?_
                      rintro e wq ⟨rfl, rfl⟩
                      go_wp2_with fail
                      refine (HIA.out _ HA.out).mono ?_
                      rintro e w1 ⟨rfl, hb⟩
                      replace HX := Lib.hid (HX.out.all hb)
                      replace HB := Lib.hid (HB.out.trans (hb.mono HB.out.size))
                      replace HG := Lib.hid (Ni.holds_below HG.out hb)
                      replace HA := Lib.hid (Ae.holds_below HA.out hb)
                      have hs1 : w.heap.size < w1.heap.size := Nat.lt_of_lt_of_le hs0 hb.size
                      clear c0 c1 c2 hb hs0
                      obtain ⟨c0, c1, c2⟩ := Bk.three HX.out
                      go_wp2_with fail
                      refine (HIC.out _ HG.out).mono ?_
                      rintro e w2 ⟨rfl, hb⟩
                      replace HX := Lib.hid (HX.out.all hb)
                      replace HB := Lib.hid (HB.out.trans (hb.mono HB.out.size))
                      replace HG := Lib.hid (Ni.holds_below HG.out hb)
                      replace HA := Lib.hid (Ae.holds_below HA.out hb)
                      have hs2 : w.heap.size < w2.heap.size := Nat.lt_of_lt_of_le hs1 hb.size
                      clear c0 c1 c2 hb hs1
                      obtain ⟨c0, c1, c2⟩ := Bk.three HX.out
                      go_wp2_with fail
                      refine (HW.out _).mono ?_
                      rintro e wq ⟨rfl, rfl⟩
                      go_wp2_with fail
                      refine (HMP.out _ HG.out HA.out).mono ?_
                      rintro e w3 ⟨mv, rfl, hown, hb⟩
                      have HOL := Lib.hid (Ni.holds_of_own (bs := ml) hown)
                      obtain ⟨ma, mc, rfl⟩ := Dk.slice_of hown
                      clear hown
                      rw [← HNM.out] at HOL ⊢
                      replace HX := Lib.hid (HX.out.all hb)
                      replace HB := Lib.hid (HB.out.trans (hb.mono HB.out.size))
                      replace HG := Lib.hid (Ni.holds_below HG.out hb)
                      replace HA := Lib.hid (Ae.holds_below HA.out hb)
                      have hs3 : w.heap.size < w3.heap.size := Nat.lt_of_lt_of_le hs2 hb.size
                      clear c0 c1 c2 hb hs2
                      obtain ⟨c0, c1, c2⟩ := Bk.three HX.out
                      go_wp2_with fail
                      refine (HMA.out _ HA.out).mono ?_
                      rintro e w4 ⟨rfl, hb⟩
                      replace HX := Lib.hid (HX.out.all hb)
                      replace HB := Lib.hid (HB.out.trans (hb.mono HB.out.size))
                      replace HG := Lib.hid (Ni.holds_below HG.out hb)
                      replace HA := Lib.hid (Ae.holds_below HA.out hb)
                      have hs4 : w.heap.size < w4.heap.size := Nat.lt_of_lt_of_le hs3 hb.size
                      replace HOL := Lib.hid (Ni.holds_below HOL.out hb)
                      clear c0 c1 c2 hb hs3
                      obtain ⟨c0, c1, c2⟩ := Bk.three HX.out
                      go_wp2_with fail
                      refine (HI3.out _).mono ?_
                      rintro e wq ⟨rfl, rfl⟩
                      go_wp2_with fail
                      refine (HON.out _ _ HOL.out).mono ?_
                      rintro e wq ⟨rfl, rfl⟩
                      go_wp2
                      go_ret
                      exact ⟨ret_bool (by rw [HV.out, HD.out]), HB.out⟩
end Go.Proofs.YthppbcnejapbiaaGreatDoor.Aw

-- YthppbcnejapbiaaGreatDoorAs
/- Contract: the model's Allowed. Conditions: the number of groups and of entries. -/
namespace Go.Proofs.YthppbcnejapbiaaGreatDoor.As
open Go.ChangeShapes Go.WideShapes Go.ChangeAt Go.RowKit
open Bx CredV ModeV Al Aw
open AclV (At a0 okB permV maskV)
open Ni (HoldsN)
open Dk (ret_bool)
open Strs (ret_int own_below)
open AclB (cells_new)
set_option linter.unusedVariables false


set_option maxRecDepth 100000 in
set_option maxHeartbeats 6400000 in
theorem allowed_spec (w : World) (u g : Int) (gv : Value) (gl : List Int) (uid gid mode : Int) (av : Value) (l : List At) (want : Int) (hgl : gl.length ≤ 1073741824) (hal : l.length ≤ 1048576) (hG : HoldsN w gv gl) (hA : Ae.Holds w av l) :
    Calls Tryz.prog 136 #[.agg #[.int .i64 u, .int .i64 g, gv], .int .i64 uid, .int .i64 gid, .int .i64 mode, av, .int .i64 want] w fun e w' => e = .returned (.bool (allowedV (u, g, gl) uid gid mode l want)) ∧ Below w.heap.size w w' := by
  have HB := Lib.hid ((Below.refl w.heap.size w).alloc (Nat.le_refl _) (.cells #[.int .i64 u, .int .i64 g, gv] 54))
  have hx := new w #[.int .i64 u, .int .i64 g, gv] 54
  have HG := Lib.hid (Ni.holds_below hG HB.out)
  have HA := Lib.hid (Ae.holds_below hA HB.out)
  obtain ⟨ga, gc, rfl, _⟩ := hG
  obtain ⟨aa, ac, rfl, hat⟩ := Ae.atL hA
  have HAT := Lib.hid hat
  clear hA hat
  have hs0 : w.heap.size < (w.alloc (.cells #[.int .i64 u, .int .i64 g, .slice ga gl.length gc] 54)).heap.size := by simp
  have HU1 := Lib.hid (fun W => Pm.user_spec uid W)
  have HU2 := Lib.hid (fun W => Pm.user_spec gid W)
  have HM := Lib.hid (fun W => Pm.mode_spec mode W)
  have HW := Lib.hid (fun W => AclS.in_any want 0 7 W)
  have HIA := Lib.hid (fun W h => AclI.spec_any W (.slice aa l.length ac) l (by omega) h)
  have HIC := Lib.hid (fun W h => CrI.cred_spec W u g (.slice ga gl.length gc) gl hgl h)
  have HMA := Lib.hid (fun W h => AclQ.mask_spec W (.slice aa l.length ac) l (by omega) h)
  have HPM := Lib.hid (fun W h => AclQ.perm_spec W (.slice aa l.length ac) l 1 u (by omega) h)
  have HIN := Lib.hid (fun W n h => CrI.in_spec W u g (.slice ga gl.length gc) gl n hgl h)
  obtain ⟨NG, hNG⟩ : ∃ NG, NG = gl.length := ⟨_, rfl⟩
  rw [← hNG] at hx HB HG HA hs0 HIC HIN ⊢
  clear hNG hgl
  obtain ⟨N, hN⟩ : ∃ N, N = l.length := ⟨_, rfl⟩
  rw [← hN] at HA HIA HMA HPM hal ⊢
  have HN := Lib.hid hN
  clear hN

  cases hcred : credB (u, g, gl)
  · have HV := Lib.hid (show allowedV (u, g, gl) uid gid mode l want = false by simp only [allowedV, argsB, hcred, Bool.false_and])
    rw [hcred] at HIC
    clear hcred
    go_enter Tryz.func136, Tryz.ntmps136
    go_wp2_with fail
    generalize w.alloc (.cells #[.int .i64 u, .int .i64 g, .slice ga NG gc] 54) = w0 at hx HB HG HA hs0 ⊢
    obtain ⟨c0, c1, c2⟩ := Bk.three hx
    have HX := Lib.hid hx
    clear hx
    go_wp2_with fail
    refine (HIC.out _ HG.out).mono ?_
    rintro e w1 ⟨rfl, hb⟩
    replace HX := Lib.hid (HX.out.all hb)
    replace HB := Lib.hid (HB.out.trans (hb.mono HB.out.size))
    replace HG := Lib.hid (Ni.holds_below HG.out hb)
    replace HA := Lib.hid (Ae.holds_below HA.out hb)
    have hs1 : w.heap.size < w1.heap.size := Nat.lt_of_lt_of_le hs0 hb.size
    clear c0 c1 c2 hb hs0
    obtain ⟨c0, c1, c2⟩ := Bk.three HX.out
    go_wp2
    go_ret
    exact ⟨ret_bool HV.out.symm, HB.out⟩
  · rw [hcred] at HIC
    cases hacl : okB l
    · have HV := Lib.hid (show allowedV (u, g, gl) uid gid mode l want = false by simp only [allowedV, argsB, hacl, Bool.and_false, Bool.false_and])
      rw [hacl] at HIA
      clear hcred hacl
      go_enter Tryz.func136, Tryz.ntmps136
      go_wp2_with fail
      generalize w.alloc (.cells #[.int .i64 u, .int .i64 g, .slice ga NG gc] 54) = w0 at hx HB HG HA hs0 ⊢
      obtain ⟨c0, c1, c2⟩ := Bk.three hx
      have HX := Lib.hid hx
      clear hx
      go_wp2_with fail
      refine (HIC.out _ HG.out).mono ?_
      rintro e w1 ⟨rfl, hb⟩
      replace HX := Lib.hid (HX.out.all hb)
      replace HB := Lib.hid (HB.out.trans (hb.mono HB.out.size))
      replace HG := Lib.hid (Ni.holds_below HG.out hb)
      replace HA := Lib.hid (Ae.holds_below HA.out hb)
      have hs1 : w.heap.size < w1.heap.size := Nat.lt_of_lt_of_le hs0 hb.size
      clear c0 c1 c2 hb hs0
      obtain ⟨c0, c1, c2⟩ := Bk.three HX.out
      go_wp2_with fail
      refine (HIA.out _ HA.out).mono ?_
      rintro e w2 ⟨rfl, hb⟩
      replace HX := Lib.hid (HX.out.all hb)
      replace HB := Lib.hid (HB.out.trans (hb.mono HB.out.size))
      replace HG := Lib.hid (Ni.holds_below HG.out hb)
      replace HA := Lib.hid (Ae.holds_below HA.out hb)
      have hs2 : w.heap.size < w2.heap.size := Nat.lt_of_lt_of_le hs1 hb.size
      clear c0 c1 c2 hb hs1
      obtain ⟨c0, c1, c2⟩ := Bk.three HX.out
      go_wp2
      go_ret
      exact ⟨ret_bool HV.out.symm, HB.out⟩
    · rw [hacl] at HIA
      cases huid : userB uid
      · have HV := Lib.hid (show allowedV (u, g, gl) uid gid mode l want = false by simp only [allowedV, argsB, huid, Bool.and_false, Bool.false_and])
        rw [huid] at HU1
        clear hcred hacl huid
        go_enter Tryz.func136, Tryz.ntmps136
        go_wp2_with fail
        generalize w.alloc (.cells #[.int .i64 u, .int .i64 g, .slice ga NG gc] 54) = w0 at hx HB HG HA hs0 ⊢
        obtain ⟨c0, c1, c2⟩ := Bk.three hx
        have HX := Lib.hid hx
        clear hx
        go_wp2_with fail
        refine (HIC.out _ HG.out).mono ?_
        rintro e w1 ⟨rfl, hb⟩
        replace HX := Lib.hid (HX.out.all hb)
        replace HB := Lib.hid (HB.out.trans (hb.mono HB.out.size))
        replace HG := Lib.hid (Ni.holds_below HG.out hb)
        replace HA := Lib.hid (Ae.holds_below HA.out hb)
        have hs1 : w.heap.size < w1.heap.size := Nat.lt_of_lt_of_le hs0 hb.size
        clear c0 c1 c2 hb hs0
        obtain ⟨c0, c1, c2⟩ := Bk.three HX.out
        go_wp2_with fail
        refine (HIA.out _ HA.out).mono ?_
        rintro e w2 ⟨rfl, hb⟩
        replace HX := Lib.hid (HX.out.all hb)
        replace HB := Lib.hid (HB.out.trans (hb.mono HB.out.size))
        replace HG := Lib.hid (Ni.holds_below HG.out hb)
        replace HA := Lib.hid (Ae.holds_below HA.out hb)
        have hs2 : w.heap.size < w2.heap.size := Nat.lt_of_lt_of_le hs1 hb.size
        clear c0 c1 c2 hb hs1
        obtain ⟨c0, c1, c2⟩ := Bk.three HX.out
        go_wp2_with fail
        refine (HU1.out _).mono ?_
        rintro e wq ⟨rfl, rfl⟩
        go_wp2
        go_ret
        exact ⟨ret_bool HV.out.symm, HB.out⟩
      · rw [huid] at HU1
        cases hgid : userB gid
        · have HV := Lib.hid (show allowedV (u, g, gl) uid gid mode l want = false by simp only [allowedV, argsB, hgid, Bool.and_false, Bool.false_and, Bool.and_assoc])
          rw [hgid] at HU2
          clear hcred hacl huid hgid
          go_enter Tryz.func136, Tryz.ntmps136
          go_wp2_with fail
          generalize w.alloc (.cells #[.int .i64 u, .int .i64 g, .slice ga NG gc] 54) = w0 at hx HB HG HA hs0 ⊢
          obtain ⟨c0, c1, c2⟩ := Bk.three hx
          have HX := Lib.hid hx
          clear hx
          go_wp2_with fail
          refine (HIC.out _ HG.out).mono ?_
          rintro e w1 ⟨rfl, hb⟩
          replace HX := Lib.hid (HX.out.all hb)
          replace HB := Lib.hid (HB.out.trans (hb.mono HB.out.size))
          replace HG := Lib.hid (Ni.holds_below HG.out hb)
          replace HA := Lib.hid (Ae.holds_below HA.out hb)
          have hs1 : w.heap.size < w1.heap.size := Nat.lt_of_lt_of_le hs0 hb.size
          clear c0 c1 c2 hb hs0
          obtain ⟨c0, c1, c2⟩ := Bk.three HX.out
          go_wp2_with fail
          refine (HIA.out _ HA.out).mono ?_
          rintro e w2 ⟨rfl, hb⟩
          replace HX := Lib.hid (HX.out.all hb)
          replace HB := Lib.hid (HB.out.trans (hb.mono HB.out.size))
          replace HG := Lib.hid (Ni.holds_below HG.out hb)
          replace HA := Lib.hid (Ae.holds_below HA.out hb)
          have hs2 : w.heap.size < w2.heap.size := Nat.lt_of_lt_of_le hs1 hb.size
          clear c0 c1 c2 hb hs1
          obtain ⟨c0, c1, c2⟩ := Bk.three HX.out
          go_wp2_with fail
          refine (HU1.out _).mono ?_
          rintro e wq ⟨rfl, rfl⟩
          go_wp2_with fail
          refine (HU2.out _).mono ?_
          rintro e wq ⟨rfl, rfl⟩
          go_wp2
          go_ret
          exact ⟨ret_bool HV.out.symm, HB.out⟩
        · rw [hgid] at HU2
          cases hmode : modeB mode
          · have HV := Lib.hid (show allowedV (u, g, gl) uid gid mode l want = false by simp only [allowedV, argsB, hmode, Bool.and_false, Bool.false_and, Bool.and_assoc])
            rw [hmode] at HM
            clear hcred hacl huid hgid hmode
            go_enter Tryz.func136, Tryz.ntmps136
            go_wp2_with fail
            generalize w.alloc (.cells #[.int .i64 u, .int .i64 g, .slice ga NG gc] 54) = w0 at hx HB HG HA hs0 ⊢
            obtain ⟨c0, c1, c2⟩ := Bk.three hx
            have HX := Lib.hid hx
            clear hx
            go_wp2_with fail
            refine (HIC.out _ HG.out).mono ?_
            rintro e w1 ⟨rfl, hb⟩
            replace HX := Lib.hid (HX.out.all hb)
            replace HB := Lib.hid (HB.out.trans (hb.mono HB.out.size))
            replace HG := Lib.hid (Ni.holds_below HG.out hb)
            replace HA := Lib.hid (Ae.holds_below HA.out hb)
            have hs1 : w.heap.size < w1.heap.size := Nat.lt_of_lt_of_le hs0 hb.size
            clear c0 c1 c2 hb hs0
            obtain ⟨c0, c1, c2⟩ := Bk.three HX.out
            go_wp2_with fail
            refine (HIA.out _ HA.out).mono ?_
            rintro e w2 ⟨rfl, hb⟩
            replace HX := Lib.hid (HX.out.all hb)
            replace HB := Lib.hid (HB.out.trans (hb.mono HB.out.size))
            replace HG := Lib.hid (Ni.holds_below HG.out hb)
            replace HA := Lib.hid (Ae.holds_below HA.out hb)
            have hs2 : w.heap.size < w2.heap.size := Nat.lt_of_lt_of_le hs1 hb.size
            clear c0 c1 c2 hb hs1
            obtain ⟨c0, c1, c2⟩ := Bk.three HX.out
            go_wp2_with fail
            refine (HU1.out _).mono ?_
            rintro e wq ⟨rfl, rfl⟩
            go_wp2_with fail
            refine (HU2.out _).mono ?_
            rintro e wq ⟨rfl, rfl⟩
            go_wp2_with fail
            refine (HM.out _).mono ?_
            rintro e wq ⟨rfl, rfl⟩
            go_wp2
            go_ret
            exact ⟨ret_bool HV.out.symm, HB.out⟩
          · rw [hmode] at HM
            cases hwant : (decide (0 ≤ want) && decide (want ≤ 7))
            · have HV := Lib.hid (show allowedV (u, g, gl) uid gid mode l want = false by rw [allowedV, argsB, Bool.and_assoc (credB (u, g, gl) && okB l && userB uid && userB gid && modeB mode), hwant, Bool.and_false, Bool.false_and])
              rw [hwant] at HW
              clear hcred hacl huid hgid hmode hwant
              go_enter Tryz.func136, Tryz.ntmps136
              go_wp2_with fail
              generalize w.alloc (.cells #[.int .i64 u, .int .i64 g, .slice ga NG gc] 54) = w0 at hx HB HG HA hs0 ⊢
              obtain ⟨c0, c1, c2⟩ := Bk.three hx
              have HX := Lib.hid hx
              clear hx
              go_wp2_with fail
              refine (HIC.out _ HG.out).mono ?_
              rintro e w1 ⟨rfl, hb⟩
              replace HX := Lib.hid (HX.out.all hb)
              replace HB := Lib.hid (HB.out.trans (hb.mono HB.out.size))
              replace HG := Lib.hid (Ni.holds_below HG.out hb)
              replace HA := Lib.hid (Ae.holds_below HA.out hb)
              have hs1 : w.heap.size < w1.heap.size := Nat.lt_of_lt_of_le hs0 hb.size
              clear c0 c1 c2 hb hs0
              obtain ⟨c0, c1, c2⟩ := Bk.three HX.out
              go_wp2_with fail
              refine (HIA.out _ HA.out).mono ?_
              rintro e w2 ⟨rfl, hb⟩
              replace HX := Lib.hid (HX.out.all hb)
              replace HB := Lib.hid (HB.out.trans (hb.mono HB.out.size))
              replace HG := Lib.hid (Ni.holds_below HG.out hb)
              replace HA := Lib.hid (Ae.holds_below HA.out hb)
              have hs2 : w.heap.size < w2.heap.size := Nat.lt_of_lt_of_le hs1 hb.size
              clear c0 c1 c2 hb hs1
              obtain ⟨c0, c1, c2⟩ := Bk.three HX.out
              go_wp2_with fail
              refine (HU1.out _).mono ?_
              rintro e wq ⟨rfl, rfl⟩
              go_wp2_with fail
              refine (HU2.out _).mono ?_
              rintro e wq ⟨rfl, rfl⟩
              go_wp2_with fail
              refine (HM.out _).mono ?_
              rintro e wq ⟨rfl, rfl⟩
              go_wp2_with fail
              refine (HW.out _).mono ?_
              rintro e wq ⟨rfl, rfl⟩
              go_wp2
              go_ret
              exact ⟨ret_bool HV.out.symm, HB.out⟩
            · rw [hwant] at HW
              have hw8 : In8 want := by simp only [Bool.and_eq_true, decide_eq_true_eq] at hwant; exact hwant
              have HV := Lib.hid (show allowedV (u, g, gl) uid gid mode l want = decideV (u, g, gl) uid gid mode l want by rw [allowedV, argsB, Bool.and_assoc (credB (u, g, gl) && okB l && userB uid && userB gid && modeB mode), hwant, huid, hgid, hmode, hacl, hcred]; rfl)
              have HW8 := Lib.hid hw8
              have HOK := Lib.hid hacl
              clear hcred hacl huid hgid hmode hwant hw8
              by_cases h0 : u = 0
              · have HV2 := Lib.hid (show decideV (u, g, gl) uid gid mode l want = true by rw [decideV, if_pos h0])
                subst h0
                go_enter Tryz.func136, Tryz.ntmps136
                go_wp2_with fail
                generalize w.alloc (.cells #[.int .i64 0, .int .i64 g, .slice ga NG gc] 54) = w0 at hx HB HG HA hs0 ⊢
                obtain ⟨c0, c1, c2⟩ := Bk.three hx
                have HX := Lib.hid hx
                clear hx
                go_wp2_with fail
                refine (HIC.out _ HG.out).mono ?_
                rintro e w1 ⟨rfl, hb⟩
                replace HX := Lib.hid (HX.out.all hb)
                replace HB := Lib.hid (HB.out.trans (hb.mono HB.out.size))
                replace HG := Lib.hid (Ni.holds_below HG.out hb)
                replace HA := Lib.hid (Ae.holds_below HA.out hb)
                have hs1 : w.heap.size < w1.heap.size := Nat.lt_of_lt_of_le hs0 hb.size
                clear c0 c1 c2 hb hs0
                obtain ⟨c0, c1, c2⟩ := Bk.three HX.out
                go_wp2_with fail
                refine (HIA.out _ HA.out).mono ?_
                rintro e w2 ⟨rfl, hb⟩
                replace HX := Lib.hid (HX.out.all hb)
                replace HB := Lib.hid (HB.out.trans (hb.mono HB.out.size))
                replace HG := Lib.hid (Ni.holds_below HG.out hb)
                replace HA := Lib.hid (Ae.holds_below HA.out hb)
                have hs2 : w.heap.size < w2.heap.size := Nat.lt_of_lt_of_le hs1 hb.size
                clear c0 c1 c2 hb hs1
                obtain ⟨c0, c1, c2⟩ := Bk.three HX.out
                go_wp2_with fail
                refine (HU1.out _).mono ?_
                rintro e wq ⟨rfl, rfl⟩
                go_wp2_with fail
                refine (HU2.out _).mono ?_
                rintro e wq ⟨rfl, rfl⟩
                go_wp2_with fail
                refine (HM.out _).mono ?_
                rintro e wq ⟨rfl, rfl⟩
                go_wp2_with fail
                refine (HW.out _).mono ?_
                rintro e wq ⟨rfl, rfl⟩
                go_wp2
                go_ret
                exact ⟨ret_bool (by rw [HV.out, HV2.out]), HB.out⟩
              · by_cases h1 : u = uid
                · have HV2 := Lib.hid (show decideV (u, g, gl) uid gid mode l want = covB (permOfV mode 0) want by rw [decideV, if_neg h0, if_pos h1])
                  have HC0 := Lib.hid (fun W => Md.perm_spec mode 0 W)
                  have HI0 := Lib.hid (fun W => Pm.covers_any (permOfV mode 0) want W (permOf_range _ _) HW8.out)
                  have hu0 : (u == 0) = false := beq_eq_false_iff_ne.2 h0
                  generalize permOfV mode 0 = p0 at HV2 HC0 HI0
                  subst h1
                  clear h0
                  go_enter Tryz.func136, Tryz.ntmps136
                  go_wp2_with fail
                  generalize w.alloc (.cells #[.int .i64 u, .int .i64 g, .slice ga NG gc] 54) = w0 at hx HB HG HA hs0 ⊢
                  obtain ⟨c0, c1, c2⟩ := Bk.three hx
                  have HX := Lib.hid hx
                  clear hx
                  go_wp2_with fail
                  refine (HIC.out _ HG.out).mono ?_
                  rintro e w1 ⟨rfl, hb⟩
                  replace HX := Lib.hid (HX.out.all hb)
                  replace HB := Lib.hid (HB.out.trans (hb.mono HB.out.size))
                  replace HG := Lib.hid (Ni.holds_below HG.out hb)
                  replace HA := Lib.hid (Ae.holds_below HA.out hb)
                  have hs1 : w.heap.size < w1.heap.size := Nat.lt_of_lt_of_le hs0 hb.size
                  clear c0 c1 c2 hb hs0
                  obtain ⟨c0, c1, c2⟩ := Bk.three HX.out
                  go_wp2_with fail
                  refine (HIA.out _ HA.out).mono ?_
                  rintro e w2 ⟨rfl, hb⟩
                  replace HX := Lib.hid (HX.out.all hb)
                  replace HB := Lib.hid (HB.out.trans (hb.mono HB.out.size))
                  replace HG := Lib.hid (Ni.holds_below HG.out hb)
                  replace HA := Lib.hid (Ae.holds_below HA.out hb)
                  have hs2 : w.heap.size < w2.heap.size := Nat.lt_of_lt_of_le hs1 hb.size
                  clear c0 c1 c2 hb hs1
                  obtain ⟨c0, c1, c2⟩ := Bk.three HX.out
                  go_wp2_with fail
                  refine (HU1.out _).mono ?_
                  rintro e wq ⟨rfl, rfl⟩
                  go_wp2_with fail
                  refine (HU2.out _).mono ?_
                  rintro e wq ⟨rfl, rfl⟩
                  go_wp2_with fail
                  refine (HM.out _).mono ?_
                  rintro e wq ⟨rfl, rfl⟩
                  go_wp2_with fail
                  refine (HW.out _).mono ?_
                  rintro e wq ⟨rfl, rfl⟩
                  go_wp2_with fail
                  refine (HC0.out _).mono ?_
                  rintro e wq ⟨rfl, rfl⟩
                  go_wp2_with fail
                  refine (HI0.out _).mono ?_
                  rintro e wq ⟨rfl, rfl⟩
                  go_wp2
                  go_ret
                  exact ⟨ret_bool (by rw [HV.out, HV2.out]), HB.out⟩
                · have HM8 := Lib.hid (mask_in HOK.out)
                  have HP8 := Lib.hid (perm_in HOK.out 1 u)
                  have HCM := Lib.hid (fun W => Pm.covers_any (maskV l) want W HM8.out HW8.out)
                  have hu0 : (u == 0) = false := beq_eq_false_iff_ne.2 h0
                  have hu1 : (u == uid) = false := beq_eq_false_iff_ne.2 h1
                  generalize hpv : permV l 1 u = pv at HPM HP8
                  obtain ⟨pn, pb⟩ := pv
                  have HPV := Lib.hid hpv
                  clear hpv
                  dsimp only at HP8
                  cases pb
                  · have HDV := Lib.hid (show decideV (u, g, gl) uid gid mode l want = if (inB (u, g, gl) gid || l.any (grpB (u, g, gl))) = true then ((inB (u, g, gl) gid && covB (permOfV mode 1) want) || l.any fun x => grpB (u, g, gl) x && covB x.2.2 want) && covB (maskV l) want else covB (permOfV mode 2) want by rw [decideV, if_neg h0, if_neg h1]; dsimp only; rw [HPV.out, if_neg (by simp)])
                    have HIG := Lib.hid (fun W h => HIN.out W gid h)
                    clear h0 h1 HM8
                    cases hin : inB (u, g, gl) gid
                    · rw [hin] at HIG
                      rw [hin, Bool.false_and] at HDV
                      clear hin
                      generalize hmk : maskV l = mk at HMA HCM HDV
                      have HMK := Lib.hid hmk
                      clear hmk
                      go_enter Tryz.func136, Tryz.ntmps136
                      go_wp2_with fail
                      generalize w.alloc (.cells #[.int .i64 u, .int .i64 g, .slice ga NG gc] 54) = w0 at hx HB HG HA hs0 ⊢
                      obtain ⟨c0, c1, c2⟩ := Bk.three hx
                      have HX := Lib.hid hx
                      clear hx
                      go_wp2_with fail
                      refine (HIC.out _ HG.out).mono ?_
                      rintro e w1 ⟨rfl, hb⟩
                      replace HX := Lib.hid (HX.out.all hb)
                      replace HB := Lib.hid (HB.out.trans (hb.mono HB.out.size))
                      replace HG := Lib.hid (Ni.holds_below HG.out hb)
                      replace HA := Lib.hid (Ae.holds_below HA.out hb)
                      have hs1 : w.heap.size < w1.heap.size := Nat.lt_of_lt_of_le hs0 hb.size
                      clear c0 c1 c2 hb hs0
                      obtain ⟨c0, c1, c2⟩ := Bk.three HX.out
                      go_wp2_with fail
                      refine (HIA.out _ HA.out).mono ?_
                      rintro e w2 ⟨rfl, hb⟩
                      replace HX := Lib.hid (HX.out.all hb)
                      replace HB := Lib.hid (HB.out.trans (hb.mono HB.out.size))
                      replace HG := Lib.hid (Ni.holds_below HG.out hb)
                      replace HA := Lib.hid (Ae.holds_below HA.out hb)
                      have hs2 : w.heap.size < w2.heap.size := Nat.lt_of_lt_of_le hs1 hb.size
                      clear c0 c1 c2 hb hs1
                      obtain ⟨c0, c1, c2⟩ := Bk.three HX.out
                      go_wp2_with fail
                      refine (HU1.out _).mono ?_
                      rintro e wq ⟨rfl, rfl⟩
                      go_wp2_with fail
                      refine (HU2.out _).mono ?_
                      rintro e wq ⟨rfl, rfl⟩
                      go_wp2_with fail
                      refine (HM.out _).mono ?_
                      rintro e wq ⟨rfl, rfl⟩
                      go_wp2_with fail
                      refine (HW.out _).mono ?_
                      rintro e wq ⟨rfl, rfl⟩
                      go_wp2_with fail
                      refine (HMA.out _ HA.out).mono ?_
                      rintro e w3 ⟨rfl, hb⟩
                      replace HX := Lib.hid (HX.out.all hb)
                      replace HB := Lib.hid (HB.out.trans (hb.mono HB.out.size))
                      replace HG := Lib.hid (Ni.holds_below HG.out hb)
                      replace HA := Lib.hid (Ae.holds_below HA.out hb)
                      have hs3 : w.heap.size < w3.heap.size := Nat.lt_of_lt_of_le hs2 hb.size
                      clear c0 c1 c2 hb hs2
                      obtain ⟨c0, c1, c2⟩ := Bk.three HX.out
                      go_wp2_with fail
                      refine (HPM.out _ HA.out).mono ?_
                      rintro e w4 ⟨rfl, hb⟩
                      replace HX := Lib.hid (HX.out.all hb)
                      replace HB := Lib.hid (HB.out.trans (hb.mono HB.out.size))
                      replace HG := Lib.hid (Ni.holds_below HG.out hb)
                      replace HA := Lib.hid (Ae.holds_below HA.out hb)
                      have hs4 : w.heap.size < w4.heap.size := Nat.lt_of_lt_of_le hs3 hb.size
                      dsimp only [AclQ.res]
                      clear c0 c1 c2 hb hs3
                      obtain ⟨c0, c1, c2⟩ := Bk.three HX.out
                      go_wp2_with fail
                      refine (HIG.out _ HG.out).mono ?_
                      rintro e w5 ⟨rfl, hb⟩
                      replace HX := Lib.hid (HX.out.all hb)
                      replace HB := Lib.hid (HB.out.trans (hb.mono HB.out.size))
                      replace HG := Lib.hid (Ni.holds_below HG.out hb)
                      replace HA := Lib.hid (Ae.holds_below HA.out hb)
                      have hs5 : w.heap.size < w5.heap.size := Nat.lt_of_lt_of_le hs4 hb.size
                      clear c0 c1 c2 hb hs4
                      obtain ⟨c0, c1, c2⟩ := Bk.three HX.out
                      go_wp2_with fail
                      go_loopw [16, 17, 83] (fun mv fv iv wr => ∃ (k : Nat) (mb fb : Bool), k ≤ N ∧ iv = .int .i64 k ∧ mv = .bool mb ∧ fv = .bool fb ∧ mb = (false || (l.take k).any (grpB (u, g, gl))) ∧ fb = (false || (l.take k).any (fun x => grpB (u, g, gl) x && covB x.2.2 want)) ∧ Below w5.heap.size w5 wr) (fun _ _ iv _ => N - (intOf iv).toNat)
                      case atStart => exact ⟨0, false, false, Nat.zero_le _, rfl, rfl, rfl, by simp, by simp, Below.refl _ _⟩
                      case round =>
                        obtain ⟨k, mb, fb, hk, rfl, rfl, rfl, hmb, hfb, hbel⟩ := hrel
                        have HMB := Lib.hid hmb
                        have HFB := Lib.hid hfb
                        have HBEL := Lib.hid hbel
                        have HBR := Lib.hid (HB.out.trans (hbel.mono HB.out.size))
                        have hwr : w.heap.size < wr.heap.size := Nat.lt_of_lt_of_le hs5 hbel.size
                        have hsz := hbel.size
                        have HXR := Lib.hid (HX.out.all hbel)
                        obtain ⟨c0, c1, c2⟩ := Bk.three HXR.out
                        clear hmb hfb hbel
                        by_cases hlt : k < N
                        · have hlx : k < l.length := by rw [← HN.out]; exact hlt
                          obtain ⟨b, o, rfl, hb, g0, g1, g2⟩ := HAT.out k hlx
                          rw [← HBR.out.cell (p := ⟨b, _, none⟩) hb] at g0 g1 g2
                          have HQ1 := Lib.hid (any_next (grpB (u, g, gl)) hlx)
                          have HQ2 := Lib.hid (any_next (fun x => grpB (u, g, gl) x && covB x.2.2 want) hlx)
                          have HE8 := Lib.hid (ent_in HOK.out (getD_mem hlx))
                          have HGR := Lib.hid (Ni.holds_below HG.out HBEL.out)
                          cases hgq : grpB (u, g, gl) (l.getD k a0)
                          · have HM1 := Lib.hid (show mb = (false || (l.take (k + 1)).any (grpB (u, g, gl))) by rw [HQ1.out, hgq, Bool.or_false]; exact HMB.out)
                            have HM2 := Lib.hid (show fb = (false || (l.take (k + 1)).any (fun x => grpB (u, g, gl) x && covB x.2.2 want)) by rw [HQ2.out, hgq, Bool.false_and, Bool.or_false]; exact HFB.out)
                            have HGQ := Lib.hid hgq
                            clear hgq HQ1 HQ2
                            generalize l.getD k a0 = x at g0 g1 g2 HGQ HE8
                            obtain ⟨n0, n1, n2⟩ := x
                            dsimp only at g0 g1 g2
                            have HB2 := Lib.hid (HBEL.out.alloc hsz (.cells #[.int .i64 n0, .int .i64 n1, .int .i64 n2] 161))
                            have HG2 := Lib.hid (Ni.holds_below HGR.out ((Below.refl wr.heap.size wr).alloc (Nat.le_refl _) (.cells #[.int .i64 n0, .int .i64 n1, .int .i64 n2] 161)))
                            by_cases h0 : n0 = 2
                            · have hib : inB (u, g, gl) n1 = false := by have := HGQ.out; simp only [grpB, h0, decide_true, Bool.true_and] at this; exact this
                              subst h0
                              have HI := Lib.hid (HIN.out _ n1 HG2.out)
                              rw [hib] at HI
                              clear hib
                              go_wp2_with fail
                              refine HI.out.mono ?_
                              rintro e w9 ⟨rfl, hb5⟩
                              replace HB2 := Lib.hid (HB2.out.trans (hb5.mono HB2.out.size))
                              clear hb5
                              go_wp2
                              go_roundw
                              case rel => exact ⟨k + 1, mb, fb, by omega, by go_num, rfl, rfl, HM1.out, HM2.out, HB2.out⟩
                              case measure => simp [intOf]; omega
                            · have h1 : (n0 == 2) = false := beq_eq_false_iff_ne.2 h0
                              clear h0
                              go_wp2
                              go_roundw
                              case rel => exact ⟨k + 1, mb, fb, by omega, by go_num, rfl, rfl, HM1.out, HM2.out, HB2.out⟩
                              case measure => simp [intOf]; omega
                          · have HM1 := Lib.hid (show true = (false || (l.take (k + 1)).any (grpB (u, g, gl))) by rw [HQ1.out, hgq]; simp)
                            have HM2 := Lib.hid (show (fb || covB (l.getD k a0).2.2 want) = (false || (l.take (k + 1)).any (fun x => grpB (u, g, gl) x && covB x.2.2 want)) by rw [HQ2.out, hgq, Bool.true_and, HFB.out, Bool.or_assoc])
                            have HGQ := Lib.hid hgq
                            clear hgq HQ1 HQ2
                            generalize l.getD k a0 = x at g0 g1 g2 HGQ HE8 HM2
                            obtain ⟨n0, n1, n2⟩ := x
                            dsimp only at g0 g1 g2 HM2 HE8
                            have HCE := Lib.hid (fun W => Pm.covers_any n2 want W HE8.out HW8.out)
                            have hib : n0 = 2 ∧ inB (u, g, gl) n1 = true := by
                              have := HGQ.out
                              simp only [grpB, Bool.and_eq_true, decide_eq_true_eq] at this
                              exact this
                            obtain ⟨rfl, hib⟩ := hib
                            have HB2 := Lib.hid (HBEL.out.alloc hsz (.cells #[.int .i64 2, .int .i64 n1, .int .i64 n2] 161))
                            have HG2 := Lib.hid (Ni.holds_below HGR.out ((Below.refl wr.heap.size wr).alloc (Nat.le_refl _) (.cells #[.int .i64 2, .int .i64 n1, .int .i64 n2] 161)))
                            have HI := Lib.hid (HIN.out _ n1 HG2.out)
                            rw [hib] at HI
                            have y2 := cells_new wr #[.int .i64 2, .int .i64 n1, .int .i64 n2] 161 2 _ rfl
                            clear hib HGQ
                            go_wp2_with fail
                            refine HI.out.mono ?_
                            rintro e w9 ⟨rfl, hb5⟩
                            have q2 := (hb5.cell (p := ⟨wr.heap.size, 2, none⟩) (by simp)).trans y2
                            replace HB2 := Lib.hid (HB2.out.trans (hb5.mono HB2.out.size))
                            clear hb5 y2
                            cases fb
                            · go_wp2_with fail
                              refine (HCE.out _).mono ?_
                              rintro e wq ⟨rfl, rfl⟩
                              go_wp2
                              go_roundw
                              case rel => exact ⟨k + 1, true, _, by omega, by go_num, rfl, rfl, HM1.out, HM2.out, HB2.out⟩
                              case measure => simp [intOf]; omega
                            · go_wp2
                              go_roundw
                              case rel => exact ⟨k + 1, true, true, by omega, by go_num, rfl, rfl, HM1.out, by rw [← HM2.out, Bool.true_or], HB2.out⟩
                              case measure => simp [intOf]; omega
                        · obtain rfl : k = N := by omega
                          have HR := Lib.hid (show decideV (u, g, gl) uid gid mode l want = if mb = true then (fb && covB mk want) else covB (permOfV mode 2) want by
                            have e1 := HMB.out
                            have e2 := HFB.out
                            rw [HN.out, List.take_length] at e1 e2
                            rw [HDV.out, e1, e2])
                          cases mb
                          · rw [if_neg (by simp)] at HR
                            have HC2 := Lib.hid (fun W => Md.perm_spec mode 2 W)
                            have HI2 := Lib.hid (fun W => Pm.covers_any (permOfV mode 2) want W (permOf_range _ _) HW8.out)
                            generalize permOfV mode 2 = p2 at HR HC2 HI2
                            go_wp2_with fail
                            refine (HC2.out _).mono ?_
                            rintro e wq ⟨rfl, rfl⟩
                            go_wp2_with fail
                            refine (HI2.out _).mono ?_
                            rintro e wq ⟨rfl, rfl⟩
                            go_wp2
                            go_ret
                            exact ⟨ret_bool (by rw [HV.out, HR.out]), HBR.out⟩
                          · rw [if_pos rfl] at HR
                            cases fb
                            · rw [Bool.false_and] at HR
                              go_wp2
                              go_ret
                              exact ⟨ret_bool (by rw [HV.out, HR.out]), HBR.out⟩
                            · rw [Bool.true_and] at HR
                              go_wp2_with fail
                              refine (HCM.out _).mono ?_
                              rintro e wq ⟨rfl, rfl⟩
                              go_wp2
                              go_ret
                              exact ⟨ret_bool (by rw [HV.out, HR.out]), HBR.out⟩
                    · rw [hin] at HIG
                      rw [hin, Bool.true_and] at HDV
                      clear hin
                      have HC1 := Lib.hid (fun W => Md.perm_spec mode 1 W)
                      have HI1 := Lib.hid (fun W => Pm.covers_any (permOfV mode 1) want W (permOf_range _ _) HW8.out)
                      generalize permOfV mode 1 = p1 at HDV HC1 HI1
                      generalize covB p1 want = cv1 at HDV HI1
                      generalize hmk : maskV l = mk at HMA HCM HDV
                      have HMK := Lib.hid hmk
                      clear hmk
                      go_enter Tryz.func136, Tryz.ntmps136
                      go_wp2_with fail
                      generalize w.alloc (.cells #[.int .i64 u, .int .i64 g, .slice ga NG gc] 54) = w0 at hx HB HG HA hs0 ⊢
                      obtain ⟨c0, c1, c2⟩ := Bk.three hx
                      have HX := Lib.hid hx
                      clear hx
                      go_wp2_with fail
                      refine (HIC.out _ HG.out).mono ?_
                      rintro e w1 ⟨rfl, hb⟩
                      replace HX := Lib.hid (HX.out.all hb)
                      replace HB := Lib.hid (HB.out.trans (hb.mono HB.out.size))
                      replace HG := Lib.hid (Ni.holds_below HG.out hb)
                      replace HA := Lib.hid (Ae.holds_below HA.out hb)
                      have hs1 : w.heap.size < w1.heap.size := Nat.lt_of_lt_of_le hs0 hb.size
                      clear c0 c1 c2 hb hs0
                      obtain ⟨c0, c1, c2⟩ := Bk.three HX.out
                      go_wp2_with fail
                      refine (HIA.out _ HA.out).mono ?_
                      rintro e w2 ⟨rfl, hb⟩
                      replace HX := Lib.hid (HX.out.all hb)
                      replace HB := Lib.hid (HB.out.trans (hb.mono HB.out.size))
                      replace HG := Lib.hid (Ni.holds_below HG.out hb)
                      replace HA := Lib.hid (Ae.holds_below HA.out hb)
                      have hs2 : w.heap.size < w2.heap.size := Nat.lt_of_lt_of_le hs1 hb.size
                      clear c0 c1 c2 hb hs1
                      obtain ⟨c0, c1, c2⟩ := Bk.three HX.out
                      go_wp2_with fail
                      refine (HU1.out _).mono ?_
                      rintro e wq ⟨rfl, rfl⟩
                      go_wp2_with fail
                      refine (HU2.out _).mono ?_
                      rintro e wq ⟨rfl, rfl⟩
                      go_wp2_with fail
                      refine (HM.out _).mono ?_
                      rintro e wq ⟨rfl, rfl⟩
                      go_wp2_with fail
                      refine (HW.out _).mono ?_
                      rintro e wq ⟨rfl, rfl⟩
                      go_wp2_with fail
                      refine (HMA.out _ HA.out).mono ?_
                      rintro e w3 ⟨rfl, hb⟩
                      replace HX := Lib.hid (HX.out.all hb)
                      replace HB := Lib.hid (HB.out.trans (hb.mono HB.out.size))
                      replace HG := Lib.hid (Ni.holds_below HG.out hb)
                      replace HA := Lib.hid (Ae.holds_below HA.out hb)
                      have hs3 : w.heap.size < w3.heap.size := Nat.lt_of_lt_of_le hs2 hb.size
                      clear c0 c1 c2 hb hs2
                      obtain ⟨c0, c1, c2⟩ := Bk.three HX.out
                      go_wp2_with fail
                      refine (HPM.out _ HA.out).mono ?_
                      rintro e w4 ⟨rfl, hb⟩
                      replace HX := Lib.hid (HX.out.all hb)
                      replace HB := Lib.hid (HB.out.trans (hb.mono HB.out.size))
                      replace HG := Lib.hid (Ni.holds_below HG.out hb)
                      replace HA := Lib.hid (Ae.holds_below HA.out hb)
                      have hs4 : w.heap.size < w4.heap.size := Nat.lt_of_lt_of_le hs3 hb.size
                      dsimp only [AclQ.res]
                      clear c0 c1 c2 hb hs3
                      obtain ⟨c0, c1, c2⟩ := Bk.three HX.out
                      go_wp2_with fail
                      refine (HIG.out _ HG.out).mono ?_
                      rintro e w5 ⟨rfl, hb⟩
                      replace HX := Lib.hid (HX.out.all hb)
                      replace HB := Lib.hid (HB.out.trans (hb.mono HB.out.size))
                      replace HG := Lib.hid (Ni.holds_below HG.out hb)
                      replace HA := Lib.hid (Ae.holds_below HA.out hb)
                      have hs5 : w.heap.size < w5.heap.size := Nat.lt_of_lt_of_le hs4 hb.size
                      clear c0 c1 c2 hb hs4
                      obtain ⟨c0, c1, c2⟩ := Bk.three HX.out
                      go_wp2_with fail
                      refine (HC1.out _).mono ?_
                      rintro e wq ⟨rfl, rfl⟩
                      go_wp2_with fail
                      refine (HI1.out _).mono ?_
                      rintro e wq ⟨rfl, rfl⟩
                      go_wp2_with fail
                      go_loopw [16, 17, 83] (fun mv fv iv wr => ∃ (k : Nat) (mb fb : Bool), k ≤ N ∧ iv = .int .i64 k ∧ mv = .bool mb ∧ fv = .bool fb ∧ mb = (true || (l.take k).any (grpB (u, g, gl))) ∧ fb = (cv1 || (l.take k).any (fun x => grpB (u, g, gl) x && covB x.2.2 want)) ∧ Below w5.heap.size w5 wr) (fun _ _ iv _ => N - (intOf iv).toNat)
                      case atStart => exact ⟨0, true, cv1, Nat.zero_le _, rfl, rfl, rfl, by simp, by simp, Below.refl _ _⟩
                      case round =>
                        obtain ⟨k, mb, fb, hk, rfl, rfl, rfl, hmb, hfb, hbel⟩ := hrel
                        have HMB := Lib.hid hmb
                        have HFB := Lib.hid hfb
                        have HBEL := Lib.hid hbel
                        have HBR := Lib.hid (HB.out.trans (hbel.mono HB.out.size))
                        have hwr : w.heap.size < wr.heap.size := Nat.lt_of_lt_of_le hs5 hbel.size
                        have hsz := hbel.size
                        have HXR := Lib.hid (HX.out.all hbel)
                        obtain ⟨c0, c1, c2⟩ := Bk.three HXR.out
                        clear hmb hfb hbel
                        by_cases hlt : k < N
                        · have hlx : k < l.length := by rw [← HN.out]; exact hlt
                          obtain ⟨b, o, rfl, hb, g0, g1, g2⟩ := HAT.out k hlx
                          rw [← HBR.out.cell (p := ⟨b, _, none⟩) hb] at g0 g1 g2
                          have HQ1 := Lib.hid (any_next (grpB (u, g, gl)) hlx)
                          have HQ2 := Lib.hid (any_next (fun x => grpB (u, g, gl) x && covB x.2.2 want) hlx)
                          have HE8 := Lib.hid (ent_in HOK.out (getD_mem hlx))
                          have HGR := Lib.hid (Ni.holds_below HG.out HBEL.out)
                          cases hgq : grpB (u, g, gl) (l.getD k a0)
                          · have HM1 := Lib.hid (show mb = (true || (l.take (k + 1)).any (grpB (u, g, gl))) by rw [HQ1.out, hgq, Bool.or_false]; exact HMB.out)
                            have HM2 := Lib.hid (show fb = (cv1 || (l.take (k + 1)).any (fun x => grpB (u, g, gl) x && covB x.2.2 want)) by rw [HQ2.out, hgq, Bool.false_and, Bool.or_false]; exact HFB.out)
                            have HGQ := Lib.hid hgq
                            clear hgq HQ1 HQ2
                            generalize l.getD k a0 = x at g0 g1 g2 HGQ HE8
                            obtain ⟨n0, n1, n2⟩ := x
                            dsimp only at g0 g1 g2
                            have HB2 := Lib.hid (HBEL.out.alloc hsz (.cells #[.int .i64 n0, .int .i64 n1, .int .i64 n2] 161))
                            have HG2 := Lib.hid (Ni.holds_below HGR.out ((Below.refl wr.heap.size wr).alloc (Nat.le_refl _) (.cells #[.int .i64 n0, .int .i64 n1, .int .i64 n2] 161)))
                            by_cases h0 : n0 = 2
                            · have hib : inB (u, g, gl) n1 = false := by have := HGQ.out; simp only [grpB, h0, decide_true, Bool.true_and] at this; exact this
                              subst h0
                              have HI := Lib.hid (HIN.out _ n1 HG2.out)
                              rw [hib] at HI
                              clear hib
                              go_wp2_with fail
                              refine HI.out.mono ?_
                              rintro e w9 ⟨rfl, hb5⟩
                              replace HB2 := Lib.hid (HB2.out.trans (hb5.mono HB2.out.size))
                              clear hb5
                              go_wp2
                              go_roundw
                              case rel => exact ⟨k + 1, mb, fb, by omega, by go_num, rfl, rfl, HM1.out, HM2.out, HB2.out⟩
                              case measure => simp [intOf]; omega
                            · have h1 : (n0 == 2) = false := beq_eq_false_iff_ne.2 h0
                              clear h0
                              go_wp2
                              go_roundw
                              case rel => exact ⟨k + 1, mb, fb, by omega, by go_num, rfl, rfl, HM1.out, HM2.out, HB2.out⟩
                              case measure => simp [intOf]; omega
                          · have HM1 := Lib.hid (show true = (true || (l.take (k + 1)).any (grpB (u, g, gl))) by rw [HQ1.out, hgq]; simp)
                            have HM2 := Lib.hid (show (fb || covB (l.getD k a0).2.2 want) = (cv1 || (l.take (k + 1)).any (fun x => grpB (u, g, gl) x && covB x.2.2 want)) by rw [HQ2.out, hgq, Bool.true_and, HFB.out, Bool.or_assoc])
                            have HGQ := Lib.hid hgq
                            clear hgq HQ1 HQ2
                            generalize l.getD k a0 = x at g0 g1 g2 HGQ HE8 HM2
                            obtain ⟨n0, n1, n2⟩ := x
                            dsimp only at g0 g1 g2 HM2 HE8
                            have HCE := Lib.hid (fun W => Pm.covers_any n2 want W HE8.out HW8.out)
                            have hib : n0 = 2 ∧ inB (u, g, gl) n1 = true := by
                              have := HGQ.out
                              simp only [grpB, Bool.and_eq_true, decide_eq_true_eq] at this
                              exact this
                            obtain ⟨rfl, hib⟩ := hib
                            have HB2 := Lib.hid (HBEL.out.alloc hsz (.cells #[.int .i64 2, .int .i64 n1, .int .i64 n2] 161))
                            have HG2 := Lib.hid (Ni.holds_below HGR.out ((Below.refl wr.heap.size wr).alloc (Nat.le_refl _) (.cells #[.int .i64 2, .int .i64 n1, .int .i64 n2] 161)))
                            have HI := Lib.hid (HIN.out _ n1 HG2.out)
                            rw [hib] at HI
                            have y2 := cells_new wr #[.int .i64 2, .int .i64 n1, .int .i64 n2] 161 2 _ rfl
                            clear hib HGQ
                            go_wp2_with fail
                            refine HI.out.mono ?_
                            rintro e w9 ⟨rfl, hb5⟩
                            have q2 := (hb5.cell (p := ⟨wr.heap.size, 2, none⟩) (by simp)).trans y2
                            replace HB2 := Lib.hid (HB2.out.trans (hb5.mono HB2.out.size))
                            clear hb5 y2
                            cases fb
                            · go_wp2_with fail
                              refine (HCE.out _).mono ?_
                              rintro e wq ⟨rfl, rfl⟩
                              go_wp2
                              go_roundw
                              case rel => exact ⟨k + 1, true, _, by omega, by go_num, rfl, rfl, HM1.out, HM2.out, HB2.out⟩
                              case measure => simp [intOf]; omega
                            · go_wp2
                              go_roundw
                              case rel => exact ⟨k + 1, true, true, by omega, by go_num, rfl, rfl, HM1.out, by rw [← HM2.out, Bool.true_or], HB2.out⟩
                              case measure => simp [intOf]; omega
                        · obtain rfl : k = N := by omega
                          have HR := Lib.hid (show decideV (u, g, gl) uid gid mode l want = if mb = true then (fb && covB mk want) else covB (permOfV mode 2) want by
                            have e1 := HMB.out
                            have e2 := HFB.out
                            rw [HN.out, List.take_length] at e1 e2
                            rw [HDV.out, e1, e2])
                          cases mb
                          · rw [if_neg (by simp)] at HR
                            have HC2 := Lib.hid (fun W => Md.perm_spec mode 2 W)
                            have HI2 := Lib.hid (fun W => Pm.covers_any (permOfV mode 2) want W (permOf_range _ _) HW8.out)
                            generalize permOfV mode 2 = p2 at HR HC2 HI2
                            go_wp2_with fail
                            refine (HC2.out _).mono ?_
                            rintro e wq ⟨rfl, rfl⟩
                            go_wp2_with fail
                            refine (HI2.out _).mono ?_
                            rintro e wq ⟨rfl, rfl⟩
                            go_wp2
                            go_ret
                            exact ⟨ret_bool (by rw [HV.out, HR.out]), HBR.out⟩
                          · rw [if_pos rfl] at HR
                            cases fb
                            · rw [Bool.false_and] at HR
                              go_wp2
                              go_ret
                              exact ⟨ret_bool (by rw [HV.out, HR.out]), HBR.out⟩
                            · rw [Bool.true_and] at HR
                              go_wp2_with fail
                              refine (HCM.out _).mono ?_
                              rintro e wq ⟨rfl, rfl⟩
                              go_wp2
                              go_ret
                              exact ⟨ret_bool (by rw [HV.out, HR.out]), HBR.out⟩
                  · have HV2 := Lib.hid (show decideV (u, g, gl) uid gid mode l want = covB (andP pn (maskV l)) want by rw [decideV, if_neg h0, if_neg h1]; dsimp only; rw [HPV.out, if_pos rfl])
                    have hband := and_bits HP8.out.1 HP8.out.2 HM8.out.1 HM8.out.2
                    have HCA := Lib.hid (fun W => Pm.covers_any (andP pn (maskV l)) want W (and_in HP8.out HM8.out) HW8.out)
                    generalize andP pn (maskV l) = am at hband HCA HV2
                    generalize maskV l = mk at hband HMA
                    clear h0 h1 HCM HM8
                    go_enter Tryz.func136, Tryz.ntmps136
                    go_wp2_with fail
                    generalize w.alloc (.cells #[.int .i64 u, .int .i64 g, .slice ga NG gc] 54) = w0 at hx HB HG HA hs0 ⊢
                    obtain ⟨c0, c1, c2⟩ := Bk.three hx
                    have HX := Lib.hid hx
                    clear hx
                    go_wp2_with fail
                    refine (HIC.out _ HG.out).mono ?_
                    rintro e w1 ⟨rfl, hb⟩
                    replace HX := Lib.hid (HX.out.all hb)
                    replace HB := Lib.hid (HB.out.trans (hb.mono HB.out.size))
                    replace HG := Lib.hid (Ni.holds_below HG.out hb)
                    replace HA := Lib.hid (Ae.holds_below HA.out hb)
                    have hs1 : w.heap.size < w1.heap.size := Nat.lt_of_lt_of_le hs0 hb.size
                    clear c0 c1 c2 hb hs0
                    obtain ⟨c0, c1, c2⟩ := Bk.three HX.out
                    go_wp2_with fail
                    refine (HIA.out _ HA.out).mono ?_
                    rintro e w2 ⟨rfl, hb⟩
                    replace HX := Lib.hid (HX.out.all hb)
                    replace HB := Lib.hid (HB.out.trans (hb.mono HB.out.size))
                    replace HG := Lib.hid (Ni.holds_below HG.out hb)
                    replace HA := Lib.hid (Ae.holds_below HA.out hb)
                    have hs2 : w.heap.size < w2.heap.size := Nat.lt_of_lt_of_le hs1 hb.size
                    clear c0 c1 c2 hb hs1
                    obtain ⟨c0, c1, c2⟩ := Bk.three HX.out
                    go_wp2_with fail
                    refine (HU1.out _).mono ?_
                    rintro e wq ⟨rfl, rfl⟩
                    go_wp2_with fail
                    refine (HU2.out _).mono ?_
                    rintro e wq ⟨rfl, rfl⟩
                    go_wp2_with fail
                    refine (HM.out _).mono ?_
                    rintro e wq ⟨rfl, rfl⟩
                    go_wp2_with fail
                    refine (HW.out _).mono ?_
                    rintro e wq ⟨rfl, rfl⟩
                    go_wp2_with fail
                    refine (HMA.out _ HA.out).mono ?_
                    rintro e w3 ⟨rfl, hb⟩
                    replace HX := Lib.hid (HX.out.all hb)
                    replace HB := Lib.hid (HB.out.trans (hb.mono HB.out.size))
                    replace HG := Lib.hid (Ni.holds_below HG.out hb)
                    replace HA := Lib.hid (Ae.holds_below HA.out hb)
                    have hs3 : w.heap.size < w3.heap.size := Nat.lt_of_lt_of_le hs2 hb.size
                    clear c0 c1 c2 hb hs2
                    obtain ⟨c0, c1, c2⟩ := Bk.three HX.out
                    go_wp2_with fail
                    refine (HPM.out _ HA.out).mono ?_
                    rintro e w4 ⟨rfl, hb⟩
                    replace HX := Lib.hid (HX.out.all hb)
                    replace HB := Lib.hid (HB.out.trans (hb.mono HB.out.size))
                    replace HG := Lib.hid (Ni.holds_below HG.out hb)
                    replace HA := Lib.hid (Ae.holds_below HA.out hb)
                    have hs4 : w.heap.size < w4.heap.size := Nat.lt_of_lt_of_le hs3 hb.size
                    dsimp only [AclQ.res]
                    clear c0 c1 c2 hb hs3
                    obtain ⟨c0, c1, c2⟩ := Bk.three HX.out
                    go_wp2_with fail
                    refine (HCA.out _).mono ?_
                    rintro e wq ⟨rfl, rfl⟩
                    go_wp2
                    go_ret
                    exact ⟨ret_bool (by rw [HV.out, HV2.out]), HB.out⟩
end Go.Proofs.YthppbcnejapbiaaGreatDoor.As

-- YthppbcnejapbiaaGreatDoorCrF
/- Contracts and plain facts that a law of this seat leans on. Conditions: as each theorem types them. -/
namespace Go.Proofs.YthppbcnejapbiaaGreatDoor.CrF
open Go.ChangeShapes Go.WideShapes Go.ChangeAt Go.RowKit Go.Deep
open Foot Bx
open Strs (ret_int)
set_option linter.unusedVariables false

abbrev L := CrS.C
/-- The value, its fields in their cells. -/
def agg (n : L) (r0 : Value) : Value := .agg #[.int .i64 n.uid, .int .i64 n.gid, r0]
def Holds (w : World) (v : Value) (n : L) : Prop := ∃ r0 : Value, v = .agg #[.int .i64 n.uid, .int .i64 n.gid, r0] ∧ NiF.Holds w r0 n.groups
theorem holds_below {w w' : World} {v : Value} {n : L} (h : Holds w v n) (hb : Below w.heap.size w w') : Holds w' v n := by
  obtain ⟨r0, e, h0⟩ := h
  exact ⟨r0, e, NiF.holds_below h0 hb⟩
/-- Its cells. -/
theorem form {w : World} {v : Value} {n : L} (h : Holds w v n) : ∃ (c0 : Int) (c1 : Int) (c2a : Option Addr) (c2n c2c : Nat), v = .agg #[.int .i64 c0, .int .i64 c1, .slice c2a c2n c2c] := by
  obtain ⟨r0, rfl, h0⟩ := h
  obtain ⟨a0, d0, rfl⟩ := NiF.form h0
  exact ⟨_, _, _, _, _, rfl⟩
/-- The call owns the value's slices: their blocks, in order, are S. -/
def Own (w : World) (base : Nat) (v : Value) (n : L) (S : List Nat) : Prop := ∃ (r0 : Value) (S0 : List Nat), v = .agg #[.int .i64 n.uid, .int .i64 n.gid, r0] ∧ S = S0 ∧ S.Nodup ∧ NiF.Own w base r0 n.groups S0
section
variable {w w' : World} {base : Nat} {v : Value} {n : L} {S T : List Nat}
theorem own_holds (h : Own w base v n S) : Holds w v n := by
  obtain ⟨r0, S0, rfl, hS, hnd, h0⟩ := h
  subst hS
  exact ⟨r0, rfl, NiF.own_holds h0⟩
theorem own_chg (h : Own w base v n S) (hc : Chg w w' T) (ha : Apart S T) : Own w' base v n S := by
  obtain ⟨r0, S0, rfl, hS, hnd, h0⟩ := h
  subst hS
  exact ⟨r0, _, rfl, rfl, hnd, NiF.own_chg h0 hc ha⟩
theorem own_below (h : Own w base v n S) (hb : Below w.heap.size w w') : Own w' base v n S := own_chg h (Chg.of_below hb (Nat.le_refl _) []) (fun k _ hh => by cases hh)
theorem own_mono {base' : Nat} (h : Own w base v n S) (hb : base' ≤ base) : Own w base' v n S := by
  obtain ⟨r0, S0, rfl, hS, hnd, h0⟩ := h
  subst hS
  exact ⟨r0, _, rfl, rfl, hnd, NiF.own_mono h0 hb⟩
theorem own_lies (h : Own w base v n S) : Lies S base w.heap.size := by
  obtain ⟨r0, S0, rfl, hS, hnd, h0⟩ := h
  subst hS
  exact (NiF.own_lies h0)
theorem own_nodup (h : Own w base v n S) : S.Nodup := by
  obtain ⟨r0, S0, rfl, hS, hnd, h0⟩ := h
  subst hS
  exact hnd
theorem own_set (h : Own w base v n S) {a : Addr} (ha : a.block < base) (u : Value) : Own (w.setCell a u) base v n S := by
  obtain ⟨r0, S0, rfl, hS, hnd, h0⟩ := h
  subst hS
  exact ⟨r0, _, rfl, rfl, hnd, NiF.own_set h0 ha u⟩
end
theorem own_form {w : World} {base : Nat} {v : Value} {n : L} {S : List Nat} (h : Own w base v n S) : ∃ (c0 : Int) (c1 : Int) (c2a : Option Addr) (c2n c2c : Nat), v = .agg #[.int .i64 c0, .int .i64 c1, .slice c2a c2n c2c] := form (own_holds h)
/-- Its numbers are ints of 64 bits, its slices no longer than memory. -/
structure Lim (n : L) : Prop where
  uid : Rg n.uid
  gid : Rg n.gid
  groups : NiF.Lim n.groups
def cost (n : L) : Nat := NiF.cost n.groups
theorem le_groups (n : L) : NiF.cost n.groups ≤ cost n := by unfold cost; omega

set_option maxRecDepth 100000 in
set_option maxHeartbeats 1600000 in
theorem sz_any (w : World) (v : Value) (n : L) (left : Nat) (hleft : left ≤ 1073741824) (hl : Lim n) (h : Holds w v n) :
    Calls Tryz.prog 30 #[v, .int .i64 left] w fun e w' => e = .returned (.int .i64 (costOf (cost n) left)) ∧ Below w.heap.size w w' := by
  obtain ⟨r0, rfl, g0⟩ := h
  have H0 := Lib.hid g0
  have HL := Lib.hid hl
  have HC := Lib.hid (show cost n = NiF.cost n.groups from rfl)
  have HB := Lib.hid ((Below.refl w.heap.size w).alloc (Nat.le_refl _) (.cells #[.int .i64 n.uid, .int .i64 n.gid, r0] 51))
  have HX := Lib.hid (new w #[.int .i64 n.uid, .int .i64 n.gid, r0] 51)
  clear g0 hl
  by_cases hc0 : NiF.cost n.groups ≤ left
  · obtain ⟨q0, hq0⟩ : ∃ x, x = left - NiF.cost n.groups := ⟨_, rfl⟩
    have HZ0 := Lib.hid (show costOf (NiF.cost n.groups) left = (q0 : Int) by rw [hq0]; exact cost_pos hc0)
    have hle0 : q0 ≤ 1073741824 := by omega
    have HV := Lib.hid (show costOf (cost n) left = (q0 : Int) by rw [cost_pos (by rw [HC.out]; omega), HC.out]; omega)
    clear hc0 hq0
    go_enter Tryz.func30, Tryz.ntmps30
    go_wp2_with fail
    refine (NiF.sz_any _ r0 n.groups left (by omega) HL.out.groups (NiF.holds_below H0.out HB.out)).mono ?_
    rintro e w1 ⟨rfl, hb⟩
    rw [HZ0.out]
    have HXN := Lib.hid (HX.out.all hb)
    replace HB := Lib.hid (HB.out.trans (hb.mono HB.out.size))
    clear hb HX
    have HX := HXN
    clear HXN
    go_wp2
    go_ret
    exact ⟨ret_int (by rw [HV.out]), HB.out⟩
  · have HZ0 := Lib.hid (cost_neg hc0)
    have HV := Lib.hid (show costOf (cost n) left = -1 from cost_neg (by rw [HC.out]; omega))
    clear hc0
    go_enter Tryz.func30, Tryz.ntmps30
    go_wp2_with fail
    refine (NiF.sz_any _ r0 n.groups left (by omega) HL.out.groups (NiF.holds_below H0.out HB.out)).mono ?_
    rintro e w1 ⟨rfl, hb⟩
    rw [HZ0.out]
    have HXN := Lib.hid (HX.out.all hb)
    replace HB := Lib.hid (HB.out.trans (hb.mono HB.out.size))
    clear hb HX
    have HX := HXN
    clear HXN
    go_wp2
    go_ret
    exact ⟨ret_int (by rw [HV.out]), HB.out⟩

set_option maxRecDepth 100000 in
set_option maxHeartbeats 1600000 in
/-- A copy, in memory of the call's own. -/
theorem to_any (w : World) (v : Value) (n : L) (hc : cost n ≤ 1073741824) (h : Holds w v n) :
    Calls Tryz.prog 32 #[v] w fun e w' => ∃ v' S, e = .returned v' ∧ Own w' w.heap.size v' n S ∧ Below w.heap.size w w' := by
  obtain ⟨r0, rfl, g0⟩ := h
  have H0 := Lib.hid g0
  have hcc : NiF.cost n.groups ≤ 1073741824 := hc
  clear g0 hc
  go_enter Tryz.func32, Tryz.ntmps32
  go_wp2_with fail
  have hb0 := (((Below.refl w.heap.size w).alloc (Nat.le_refl _) (.cells #[.int .i64 n.uid, .int .i64 n.gid, r0] 51)).alloc (by simp) (.cells #[.int .i64 0, .int .i64 0, .slice none 0 0] 54)).alloc (by simp; omega) (.cells #[.int .i64 n.uid, .int .i64 n.gid, .slice none 0 0] 54)
  have hA := ((new w #[.int .i64 n.uid, .int .i64 n.gid, r0] 51).alloc (.cells #[.int .i64 0, .int .i64 0, .slice none 0 0] 54)).alloc (.cells #[.int .i64 n.uid, .int .i64 n.gid, .slice none 0 0] 54)
  have hR := (new_at (w.alloc (.cells #[.int .i64 n.uid, .int .i64 n.gid, r0] 51)) #[.int .i64 0, .int .i64 0, .slice none 0 0] 54 (w.heap.size + 1) (by simp)).alloc (.cells #[.int .i64 n.uid, .int .i64 n.gid, .slice none 0 0] 54)
  have hO := new_at ((w.alloc (.cells #[.int .i64 n.uid, .int .i64 n.gid, r0] 51)).alloc (.cells #[.int .i64 0, .int .i64 0, .slice none 0 0] 54)) #[.int .i64 n.uid, .int .i64 n.gid, .slice none 0 0] 54 (w.heap.size + 1 + 1) (by simp)
  generalize hW0 : ((w.alloc (.cells #[.int .i64 n.uid, .int .i64 n.gid, r0] 51)).alloc (.cells #[.int .i64 0, .int .i64 0, .slice none 0 0] 54)).alloc (.cells #[.int .i64 n.uid, .int .i64 n.gid, .slice none 0 0] 54) = w0 at hb0 hA hR hO ⊢
  have hsz : w0.heap.size = w.heap.size + 1 + 1 + 1 := by rw [← hW0]; simp
  have hs0 := Nat.le_of_eq hsz.symm
  clear hW0 hsz
  have HB := Lib.hid hb0
  have HA := Lib.hid hA
  have HR := Lib.hid hR
  have HQ := Lib.hid hO
  clear hb0 hA hR hO
  refine (NiF.to_any _ r0 n.groups (by omega) (NiF.holds_below H0.out HB.out)).mono ?_
  rintro e w1 ⟨y0, S0, rfl, hown, hb⟩
  obtain ⟨a0, d0, rfl⟩ := NiF.own_form hown
  have hs1 := hb.size
  replace HA := Lib.hid (HA.out.all hb)
  replace HR := Lib.hid (HR.out.all hb)
  replace HQ := Lib.hid (HQ.out.all hb)
  replace HB := Lib.hid (HB.out.trans (hb.mono HB.out.size))
  have hlow0 := NiF.own_lies hown
  have HO0 := Lib.hid hown
  have HL0 := Lib.hid hlow0
  clear hown hb hlow0
  have hq0 : w1.cell? ⟨w.heap.size + 1 + 1, 2, none⟩ = some (.slice none 0 0) := HQ.out.cell 2
  have hf0 := HQ.out.free 2
  have rz := HR.out.cell
  have rc0 := rz 0
  have rf0 := HR.out.free 0
  have qc0 := HQ.out.cell 0
  have rc1 := rz 1
  have rf1 := HR.out.free 1
  have qc1 := HQ.out.cell 1
  have rc2 := rz 2
  have rf2 := HR.out.free 2
  clear rz
  dsimp at rc0 rc1 rc2 qc0 qc1
  go_wp2_with fail
  have hF0 := HR.out.far (p := ⟨w.heap.size + 1 + 1, 2, none⟩) (by simp) (.slice a0 n.groups.length d0)
  have hF1 : Bk _ _ #[.int .i64 n.uid, .int .i64 0, .slice none 0 0] _ := hF0.put 0 (.int .i64 n.uid)
  clear hF0
  have hF2 : Bk _ _ #[.int .i64 n.uid, .int .i64 n.gid, .slice none 0 0] _ := hF1.put 1 (.int .i64 n.gid)
  clear hF1
  have hF3 : Bk _ _ #[.int .i64 n.uid, .int .i64 n.gid, .slice a0 n.groups.length d0] _ := hF2.put 2 (.slice a0 n.groups.length d0)
  clear hF2
  have hF := hF3
  clear hF3
  have hB4 := ((((HB.out.setCell (p := ⟨w.heap.size + 1 + 1, 2, none⟩) (by first | (simp; done) | (simp; omega)) (.slice a0 n.groups.length d0)).setCell (p := ⟨w.heap.size + 1, 0, none⟩) (by first | (simp; done) | (simp; omega)) (.int .i64 n.uid)).setCell (p := ⟨w.heap.size + 1, 1, none⟩) (by first | (simp; done) | (simp; omega)) (.int .i64 n.gid)).setCell (p := ⟨w.heap.size + 1, 2, none⟩) (by first | (simp; done) | (simp; omega)) (.slice a0 n.groups.length d0))
  have hO40 := (NiF.own_set (NiF.own_set (NiF.own_set (NiF.own_set HO0.out (a := ⟨w.heap.size + 1 + 1, 2, none⟩) (by first | (simp; done) | (simp; omega)) (.slice a0 n.groups.length d0)) (a := ⟨w.heap.size + 1, 0, none⟩) (by first | (simp; done) | (simp; omega)) (.int .i64 n.uid)) (a := ⟨w.heap.size + 1, 1, none⟩) (by first | (simp; done) | (simp; omega)) (.int .i64 n.gid)) (a := ⟨w.heap.size + 1, 2, none⟩) (by first | (simp; done) | (simp; omega)) (.slice a0 n.groups.length d0))
  generalize ((((w1.setCell ⟨w.heap.size + 1 + 1, 2, none⟩ (.slice a0 n.groups.length d0)).setCell ⟨w.heap.size + 1, 0, none⟩ (.int .i64 n.uid)).setCell ⟨w.heap.size + 1, 1, none⟩ (.int .i64 n.gid)).setCell ⟨w.heap.size + 1, 2, none⟩ (.slice a0 n.groups.length d0)) = w9 at hF hB4 hO40 ⊢
  have fc0 : w9.cell? ⟨w.heap.size + 1, 0, none⟩ = some (.int .i64 n.uid) := hF.cell 0
  have fc1 : w9.cell? ⟨w.heap.size + 1, 1, none⟩ = some (.int .i64 n.gid) := hF.cell 1
  have fc2 : w9.cell? ⟨w.heap.size + 1, 2, none⟩ = some (.slice a0 n.groups.length d0) := hF.cell 2
  have hnd : (S0).Nodup := (NiF.own_nodup hO40)
  exact bodyPost_ret (v := .agg #[.int .i64 n.uid, .int .i64 n.gid, (.slice a0 n.groups.length d0)]) (by simp [results, Tryz.results32, go_sem, fc0, fc1, fc2]) rfl ⟨_, _, rfl, ⟨_, S0, rfl, rfl, hnd, NiF.own_mono hO40 (by omega)⟩, hB4⟩

set_option maxRecDepth 100000 in
set_option maxHeartbeats 1600000 in
theorem eq_any (w : World) (va vb : Value) (n : L) (hc : cost n ≤ 1073741824) (h : Holds w va n) (h' : Holds w vb n) :
    Calls Tryz.prog 34 #[va, vb] w fun e w' => e = .returned (.bool true) ∧ Below w.heap.size w w' := by
  obtain ⟨x0, rfl, g0⟩ := h
  obtain ⟨y0, rfl, k0⟩ := h'
  have H0 := Lib.hid g0
  have K0 := Lib.hid k0
  have hcc : NiF.cost n.groups ≤ 1073741824 := hc
  clear g0 k0 hc
  have HB := Lib.hid (((Below.refl w.heap.size w).alloc (Nat.le_refl _) (.cells #[.int .i64 n.uid, .int .i64 n.gid, x0] 54)).alloc (by simp) (.cells #[.int .i64 n.uid, .int .i64 n.gid, y0] 54))
  have HX := Lib.hid ((new w #[.int .i64 n.uid, .int .i64 n.gid, x0] 54).alloc (.cells #[.int .i64 n.uid, .int .i64 n.gid, y0] 54))
  have HY := Lib.hid (new_at (w.alloc (.cells #[.int .i64 n.uid, .int .i64 n.gid, x0] 54)) #[.int .i64 n.uid, .int .i64 n.gid, y0] 54 (w.heap.size + 1) (by simp))
  go_enter Tryz.func34, Tryz.ntmps34
  go_wp2_with fail
  refine (NiF.eq_any _ x0 y0 n.groups (by omega) (NiF.holds_below H0.out HB.out) (NiF.holds_below K0.out HB.out)).mono ?_
  rintro e w1 ⟨rfl, hb⟩
  replace HX := Lib.hid (HX.out.all hb)
  replace HY := Lib.hid (HY.out.all hb)
  replace HB := Lib.hid (HB.out.trans (hb.mono HB.out.size))
  clear hb
  go_wp2
  go_ret
  exact ⟨rfl, HB.out⟩

def marks (k : Nat) (n : L) : L := { n with groups := NiF.marks (k) n.groups }
def wid (n : L) : Nat := NiF.wid n.groups
theorem wid_le {n : L} (h : cost n ≤ 1048576) : 1 + wid n ≤ 1073741824 := by
  unfold cost at h
  unfold wid
  have h0 : NiF.wid n.groups ≤ 3 * NiF.cost n.groups := NiF.wid_cost _
  omega
theorem wid_cost (n : L) : wid n ≤ 3 * cost n := by
  unfold cost wid
  have h0 : NiF.wid n.groups ≤ 3 * NiF.cost n.groups := NiF.wid_cost _
  omega
set_option maxRecDepth 100000 in
/-- Cells that read as data of the type hold a value. -/
theorem in_cells {H : Type} {enc : TypeId × Value → H} {W : World} {fuel : Nat} {cs : List Value} {x : DataW H × List MemPlace} (hf : DataW.trod enc Tryz.prog W 0 (fun _ => true) true fuel 51 cs = some x) :
    ∃ (n : L) (r0 : Value), cs = [.int .i64 n.uid, .int .i64 n.gid, r0] ∧ Lim n ∧ NiF.Holds W r0 n.groups := by
  obtain ⟨xs, fu, _, rfl, hl, hlen, hfs⟩ := DataW.trod_struct Tryz.underlying51 hf
  rw [show Tryz.prog.cellsOf 51 = 3 from by kernel_rfl] at hl
  obtain ⟨c0, c1, c2, rfl⟩ : ∃ c0 c1 c2, cs = [c0, c1, c2] := by
    match cs, hl with
    | [c0, c1, c2], _ => exact ⟨_, _, _, rfl⟩
  obtain ⟨z0, z1, z2, rfl⟩ : ∃ z0 z1 z2, xs = [z0, z1, z2] := by
    match xs, hlen with
    | [c0, c1, c2], _ => exact ⟨_, _, _, rfl⟩
  have hc_2 : Tryz.prog.cellsOf 49 = 1 := by kernel_rfl
  have hc_0 : Tryz.prog.cellsOf 3 = 1 := by kernel_rfl
  have e0 : DataW.trod enc Tryz.prog W 0 (fun _ => true) true fu 3 [c0] = some z0 := by simpa [hc_0] using hfs 0 _ rfl
  have e1 : DataW.trod enc Tryz.prog W 0 (fun _ => true) true fu 3 [c1] = some z1 := by simpa [hc_0] using hfs 1 _ rfl
  have e2 : DataW.trod enc Tryz.prog W 0 (fun _ => true) true fu 49 [c2] = some z2 := by simpa [hc_2] using hfs 2 _ rfl
  obtain ⟨i0, hi0, _, m0⟩ := DataW.trod_int Tryz.underlying3 e0
  obtain rfl : c0 = .int .i64 i0 := by simpa using hi0
  obtain ⟨i1, hi1, _, m1⟩ := DataW.trod_int Tryz.underlying3 e1
  obtain rfl : c1 = .int .i64 i1 := by simpa using hi1
  obtain ⟨l2, m2, h2⟩ := NiF.in_cell e2
  exact ⟨⟨i0, i1, l2⟩, c2, rfl, ⟨rg_of m0, rg_of m1, m2⟩, h2⟩
set_option maxRecDepth 100000 in
/-- What an argument of that type offers. -/
theorem in_any {H : Type} {enc : TypeId × Value → H} {W : World} {b0 : Nat} {v : Value} {x : DataW H} {p : List MemPlace} (hv : Value.okWide Tryz.prog W .any b0 51 v) (h : DataW.Trod enc Tryz.prog W 0 (fun _ => true) true 51 v x p) :
    ∃ n : L, Lim n ∧ Holds W v n := by
  obtain ⟨cs, rfl, hsz⟩ := okWide_struct Tryz.underlying51 hv
  obtain ⟨fuel, hf⟩ := h
  obtain ⟨n, r0, hcs, hl, hr⟩ := in_cells hf
  have : cs = #[.int .i64 n.uid, .int .i64 n.gid, r0] := Array.toList_inj.1 (by simpa [Value.cells] using hcs)
  subst this
  exact ⟨n, hl, r0, rfl, hr⟩
end Go.Proofs.YthppbcnejapbiaaGreatDoor.CrF

-- YthppbcnejapbiaaGreatDoorPwA
/- Contracts: who may access an inode: the program's allows and passCode, the model's l11May; an inode's cells in a valid file system. Conditions: as each theorem types them. -/
namespace Go.Proofs.YthppbcnejapbiaaGreatDoor.PwA
open Go.ChangeShapes Go.WideShapes Go.ChangeAt Go.RowKit
open Foot Bx
open InoV (I)
open FsV (F okF)
open FsY (ino hasObjB)
open FsZ (GoodF)
open CredV (allowedV credB)
open CrS (tri)
open PwV OpF
open Dk (ret_bool)
open EnD (ret_i)
set_option linter.unusedVariables false

theorem acl_len {f : F} {k : Nat} (hok : okF f = true) (hk : k < 20) : (ino f k).acl.length ≤ 20 := by
  have h1 := FsOk.inode_cost (GoodF.inode ⟨hok, hk⟩)
  unfold In.cost AeF.cost at h1
  omega
/-- An inode's ten cells, its list of entries. -/
theorem ino_cells {w : World} {b o : Nat} {n : I} {r0 r1 r2 : Value} (hC : IF.Cell w b o n r0 r1 r2) (hP : IF.Parts w n r0 r1 r2) : ∃ (b0 b1 b2 : Option Addr) (m0 e0 m1 e1 m2 e2 : Nat),
    w.cell? ⟨b, o, none⟩ = some (.int .i64 n.kind) ∧ w.cell? ⟨b, o + 1, none⟩ = some (.int .i64 n.mode) ∧ w.cell? ⟨b, o + 2, none⟩ = some (.int .i64 n.uid) ∧ w.cell? ⟨b, o + 3, none⟩ = some (.int .i64 n.gid) ∧ w.cell? ⟨b, o + 4, none⟩ = some (.int .i64 n.links) ∧ w.cell? ⟨b, o + 5, none⟩ = some (.int .i64 n.size) ∧ w.cell? ⟨b, o + 6, none⟩ = some (.int .i64 n.tick) ∧
    w.cell? ⟨b, o + 7, none⟩ = some (.slice b0 m0 e0) ∧ w.cell? ⟨b, o + 8, none⟩ = some (.slice b1 m1 e1) ∧ w.cell? ⟨b, o + 9, none⟩ = some (.slice b2 m2 e2) ∧ AeF.Holds w (.slice b1 m1 e1) n.acl := by
  obtain ⟨p0, p1, p2⟩ := hP
  obtain ⟨b0, e0, rfl⟩ := NiF.form p0
  obtain ⟨b1, e1, rfl⟩ := AeF.form p1
  obtain ⟨b2, e2, rfl⟩ := AeF.form p2
  obtain ⟨d0, d1, d2, d3, d4, d5, d6, d7, d8, d9⟩ := hC
  exact ⟨b0, b1, b2, _, e0, _, e1, _, e2, d0, d1, d2, d3, d4, d5, d6, d7, d8, d9, p1⟩
/-- Credentials: their cells. -/
theorem open_cr {w : World} {v : Value} {c : CrS.C} (h : CrF.Holds w v c) : ∃ (ga : Option Addr) (gn gc : Nat), v = .agg #[.int .i64 c.uid, .int .i64 c.gid, .slice ga gn gc] ∧ NiF.Holds w (.slice ga gn gc) c.groups := by
  obtain ⟨r0, rfl, h0⟩ := h
  obtain ⟨a, e, rfl⟩ := NiF.form h0
  exact ⟨a, _, e, rfl, h0⟩

set_option maxRecDepth 100000 in
set_option maxHeartbeats 3200000 in
theorem allows_impl (w : World) (K M U G L S T : Int) (acl : List AclV.At) (c : CrS.C) (want : Int) (b0 b1 b2 ga : Option Addr) (m0 e0 m1 e1 m2 e2 gn gc : Nat) (hgl : c.groups.length ≤ 1073741824) (hal : acl.length ≤ 1048576)
    (hG : NiF.Holds w (.slice ga gn gc) c.groups) (hA : AeF.Holds w (.slice b1 m1 e1) acl) :
    Calls Tryz.prog 81 #[.agg #[.int .i64 K, .int .i64 M, .int .i64 U, .int .i64 G, .int .i64 L, .int .i64 S, .int .i64 T, .slice b0 m0 e0, .slice b1 m1 e1, .slice b2 m2 e2], .agg #[.int .i64 c.uid, .int .i64 c.gid, .slice ga gn gc], .int .i64 want] w
      fun e w' => e = .returned (.bool (allowedV (tri c) U G M acl want)) ∧ Below w.heap.size w w' := by
  obtain ⟨w0, hw0⟩ : ∃ w0, (w.alloc (.cells #[.int .i64 K, .int .i64 M, .int .i64 U, .int .i64 G, .int .i64 L, .int .i64 S, .int .i64 T, .slice b0 m0 e0, .slice b1 m1 e1, .slice b2 m2 e2] 89)).alloc (.cells #[.int .i64 c.uid, .int .i64 c.gid, .slice ga gn gc] 54) = w0 := ⟨_, rfl⟩
  have hB : Below w.heap.size w w0 := by rw [← hw0]; exact ((Below.refl _ w).alloc (Nat.le_refl _) _).alloc (by simp) _
  have bN : Bk w0 w.heap.size #[.int .i64 K, .int .i64 M, .int .i64 U, .int .i64 G, .int .i64 L, .int .i64 S, .int .i64 T, .slice b0 m0 e0, .slice b1 m1 e1, .slice b2 m2 e2] 89 := by rw [← hw0]; exact (new w _ _).alloc _
  have bC : Bk w0 (w.heap.size + 1) #[.int .i64 c.uid, .int .i64 c.gid, .slice ga gn gc] 54 := by
    have := new (w.alloc (.cells #[.int .i64 K, .int .i64 M, .int .i64 U, .int .i64 G, .int .i64 L, .int .i64 S, .int .i64 T, .slice b0 m0 e0, .slice b1 m1 e1, .slice b2 m2 e2] 89)) #[.int .i64 c.uid, .int .i64 c.gid, .slice ga gn gc] 54
    rw [World.size_alloc, hw0] at this; exact this
  have HAL := Lib.hid (Aw.allowed_impl w0 c.uid c.gid (.slice ga gn gc) c.groups U G M (.slice b1 m1 e1) acl want hgl hal (Ni.holds_below hG.old hB) (Ae.holds_below hA hB))
  rw [show (c.uid, c.gid, c.groups) = tri c from rfl] at HAL
  generalize allowedV (tri c) U G M acl want = R at HAL
  have HB := Lib.hid hB
  obtain ⟨x0, x1, x2, x3, x4, x5, x6, x7, x8, x9⟩ := Bk.c10 bN
  obtain ⟨y0, y1, y2⟩ := bC.three
  clear hG hA hB bN bC
  go_enter Tryz.func81, Tryz.ntmps81
  go_wp2_with fail
  refine (HAL.out).mono ?_
  rintro e w1 ⟨rfl, hb⟩
  go_wp2
  go_ret
  exact ⟨rfl, HB.out.trans (hb.mono HB.out.size)⟩

set_option maxRecDepth 100000 in
set_option maxHeartbeats 3200000 in
theorem may_l11 (w : World) (v cv : Value) (f : F) (c : CrS.C) (k : Nat) (want : Int) (hgl : c.groups.length ≤ 1073741824) (hok : okF f = true) (hk : k < 20) (h : FsF.Holds w v f) (hC : CrF.Holds w cv c) :
    Calls Tryz.prog 78 #[v, cv, .int .i64 k, .int .i64 want] w fun e w' => e = .returned (.bool (accB f c k want)) ∧ Below w.heap.size w w' := by
  have hal := acl_len hok hk
  obtain ⟨t, qa, Q, qc, b, o, ic, da, D, dc, rfl, hb, hic, hat⟩ := open_fs hok h
  obtain ⟨ga, gn, gc, rfl, hG⟩ := open_cr hC
  obtain ⟨r0, r1, r2, hCl, hP⟩ := hat k hk
  unfold accB
  generalize ino f k = n at hCl hP hal ⊢
  obtain ⟨b0, b1, b2, m0, e0, m1, e1, m2, e2, d0, d1, d2, d3, d4, d5, d6, d7, d8, d9, hA⟩ := ino_cells hCl hP
  obtain ⟨K, M, U, G, L, S, T, nb, acl, nd⟩ := n
  dsimp only at d0 d1 d2 d3 d4 d5 d6 hA hal ⊢
  obtain ⟨w0, hw0⟩ : ∃ w0, (w.alloc (.cells #[.int .i64 t, .slice qa Q qc, .slice (some ⟨b, o, none⟩) 20 ic, .slice da D dc] 33)).alloc (.cells #[.int .i64 c.uid, .int .i64 c.gid, .slice ga gn gc] 54) = w0 := ⟨_, rfl⟩
  have hB : Below w.heap.size w w0 := by rw [← hw0]; exact ((Below.refl _ w).alloc (Nat.le_refl _) _).alloc (by simp) _
  have bF : Bk w0 w.heap.size #[.int .i64 t, .slice qa Q qc, .slice (some ⟨b, o, none⟩) 20 ic, .slice da D dc] 33 := by rw [← hw0]; exact (new w _ _).alloc _
  have bC : Bk w0 (w.heap.size + 1) #[.int .i64 c.uid, .int .i64 c.gid, .slice ga gn gc] 54 := by
    have := new (w.alloc (.cells #[.int .i64 t, .slice qa Q qc, .slice (some ⟨b, o, none⟩) 20 ic, .slice da D dc] 33)) #[.int .i64 c.uid, .int .i64 c.gid, .slice ga gn gc] 54
    rw [World.size_alloc, hw0] at this; exact this
  have hs0 : w0.heap.size = w.heap.size + 1 + 1 := by rw [← hw0]; simp
  rw [← hB.cell (p := ⟨b, _, none⟩) hb] at d0 d1 d2 d3 d4 d5 d6 d7 d8 d9
  have hk0 : (0 : Int) ≤ k := by omega
  have hk1 : (k : Int) < 20 := by omega
  obtain ⟨w1, hw1⟩ : ∃ w1, w0.alloc (.cells #[.int .i64 K, .int .i64 M, .int .i64 U, .int .i64 G, .int .i64 L, .int .i64 S, .int .i64 T, .slice b0 m0 e0, .slice b1 m1 e1, .slice b2 m2 e2] 89) = w1 := ⟨_, rfl⟩
  have hB1 : Below w.heap.size w w1 := by rw [← hw1]; exact hB.alloc (by omega) _
  have bN : Bk w1 (w.heap.size + 1 + 1) #[.int .i64 K, .int .i64 M, .int .i64 U, .int .i64 G, .int .i64 L, .int .i64 S, .int .i64 T, .slice b0 m0 e0, .slice b1 m1 e1, .slice b2 m2 e2] 89 := by rw [← hw1]; exact new_at w0 _ _ _ hs0.symm
  have bC1 : Bk w1 (w.heap.size + 1) #[.int .i64 c.uid, .int .i64 c.gid, .slice ga gn gc] 54 := by rw [← hw1]; exact bC.alloc _
  have HAL := Lib.hid (As.allowed_spec w1 c.uid c.gid (.slice ga gn gc) c.groups U G M (.slice b1 m1 e1) acl want hgl (by omega) (Ni.holds_below hG.old hB1) (Ae.holds_below hA hB1))
  rw [show (c.uid, c.gid, c.groups) = tri c from rfl] at HAL
  generalize allowedV (tri c) U G M acl want = R at HAL
  have HB := Lib.hid hB1
  obtain ⟨x0, x1, x2, x3⟩ := Bk.c4 bF
  obtain ⟨z0, z1, z2, z3, z4, z5, z6, z7, z8, z9⟩ := Bk.c10 bN
  obtain ⟨y0, y1, y2⟩ := bC1.three
  clear hG hA hB bN bC h hC hat hCl hP bC1 bF hB1 hok hal
  go_enter Tryz.func78, Tryz.ntmps78
  go_wp2_with fail
  refine (HAL.out).mono ?_
  rintro e w2 ⟨rfl, hb2⟩
  go_wp2
  go_ret
  exact ⟨rfl, HB.out.trans (hb2.mono HB.out.size)⟩

set_option maxRecDepth 100000 in
set_option maxHeartbeats 3200000 in
theorem pass_impl (w : World) (v cv : Value) (f : F) (c : CrS.C) (k : Nat) (hgl : c.groups.length ≤ 1073741824) (hok : okF f = true) (hk : k < 20) (h : FsF.Holds w v f) (hC : CrF.Holds w cv c) :
    Calls Tryz.prog 88 #[v, cv, .int .i64 k] w fun e w' => e = .returned (.int .i64 (passC f c k)) ∧ Below w.heap.size w w' := by
  have hal := acl_len hok hk
  obtain ⟨t, qa, Q, qc, b, o, ic, da, D, dc, rfl, hb, hic, hat⟩ := open_fs hok h
  obtain ⟨ga, gn, gc, rfl, hG⟩ := open_cr hC
  obtain ⟨r0, r1, r2, hCl, hP⟩ := hat k hk
  unfold passC accB
  generalize ino f k = n at hCl hP hal ⊢
  obtain ⟨b0, b1, b2, m0, e0, m1, e1, m2, e2, d0, d1, d2, d3, d4, d5, d6, d7, d8, d9, hA⟩ := ino_cells hCl hP
  obtain ⟨K, M, U, G, L, S, T, nb, acl, nd⟩ := n
  dsimp only at d0 d1 d2 d3 d4 d5 d6 hA hal ⊢
  obtain ⟨w0, hw0⟩ : ∃ w0, (w.alloc (.cells #[.int .i64 t, .slice qa Q qc, .slice (some ⟨b, o, none⟩) 20 ic, .slice da D dc] 33)).alloc (.cells #[.int .i64 c.uid, .int .i64 c.gid, .slice ga gn gc] 54) = w0 := ⟨_, rfl⟩
  have hB : Below w.heap.size w w0 := by rw [← hw0]; exact ((Below.refl _ w).alloc (Nat.le_refl _) _).alloc (by simp) _
  have bF : Bk w0 w.heap.size #[.int .i64 t, .slice qa Q qc, .slice (some ⟨b, o, none⟩) 20 ic, .slice da D dc] 33 := by rw [← hw0]; exact (new w _ _).alloc _
  have bC : Bk w0 (w.heap.size + 1) #[.int .i64 c.uid, .int .i64 c.gid, .slice ga gn gc] 54 := by
    have := new (w.alloc (.cells #[.int .i64 t, .slice qa Q qc, .slice (some ⟨b, o, none⟩) 20 ic, .slice da D dc] 33)) #[.int .i64 c.uid, .int .i64 c.gid, .slice ga gn gc] 54
    rw [World.size_alloc, hw0] at this; exact this
  have hs0 : w0.heap.size = w.heap.size + 1 + 1 := by rw [← hw0]; simp
  rw [← hB.cell (p := ⟨b, _, none⟩) hb] at d0 d1 d2 d3 d4 d5 d6 d7 d8 d9
  have hk0 : (0 : Int) ≤ k := by omega
  have hk1 : (k : Int) < 20 := by omega
  obtain ⟨w1, hw1⟩ : ∃ w1, w0.alloc (.cells #[.int .i64 K, .int .i64 M, .int .i64 U, .int .i64 G, .int .i64 L, .int .i64 S, .int .i64 T, .slice b0 m0 e0, .slice b1 m1 e1, .slice b2 m2 e2] 89) = w1 := ⟨_, rfl⟩
  have hB1 : Below w.heap.size w w1 := by rw [← hw1]; exact hB.alloc (by omega) _
  have bN : Bk w1 (w.heap.size + 1 + 1) #[.int .i64 K, .int .i64 M, .int .i64 U, .int .i64 G, .int .i64 L, .int .i64 S, .int .i64 T, .slice b0 m0 e0, .slice b1 m1 e1, .slice b2 m2 e2] 89 := by rw [← hw1]; exact new_at w0 _ _ _ hs0.symm
  have bC1 : Bk w1 (w.heap.size + 1) #[.int .i64 c.uid, .int .i64 c.gid, .slice ga gn gc] 54 := by rw [← hw1]; exact bC.alloc _
  have HAL := Lib.hid (allows_impl w1 K M U G L S T acl c 1 b0 b1 b2 ga m0 e0 m1 e1 m2 e2 gn gc hgl (by omega) (NiF.holds_below hG (hB1.mono (Nat.le_refl _))) (AeF.holds_below hA hB1))
  obtain ⟨R, hR⟩ : ∃ R, R = allowedV (tri c) U G M acl 1 := ⟨_, rfl⟩
  rw [← hR] at HAL ⊢
  have HB := Lib.hid hB1
  obtain ⟨x0, x1, x2, x3⟩ := Bk.c4 bF
  obtain ⟨z0, z1, z2, z3, z4, z5, z6, z7, z8, z9⟩ := Bk.c10 bN
  obtain ⟨y0, y1, y2⟩ := bC1.three
  clear hG hA hB bN bC h hC hat hCl hP bC1 bF hB1 hok hal hR
  obtain ⟨V, hV⟩ : ∃ V : Int, V = if K = 2 then (if R = true then (0 : Int) else 2) else 5 := ⟨_, rfl⟩
  rw [← hV]
  by_cases hz : K = 2
  · rw [if_pos hz] at hV
    have HF := Lib.hid hV
    clear hV
    subst hz
    go_enter Tryz.func88, Tryz.ntmps88
    go_wp2_with fail
    refine (HAL.out).mono ?_
    rintro e w2 ⟨rfl, hb2⟩
    cases R
    all_goals
      go_wp2
      go_ret
      exact ⟨ret_i HF.out.symm, HB.out.trans (hb2.mono HB.out.size)⟩
  · have q1 : (K != 2) = true := by simpa using hz
    have q2 : (K == 2) = false := by simpa using hz
    rw [if_neg hz] at hV
    have HF := Lib.hid hV
    clear hz hV
    go_enter Tryz.func88, Tryz.ntmps88
    go_wp2
    go_ret
    exact ⟨ret_i HF.out.symm, HB.out⟩
end Go.Proofs.YthppbcnejapbiaaGreatDoor.PwA

-- YthppbcnejapbiaaGreatDoorPwM
/- Contracts: MayAccess of the program and of the model. Conditions: as each theorem types them. -/
namespace Go.Proofs.YthppbcnejapbiaaGreatDoor.PwM
open Go.ChangeShapes Go.WideShapes Go.ChangeAt Go.RowKit
open Foot Bx
open InoV (I)
open FsV (F okF)
open FsY (ino hasObjB)
open FsZ (GoodF)
open CredV (allowedV credB)
open CrS (tri)
open PwV PwA OpF
open Dk (ret_bool)
set_option linter.unusedVariables false

theorem obj_parts {f : F} {i : Int} (h : hasObjB f i = true) : ∃ k : Nat, i = k ∧ k < 20 ∧ okF f = true := by
  unfold hasObjB at h
  simp only [Bool.and_eq_true, decide_eq_true_eq] at h
  exact ⟨i.toNat, by omega, by omega, h.1.2⟩
set_option maxRecDepth 100000 in
set_option maxHeartbeats 3200000 in
theorem may_impl (w : World) (v cv : Value) (f : F) (c : CrS.C) (i want : Int) (hc : FsF.cost f ≤ 1073741824) (hl : FsF.Lim f) (hv : InOk.Vars w) (hgl : c.groups.length ≤ 1073741824) (h : FsF.Holds w v f) (hC : CrF.Holds w cv c) :
    Calls Tryz.prog 33 #[v, cv, .int .i64 i, .int .i64 want] w fun e w' => e = .returned (.bool (mayV f c i want)) ∧ Below w.heap.size w w' := by
  obtain ⟨T, qa, Q, qc, ia, M, ic, da, D, dc, rfl⟩ := form_fs h
  obtain ⟨ga, gn, gc, rfl, hG⟩ := open_cr hC
  have HFS := Lib.hid h
  have HCR := Lib.hid hC
  have HGR := Lib.hid hG
  obtain ⟨U, hU⟩ : ∃ U, U = c.uid := ⟨_, rfl⟩
  obtain ⟨G, hG'⟩ : ∃ G, G = c.gid := ⟨_, rfl⟩
  rw [← hU, ← hG'] at HCR ⊢
  have HU := Lib.hid hU
  have HG := Lib.hid hG'
  clear hU hG' hG hC h
  obtain ⟨w0, hw0⟩ : ∃ w0, (w.alloc (.cells #[.int .i64 T, .slice qa Q qc, .slice ia M ic, .slice da D dc] 33)).alloc (.cells #[.int .i64 U, .int .i64 G, .slice ga gn gc] 54) = w0 := ⟨_, rfl⟩
  have hB : Below w.heap.size w w0 := by rw [← hw0]; exact ((Below.refl _ w).alloc (Nat.le_refl _) _).alloc (by simp) _
  have bF : Bk w0 w.heap.size #[.int .i64 T, .slice qa Q qc, .slice ia M ic, .slice da D dc] 33 := by rw [← hw0]; exact (new w _ _).alloc _
  have bC : Bk w0 (w.heap.size + 1) #[.int .i64 U, .int .i64 G, .slice ga gn gc] 54 := by
    have := new (w.alloc (.cells #[.int .i64 T, .slice qa Q qc, .slice ia M ic, .slice da D dc] 33)) #[.int .i64 U, .int .i64 G, .slice ga gn gc] 54
    rw [World.size_alloc, hw0] at this; exact this
  have hs0 : w0.heap.size = w.heap.size + 1 + 1 := by rw [← hw0]; simp
  have HB := Lib.hid hB
  obtain ⟨x0, x1, x2, x3⟩ := Bk.c4 bF
  obtain ⟨y0, y1, y2⟩ := bC.three
  obtain ⟨B, hBe⟩ : ∃ B, B = hasObjB f i := ⟨_, rfl⟩
  have HHA := Lib.hid (show Calls Tryz.prog 80 #[.agg #[.int .i64 T, .slice qa Q qc, .slice ia M ic, .slice da D dc], .int .i64 i] w0 fun e w' => e = .returned (.bool B) ∧ Below w0.heap.size w0 w' from by rw [hBe]; exact CoN.has_impl w0 _ f i hc hl (hv.all hB) (FsF.holds_below HFS.out hB))
  have HBE := Lib.hid hBe
  have HBF := Lib.hid bF
  have HBC := Lib.hid bC
  have HS0 := Lib.hid hs0
  clear hBe bF bC hc hl hv hB hs0
  cases B
  · have HF := Lib.hid (show mayV f c i want = false from by unfold mayV; rw [← HBE.out]; rfl)
    go_enter Tryz.func33, Tryz.ntmps33
    go_wp2_with fail
    refine (HHA.out).mono ?_
    rintro e w2 ⟨rfl, hb2⟩
    go_wp2
    go_ret
    exact ⟨ret_bool HF.out.symm, HB.out.trans (hb2.mono HB.out.size)⟩
  · obtain ⟨k, rfl, hk, hok⟩ := obj_parts HBE.out.symm
    have HF := Lib.hid (show mayV f c (k : Int) want = accB f c k want from by unfold mayV; rw [← HBE.out, Int.toNat_natCast]; rfl)
    have hal := acl_len hok hk
    obtain ⟨t', qa', Q', qc', b, o, ic', da', D', dc', e0, hb, hic, hat⟩ := open_fs hok HFS.out
    simp only [Value.agg.injEq, Array.mk.injEq, List.cons.injEq, and_true, Value.slice.injEq] at e0
    obtain ⟨-, -, ⟨rfl, rfl, rfl⟩, -⟩ := e0
    obtain ⟨r0, r1, r2, hCl, hP⟩ := hat k hk
    unfold accB at HF
    generalize ino f k = n at hCl hP hal HF
    obtain ⟨b0, b1, b2, m0, e0, m1, e1, m2, e2, d0, d1, d2, d3, d4, d5, d6, d7, d8, d9, hA⟩ := ino_cells hCl hP
    obtain ⟨iK, iM, iU, iG, iL, iS, iT, nb, acl, nd⟩ := n
    dsimp only at d0 d1 d2 d3 d4 d5 d6 hA hal HF
    have hk0 : (0 : Int) ≤ k := by omega
    have hk1 : (k : Int) < 20 := by omega
    obtain ⟨R, hR⟩ : ∃ R, R = allowedV (tri c) iU iG iM acl want := ⟨_, rfl⟩
    rw [← hR] at HF
    have HRE := Lib.hid hR
    have HD := Lib.hid (⟨d0, d1, d2, d3, d4, d5, d6, d7, d8, d9⟩ : _ ∧ _ ∧ _ ∧ _ ∧ _ ∧ _ ∧ _ ∧ _ ∧ _ ∧ _)
    have HHB := Lib.hid hb
    have HA := Lib.hid hA
    have hal2 : acl.length ≤ 1048576 := by omega
    clear d0 d1 d2 d3 d4 d5 d6 d7 d8 d9 hCl hP hat hb hA hR hal hok
    go_enter Tryz.func33, Tryz.ntmps33
    go_wp2_with fail
    refine (HHA.out).mono ?_
    rintro e w2 ⟨rfl, hb2⟩
    have HB2 := Lib.hid (HB.out.trans (hb2.mono HB.out.size))
    have bF2 := HBF.out.all hb2
    have bC2 := HBC.out.all hb2
    obtain ⟨d0, d1, d2, d3, d4, d5, d6, d7, d8, d9⟩ := HD.out
    rw [← HB2.out.cell (p := ⟨b, _, none⟩) HHB.out] at d0 d1 d2 d3 d4 d5 d6 d7 d8 d9
    have hb3 : b < w2.heap.size := Nat.lt_of_lt_of_le HHB.out HB2.out.size
    have HAW := Lib.hid (fun (n : Fam.Ix w2) => show Calls Tryz.prog 81 #[.agg #[.int .i64 iK, .int .i64 iM, .int .i64 iU, .int .i64 iG, .int .i64 iL, .int .i64 iS, .int .i64 iT, .slice b0 m0 e0, .slice b1 m1 e1, .slice b2 m2 e2], .agg #[.int .i64 U, .int .i64 G, .slice ga gn gc], .int .i64 want] (Fam.wld w2 n) fun e w' => e = .returned (.bool R) ∧ Below (Fam.wld w2 n).heap.size (Fam.wld w2 n) w' from by
      have hbn := HB2.out.trans ((Fam.wld_below w2 n).mono HB2.out.size)
      rw [HRE.out, HU.out, HG.out]
      exact allows_impl _ iK iM iU iG iL iS iT acl c want b0 b1 b2 ga m0 e0 m1 e1 m2 e2 gn gc hgl hal2 (NiF.holds_below HGR.out hbn) (AeF.holds_below HA.out hbn))
    have z0 := Fam.cell (W := w2) (p := ⟨w.heap.size, 2, none⟩) bF2.lt (show _ = some (.slice (some ⟨b, o, none⟩) 20 ic) from bF2.cell 2)
    have u0 := Fam.cell (W := w2) (p := ⟨w.heap.size + 1, 0, none⟩) bC2.lt (show _ = some (.int .i64 U) from bC2.cell 0)
    have u1 := Fam.cell (W := w2) (p := ⟨w.heap.size + 1, 1, none⟩) bC2.lt (show _ = some (.int .i64 G) from bC2.cell 1)
    have u2 := Fam.cell (W := w2) (p := ⟨w.heap.size + 1, 2, none⟩) bC2.lt (show _ = some (.slice ga gn gc) from bC2.cell 2)
    have f0 := Fam.cell (W := w2) (p := ⟨b, _, none⟩) hb3 d0
    have f1 := Fam.cell (W := w2) (p := ⟨b, _, none⟩) hb3 d1
    have f2 := Fam.cell (W := w2) (p := ⟨b, _, none⟩) hb3 d2
    have f3 := Fam.cell (W := w2) (p := ⟨b, _, none⟩) hb3 d3
    have f4 := Fam.cell (W := w2) (p := ⟨b, _, none⟩) hb3 d4
    have f5 := Fam.cell (W := w2) (p := ⟨b, _, none⟩) hb3 d5
    have f6 := Fam.cell (W := w2) (p := ⟨b, _, none⟩) hb3 d6
    have f7 := Fam.cell (W := w2) (p := ⟨b, _, none⟩) hb3 d7
    have f8 := Fam.cell (W := w2) (p := ⟨b, _, none⟩) hb3 d8
    have f9 := Fam.cell (W := w2) (p := ⟨b, _, none⟩) hb3 d9
    clear d0 d1 d2 d3 d4 d5 d6 d7 d8 d9 bF2 bC2 hb2 hb3 x0 x1 x2 x3 y0 y1 y2
    go_wp2
    refine Fam.region (by kernel_rfl) (by kernel_rfl) ?_
    repeat (go_big_quiet_step (first | (go_at_call 81; with_reducible refine Fam.calls (HAW.out _))))
    refine wpQuiet_nil ?_
    intro _ hw'
    obtain ⟨nq, hw''⟩ := hw'
    subst hw''
    have hbq := Fam.wld_below _ nq
    generalize Fam.wld _ nq = w9 at hbq ⊢
    have HB9 := Lib.hid (HB2.out.trans (hbq.mono HB2.out.size))
    clear hbq z0 u0 u1 u2 f0 f1 f2 f3 f4 f5 f6 f7 f8 f9
    go_wp2
    go_ret
    exact ⟨ret_bool HF.out.symm, HB9.out⟩

set_option maxRecDepth 100000 in
set_option maxHeartbeats 3200000 in
theorem may_spec (w : World) (v cv : Value) (f : F) (c : CrS.C) (i want : Int) (hc : FsF.cost f ≤ 1073741824) (hl : FsF.Lim f) (hgl : c.groups.length ≤ 1073741824) (h : FsF.Holds w v f) (hC : CrF.Holds w cv c) :
    Calls Tryz.prog 31 #[v, cv, .int .i64 i, .int .i64 want] w fun e w' => e = .returned (.bool (mayV f c i want)) ∧ Below w.heap.size w w' := by
  obtain ⟨T, qa, Q, qc, ia, M, ic, da, D, dc, rfl⟩ := form_fs h
  obtain ⟨ga, gn, gc, rfl, hG⟩ := open_cr hC
  have HFS := Lib.hid h
  have HCR := Lib.hid hC
  obtain ⟨U, hU⟩ : ∃ U, U = c.uid := ⟨_, rfl⟩
  obtain ⟨G, hG'⟩ : ∃ G, G = c.gid := ⟨_, rfl⟩
  rw [← hU, ← hG'] at HCR ⊢
  clear hU hG' hG hC h
  obtain ⟨w0, hw0⟩ : ∃ w0, (w.alloc (.cells #[.int .i64 T, .slice qa Q qc, .slice ia M ic, .slice da D dc] 33)).alloc (.cells #[.int .i64 U, .int .i64 G, .slice ga gn gc] 54) = w0 := ⟨_, rfl⟩
  have hB : Below w.heap.size w w0 := by rw [← hw0]; exact ((Below.refl _ w).alloc (Nat.le_refl _) _).alloc (by simp) _
  have bF : Bk w0 w.heap.size #[.int .i64 T, .slice qa Q qc, .slice ia M ic, .slice da D dc] 33 := by rw [← hw0]; exact (new w _ _).alloc _
  have bC : Bk w0 (w.heap.size + 1) #[.int .i64 U, .int .i64 G, .slice ga gn gc] 54 := by
    have := new (w.alloc (.cells #[.int .i64 T, .slice qa Q qc, .slice ia M ic, .slice da D dc] 33)) #[.int .i64 U, .int .i64 G, .slice ga gn gc] 54
    rw [World.size_alloc, hw0] at this; exact this
  have hs0 : w0.heap.size = w.heap.size + 1 + 1 := by rw [← hw0]; simp
  have HB := Lib.hid hB
  obtain ⟨x0, x1, x2, x3⟩ := Bk.c4 bF
  obtain ⟨y0, y1, y2⟩ := bC.three
  obtain ⟨B, hBe⟩ : ∃ B, B = hasObjB f i := ⟨_, rfl⟩
  have HHA := Lib.hid (show Calls Tryz.prog 77 #[.agg #[.int .i64 T, .slice qa Q qc, .slice ia M ic, .slice da D dc], .int .i64 i] w0 fun e w' => e = .returned (.bool B) ∧ Below w0.heap.size w0 w' from by rw [hBe]; exact SpR.use_spec w0 _ f i hc hl (FsF.holds_below HFS.out hB))
  have HBE := Lib.hid hBe
  have HBF := Lib.hid bF
  have HBC := Lib.hid bC
  clear hBe bF bC hc hl hB hs0
  cases B
  · have HF := Lib.hid (show mayV f c i want = false from by unfold mayV; rw [← HBE.out]; rfl)
    go_enter Tryz.func31, Tryz.ntmps31
    go_wp2_with fail
    refine (HHA.out).mono ?_
    rintro e w2 ⟨rfl, hb2⟩
    go_wp2
    go_ret
    exact ⟨ret_bool HF.out.symm, HB.out.trans (hb2.mono HB.out.size)⟩
  · obtain ⟨k, rfl, hk, hok⟩ := obj_parts HBE.out.symm
    have HF := Lib.hid (show mayV f c (k : Int) want = accB f c k want from by unfold mayV; rw [← HBE.out, Int.toNat_natCast]; rfl)
    have HML := Lib.hid (fun (W : World) (hb : Below w.heap.size w W) => may_l11 W _ _ f c k want hgl hok hk (FsF.holds_below HFS.out hb) (CrF.holds_below HCR.out hb))
    generalize accB f c k want = R at HF HML
    clear hok hk
    go_enter Tryz.func31, Tryz.ntmps31
    go_wp2_with fail
    refine (HHA.out).mono ?_
    rintro e w2 ⟨rfl, hb2⟩
    have HB2 := Lib.hid (HB.out.trans (hb2.mono HB.out.size))
    obtain ⟨v0, v1, v2, v3⟩ := Bk.c4 (HBF.out.all hb2)
    obtain ⟨u0, u1, u2⟩ := (HBC.out.all hb2).three
    clear x0 x1 x2 x3 y0 y1 y2 hb2
    go_wp2_with fail
    refine (HML.out _ HB2.out).mono ?_
    rintro e w3 ⟨rfl, hb3⟩
    go_wp2
    go_ret
    exact ⟨ret_bool HF.out.symm, HB2.out.trans (hb3.mono HB2.out.size)⟩
end Go.Proofs.YthppbcnejapbiaaGreatDoor.PwM
