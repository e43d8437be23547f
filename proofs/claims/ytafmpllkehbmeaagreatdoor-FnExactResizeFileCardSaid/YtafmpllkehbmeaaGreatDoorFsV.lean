/- Plain facts on the state of a file system: who owns a block, which blocks are in use, when its parts are valid and fit together, how many inodes and blocks of a pool are in use, and which comes next. No condition of its own. -/
import Derived.Test.YtafmpllkehbmeaaGreatDoorInoV
namespace Go.Proofs.YtafmpllkehbmeaaGreatDoor.FsV
open InoV (I okI usedV hasB)
set_option linter.unusedVariables false

structure F where
  tick : Int
  quotas : List (Int × Int)
  inodes : List I
  data : List ByteArray
def zero : F := ⟨0, [], [], []⟩
def e0 : ByteArray := ⟨#[]⟩
def quB (q : Int × Int) : Bool := (decide (0 ≤ q.1) && decide (q.1 ≤ 5)) && (decide (0 ≤ q.2) && decide (q.2 ≤ 14))
def ownerV (b : Int) : Int := if 0 ≤ b ∧ b ≤ 55 then b / 14 else -1
def zB (s : ByteArray) : Bool := s.data.toList.all (· == 0)
/-- The blocks in use, in order. -/
def allB (ns : List I) : List Int := ns.flatMap fun n => usedV n.blocks
/-- .. each with the owner of its inode. -/
def pairs (ns : List I) : List (Int × Int) := ns.flatMap fun n => (usedV n.blocks).map fun b => (n.uid, b)
def oneB (seen : List Int) (p : Int × Int) : Bool := decide (ownerV p.2 = p.1) && !hasB seen p.2
/-- Each has its owner, and none has been seen before. -/
def goB : List Int → List (Int × Int) → Bool
  | _, [] => true
  | seen, p :: r => oneB seen p && goB (seen ++ [p.2]) r
def ownB (ns : List I) : Bool := goB [] (pairs ns)
theorem has_app (a b : List Int) (x : Int) : hasB (a ++ b) x = (hasB a x || hasB b x) := by simp [hasB]
theorem has_one (y x : Int) : hasB [y] x = decide (y = x) := by simp [hasB]
theorem has_mem {l : List Int} {x : Int} : hasB l x = true ↔ x ∈ l := by simp [hasB]
theorem has_snoc (a : List Int) (y x : Int) : hasB (a ++ [y]) x = (hasB a x || decide (y = x)) := by rw [has_app, has_one]
theorem all_app (a b : List I) : allB (a ++ b) = allB a ++ allB b := by simp [allB]
theorem pairs_app (a b : List I) : pairs (a ++ b) = pairs a ++ pairs b := by simp [pairs]
theorem pairs_snd (ns : List I) : (pairs ns).map Prod.snd = allB ns := by
  induction ns with
  | nil => rfl
  | cons n r ih =>
    rw [show pairs (n :: r) = ((usedV n.blocks).map fun b => (n.uid, b)) ++ pairs r from rfl, List.map_append, ih, show allB (n :: r) = usedV n.blocks ++ allB r from rfl, List.map_map]
    simp [Function.comp_def]
theorem go_app (p q : List (Int × Int)) : ∀ seen, goB seen (p ++ q) = (goB seen p && goB (seen ++ p.map Prod.snd) q) := by
  induction p with
  | nil => intro seen; simp [goB]
  | cons x r ih =>
    intro seen
    rw [List.cons_append, goB, goB, ih, List.map_cons, List.append_assoc, Bool.and_assoc]; rfl
/-- The pairs up to inode i's block number j. -/
def pre (ns : List I) (i j : Nat) : List (Int × Int) := pairs (ns.take i) ++ (((usedV (ns.getD i InoV.zero).blocks).take j).map fun b => ((ns.getD i InoV.zero).uid, b))
def seen (ns : List I) (i j : Nat) : List Int := allB (ns.take i) ++ (usedV (ns.getD i InoV.zero).blocks).take j
theorem pre_snd (ns : List I) (i j : Nat) : (pre ns i j).map Prod.snd = seen ns i j := by
  rw [pre, List.map_append, pairs_snd, List.map_map, seen]; simp [Function.comp_def]
theorem take_snoc {α : Type} (l : List α) (z : α) (i : Nat) (h : i < l.length) : l.take (i + 1) = l.take i ++ [l.getD i z] := by
  rw [List.take_succ_eq_append_getElem h]; simp [List.getD, List.getElem?_eq_getElem h]
theorem seen_zero (ns : List I) (i : Nat) : seen ns i 0 = allB (ns.take i) := by simp [seen]
theorem pre_zero (ns : List I) (i : Nat) : pre ns i 0 = pairs (ns.take i) := by simp [pre]
theorem seen_end (ns : List I) (i : Nat) (h : i < ns.length) : seen ns i (usedV (ns.getD i InoV.zero).blocks).length = seen ns (i + 1) 0 := by
  rw [seen_zero, take_snoc ns InoV.zero i h, all_app, seen, List.take_length]; simp [allB]
theorem pre_end (ns : List I) (i : Nat) (h : i < ns.length) : pre ns i (usedV (ns.getD i InoV.zero).blocks).length = pre ns (i + 1) 0 := by
  rw [pre_zero, take_snoc ns InoV.zero i h, pairs_app, pre, List.take_length]; simp [pairs]
theorem seen_snoc (ns : List I) (i j : Nat) (h : j < (usedV (ns.getD i InoV.zero).blocks).length) : seen ns i (j + 1) = seen ns i j ++ [(usedV (ns.getD i InoV.zero).blocks).getD j 0] := by
  rw [seen, seen, take_snoc _ 0 j h, List.append_assoc]
theorem pre_snoc (ns : List I) (i j : Nat) (h : j < (usedV (ns.getD i InoV.zero).blocks).length) : pre ns i (j + 1) = pre ns i j ++ [((ns.getD i InoV.zero).uid, (usedV (ns.getD i InoV.zero).blocks).getD j 0)] := by
  rw [pre, pre, take_snoc _ 0 j h, List.map_append, List.append_assoc]; rfl
/-- The whole is what stands before block j of inode i, that one, and a rest. -/
theorem pairs_split (ns : List I) (i j : Nat) (hi : i < ns.length) (h : j < (usedV (ns.getD i InoV.zero).blocks).length) : ∃ r, pairs ns = pre ns i j ++ ((ns.getD i InoV.zero).uid, (usedV (ns.getD i InoV.zero).blocks).getD j 0) :: r := by
  have e : ns = ns.take i ++ (ns.getD i InoV.zero :: ns.drop (i + 1)) := by
    rw [List.getD_eq_getElem?_getD, List.getElem?_eq_getElem hi]; simp
  have e2 : usedV (ns.getD i InoV.zero).blocks = (usedV (ns.getD i InoV.zero).blocks).take j ++ ((usedV (ns.getD i InoV.zero).blocks).getD j 0 :: (usedV (ns.getD i InoV.zero).blocks).drop (j + 1)) := by
    rw [List.getD_eq_getElem?_getD (l := usedV _), List.getElem?_eq_getElem h]; simp
  refine ⟨((usedV (ns.getD i InoV.zero).blocks).drop (j + 1)).map (fun b => ((ns.getD i InoV.zero).uid, b)) ++ pairs (ns.drop (i + 1)), ?_⟩
  conv => lhs; rw [e]
  rw [pairs_app, show pairs (ns.getD i InoV.zero :: ns.drop (i + 1)) = ((usedV (ns.getD i InoV.zero).blocks).map fun b => ((ns.getD i InoV.zero).uid, b)) ++ pairs (ns.drop (i + 1)) from by simp [pairs], pre]
  conv => lhs; rw [e2]
  simp
theorem own_no (ns : List I) (i j : Nat) (hi : i < ns.length) (h : j < (usedV (ns.getD i InoV.zero).blocks).length) (hn : oneB (seen ns i j) ((ns.getD i InoV.zero).uid, (usedV (ns.getD i InoV.zero).blocks).getD j 0) = false) : ownB ns = false := by
  obtain ⟨r, hr⟩ := pairs_split ns i j hi h
  rw [ownB, hr, go_app, List.nil_append, pre_snd, goB, hn]; simp
theorem own_step (ns : List I) (i j : Nat) (h : j < (usedV (ns.getD i InoV.zero).blocks).length) (hp : goB [] (pre ns i j) = true) (hn : oneB (seen ns i j) ((ns.getD i InoV.zero).uid, (usedV (ns.getD i InoV.zero).blocks).getD j 0) = true) : goB [] (pre ns i (j + 1)) = true := by
  rw [pre_snoc ns i j h, go_app, hp, List.nil_append, pre_snd, goB, hn]; rfl
theorem own_end (ns : List I) (i : Nat) (hi : i = ns.length) (h : goB [] (pre ns i 0) = true) : ownB ns = true := by
  rw [pre_zero, hi, List.take_length] at h; exact h
theorem has_at {ns : List I} {i j : Nat} (hi : i < ns.length) (h : j < (usedV (ns.getD i InoV.zero).blocks).length) : hasB (allB ns) ((usedV (ns.getD i InoV.zero).blocks).getD j 0) = true := by
  obtain ⟨r, hr⟩ := pairs_split ns i j hi h
  rw [← pairs_snd, hr, has_mem]; simp
/-- Whoever owns its blocks owns blocks that are there. -/
theorem go_mem {p : List (Int × Int)} : ∀ {s : List Int}, goB s p = true → (∀ x ∈ p, ownerV x.2 = x.1) ∧ (p.map Prod.snd).Nodup ∧ ∀ x ∈ p, x.2 ∉ s := by
  induction p with
  | nil => intro s _; simp
  | cons a r ih =>
    intro s h
    rw [goB, Bool.and_eq_true] at h
    obtain ⟨h1, h2⟩ := h
    simp only [oneB, Bool.and_eq_true, decide_eq_true_eq, Bool.not_eq_true'] at h1
    obtain ⟨i1, i2, i3⟩ := ih h2
    have hns : a.2 ∉ s := fun hh => by rw [has_mem.2 hh] at h1; cases h1.2
    refine ⟨fun x hx => ?_, ?_, fun x hx => ?_⟩
    · rcases List.mem_cons.1 hx with rfl | hx
      · exact h1.1
      · exact i1 x hx
    · rw [List.map_cons, List.nodup_cons]
      refine ⟨fun hh => ?_, i2⟩
      obtain ⟨y, hy, e⟩ := List.mem_map.1 hh
      exact i3 y hy (by rw [e]; simp)
    · rcases List.mem_cons.1 hx with rfl | hx
      · exact hns
      · exact fun hh => i3 x hx (by simp [hh])
theorem owner_in {b u : Int} (h : ownerV b = u) (hu : u ≠ -1) : 0 ≤ b ∧ b ≤ 55 ∧ b / 14 = u := by
  unfold ownerV at h
  split at h
  · omega
  · omega
/-- The parts, each for itself. -/
def partsB (f : F) : Bool := decide (f.quotas.length = 4) && decide (f.inodes.length = 20) && decide (f.data.length = 56) && f.quotas.all quB && f.inodes.all okI && f.data.all (fun s => decide (s.size = 32))
/-- What the last block of n has beyond its size. -/
def beyond (f : F) (n : I) : ByteArray :=
  if n.blocks.length = 0 then e0
  else if n.blocks.getD (n.blocks.length - 1) 0 = -1 then e0
  else (f.data.getD (n.blocks.getD (n.blocks.length - 1) 0).toNat e0).extract (n.size - ((n.blocks.length : Int) - 1) * 32).toNat 32
def freeB (f : F) (b : Nat) : Bool := hasB (allB f.inodes) b || zB (f.data.getD b e0)
def elseB (f : F) : Bool := (List.range 56).all (freeB f) && f.inodes.all (fun n => zB (beyond f n))
def tickB (f : F) : Bool := decide (0 ≤ f.tick) && decide (f.tick ≤ 1000000000)
def rootB (f : F) : Bool := decide ((f.inodes.getD 0 InoV.zero).kind = 2)
def okF (f : F) : Bool := tickB f && partsB f && rootB f && (ownB f.inodes && elseB f)
theorem parts_of {f : F} (h : partsB f = true) : f.quotas.length = 4 ∧ f.inodes.length = 20 ∧ f.data.length = 56 ∧ (∀ q ∈ f.quotas, quB q = true) ∧ (∀ n ∈ f.inodes, okI n = true) ∧ (∀ s ∈ f.data, s.size = 32) := by
  simp only [partsB, Bool.and_eq_true, decide_eq_true_eq, List.all_eq_true, and_assoc] at h
  exact h
theorem parts_mk {f : F} (h1 : f.quotas.length = 4) (h2 : f.inodes.length = 20) (h3 : f.data.length = 56) (h4 : f.quotas.all quB = true) (h5 : f.inodes.all okI = true) (h6 : f.data.all (fun s => decide (s.size = 32)) = true) : partsB f = true := by
  simp only [partsB, Bool.and_eq_true, decide_eq_true_eq]
  exact ⟨⟨⟨⟨⟨h1, h2⟩, h3⟩, h4⟩, h5⟩, h6⟩
theorem ok_parts {f : F} (h : okF f = true) : tickB f = true ∧ partsB f = true ∧ rootB f = true ∧ ownB f.inodes = true ∧ elseB f = true := by
  simp only [okF, Bool.and_eq_true, and_assoc] at h
  exact h
theorem mem_getD {α : Type} {l : List α} {z : α} {i : Nat} (h : i < l.length) : l.getD i z ∈ l := by
  rw [List.getD_eq_getElem?_getD, List.getElem?_eq_getElem h]
  exact List.getElem_mem h
theorem uid_in {f : F} (h : partsB f = true) {n : I} (hn : n ∈ f.inodes) : 0 ≤ n.uid ∧ n.uid ≤ 3 := by
  have := InoV.ok_nums ((parts_of h).2.2.2.2.1 n hn)
  omega
/-- A list's check, told up to i. -/
def allTo {α : Type} (p : α → Bool) (l : List α) (i : Nat) : Bool := (l.take i).all p
theorem allTo_zero {α : Type} (p : α → Bool) (l : List α) : allTo p l 0 = true := by simp [allTo]
theorem allTo_succ {α : Type} (p : α → Bool) (l : List α) (z : α) (i : Nat) (h : i < l.length) : allTo p l (i + 1) = (allTo p l i && p (l.getD i z)) := by
  rw [allTo, allTo, take_snoc l z i h, List.all_append]; simp
theorem allTo_end {α : Type} (p : α → Bool) (l : List α) (i : Nat) (h : i = l.length) : allTo p l i = l.all p := by rw [allTo, h, List.take_length]
theorem all_no {α : Type} {p : α → Bool} {l : List α} {z : α} {i : Nat} (h : i < l.length) (hn : p (l.getD i z) = false) : l.all p = false := by
  rw [Bool.eq_false_iff, ne_eq, List.all_eq_true]
  intro hh
  rw [hh _ (mem_getD h)] at hn; cases hn
def rangeTo (p : Nat → Bool) (i : Nat) : Bool := (List.range i).all p
theorem rangeTo_succ (p : Nat → Bool) (i : Nat) : rangeTo p (i + 1) = (rangeTo p i && p i) := by rw [rangeTo, List.range_succ, List.all_append]; simp [rangeTo]
theorem range_no {p : Nat → Bool} {m i : Nat} (h : i < m) (hn : p i = false) : (List.range m).all p = false := by
  rw [Bool.eq_false_iff, ne_eq, List.all_eq_true]
  intro hh
  rw [hh i (List.mem_range.2 h)] at hn; cases hn

/-! Counting and choosing. -/
def useI (f : F) (i : Nat) : Bool := !decide ((f.inodes.getD i InoV.zero).kind = 0)
def useB (f : F) (b : Nat) : Bool := hasB (allB f.inodes) b
/-- How many of m numbers from a on are in use. -/
def cnt (p : Nat → Bool) (a m : Nat) : Nat := ((List.range m).filter fun k => p (a + k)).length
/-- The first of m numbers from a on that is not in use. -/
def first (p : Nat → Bool) (a m : Nat) : Option Nat := (List.range m).find? fun k => !p (a + k)
def usersB (u : Int) : Bool := decide (0 ≤ u) && decide (u ≤ 3)
def pick (p : Nat → Bool) (a m : Nat) (q : Int) : Int × Int :=
  if q ≤ (cnt p a m : Nat) then (0, 7) else match first p a m with
    | some k => (((a + k : Nat) : Int), 0)
    | none => (0, 8)
/-- What an allocation asks of a file system. -/
structure Half (f : F) : Prop where
  quotas : f.quotas.length = 4
  inodes : f.inodes.length = 20
  data : f.data.length = 56
  uids : ∀ n ∈ f.inodes, 0 ≤ n.uid ∧ n.uid ≤ 3
  own : ownB f.inodes = true
theorem half_of {f : F} (h : okF f = true) : Half f := by
  obtain ⟨_, hp, _, ho, _⟩ := ok_parts h
  obtain ⟨h1, h2, h3, _⟩ := parts_of hp
  exact ⟨h1, h2, h3, fun n hn => uid_in hp hn, ho⟩
theorem half_facts {f : F} (h : Half f) : (allB f.inodes).Nodup ∧ ∀ b ∈ allB f.inodes, 0 ≤ b ∧ b ≤ 55 := by
  obtain ⟨h1, h2, _⟩ := go_mem h.own
  rw [pairs_snd] at h2
  refine ⟨h2, fun b hb => ?_⟩
  rw [← pairs_snd] at hb
  obtain ⟨x, hx, rfl⟩ := List.mem_map.1 hb
  have ho := h1 x hx
  obtain ⟨n, hn, hxn⟩ := List.mem_flatMap.1 hx
  obtain ⟨b', _, rfl⟩ := List.mem_map.1 hxn
  have hu := h.uids n hn
  have := owner_in ho (by dsimp only; omega)
  omega
theorem own_facts {f : F} (h : okF f = true) : (allB f.inodes).Nodup ∧ ∀ b ∈ allB f.inodes, 0 ≤ b ∧ b ≤ 55 := half_facts (half_of h)
/-! The empty file system. -/
def z32 : ByteArray := ⟨(List.replicate 32 0).toArray⟩
def rootI : I := ⟨2, 493, 0, 0, 1, 0, 0, [], [], []⟩
def made (q : List (Int × Int)) : F := ⟨0, q, rootI :: List.replicate 19 InoV.zero, List.replicate 56 z32⟩
end Go.Proofs.YtafmpllkehbmeaaGreatDoor.FsV
