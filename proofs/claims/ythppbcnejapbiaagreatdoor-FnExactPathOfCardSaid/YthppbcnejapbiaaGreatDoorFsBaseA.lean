/- Helper texts joined, one behind another (a claim has at most 60 files): what each proves, its own head says: YthppbcnejapbiaaGreatDoorFsV, YthppbcnejapbiaaGreatDoorQt, YthppbcnejapbiaaGreatDoorFoot, YthppbcnejapbiaaGreatDoorQF, YthppbcnejapbiaaGreatDoorSF, YthppbcnejapbiaaGreatDoorNi, YthppbcnejapbiaaGreatDoorNiF, YthppbcnejapbiaaGreatDoorAeIn, YthppbcnejapbiaaGreatDoorAeF, YthppbcnejapbiaaGreatDoorBx, YthppbcnejapbiaaGreatDoorIn, YthppbcnejapbiaaGreatDoorIF, YthppbcnejapbiaaGreatDoorFsF. -/
import Derived.Test.YthppbcnejapbiaaGreatDoorInoV
import Derived.Test.YthppbcnejapbiaaGreatDoorDkOpen
import Derived.Deep.RegionHeld3
import Derived.Below
import Derived.Laws.AppendOwn
import Derived.Laws.OwnMore
import Derived.OwnWalk
import Derived.Lib.Hide
import Derived.Deep.Strs
import Derived.Test.YthppbcnejapbiaaGreatDoorStrsTwo
import Derived.Test.YthppbcnejapbiaaGreatDoorAe
import Derived.Test.YthppbcnejapbiaaGreatDoorDkAt

-- YthppbcnejapbiaaGreatDoorFsV
/- Plain facts on the state of a file system: who owns a block, which blocks are in use, when its parts are valid and fit together, how many inodes and blocks of a pool are in use, and which comes next. No condition of its own. -/
namespace Go.Proofs.YthppbcnejapbiaaGreatDoor.FsV
open InoV (I okI usedV hasB)
set_option linter.unusedVariables false

structure F where
  tick : Int
  quotas : List (Int × Int)
  inodes : List I
  data : List ByteArray
def zero : F := ⟨0, [], [], []⟩
def e0 : ByteArray := ⟨#[]⟩
def quB (q : Int × Int) : Bool := (decide (0 ≤ q.1) && decide (q.1 ≤ 5)) && (decide (0 ≤ q.2) && decide (q.2 ≤ 14))
def ownerV (b : Int) : Int := if 0 ≤ b ∧ b ≤ 55 then b / 14 else -1
def zB (s : ByteArray) : Bool := s.data.toList.all (· == 0)
/-- The blocks in use, in order. -/
def allB (ns : List I) : List Int := ns.flatMap fun n => usedV n.blocks
/-- .. each with the owner of its inode. -/
def pairs (ns : List I) : List (Int × Int) := ns.flatMap fun n => (usedV n.blocks).map fun b => (n.uid, b)
def oneB (seen : List Int) (p : Int × Int) : Bool := decide (ownerV p.2 = p.1) && !hasB seen p.2
/-- Each has its owner, and none has been seen before. -/
def goB : List Int → List (Int × Int) → Bool
  | _, [] => true
  | seen, p :: r => oneB seen p && goB (seen ++ [p.2]) r
def ownB (ns : List I) : Bool := goB [] (pairs ns)
theorem has_app (a b : List Int) (x : Int) : hasB (a ++ b) x = (hasB a x || hasB b x) := by simp [hasB]
theorem has_one (y x : Int) : hasB [y] x = decide (y = x) := by simp [hasB]
theorem has_mem {l : List Int} {x : Int} : hasB l x = true ↔ x ∈ l := by simp [hasB]
theorem has_snoc (a : List Int) (y x : Int) : hasB (a ++ [y]) x = (hasB a x || decide (y = x)) := by rw [has_app, has_one]
theorem all_app (a b : List I) : allB (a ++ b) = allB a ++ allB b := by simp [allB]
theorem pairs_app (a b : List I) : pairs (a ++ b) = pairs a ++ pairs b := by simp [pairs]
theorem pairs_snd (ns : List I) : (pairs ns).map Prod.snd = allB ns := by
  induction ns with
  | nil => rfl
  | cons n r ih =>
    rw [show pairs (n :: r) = ((usedV n.blocks).map fun b => (n.uid, b)) ++ pairs r from rfl, List.map_append, ih, show allB (n :: r) = usedV n.blocks ++ allB r from rfl, List.map_map]
    simp [Function.comp_def]
theorem go_app (p q : List (Int × Int)) : ∀ seen, goB seen (p ++ q) = (goB seen p && goB (seen ++ p.map Prod.snd) q) := by
  induction p with
  | nil => intro seen; simp [goB]
  | cons x r ih =>
    intro seen
    rw [List.cons_append, goB, goB, ih, List.map_cons, List.append_assoc, Bool.and_assoc]; rfl
/-- The pairs up to inode i's block number j. -/
def pre (ns : List I) (i j : Nat) : List (Int × Int) := pairs (ns.take i) ++ (((usedV (ns.getD i InoV.zero).blocks).take j).map fun b => ((ns.getD i InoV.zero).uid, b))
def seen (ns : List I) (i j : Nat) : List Int := allB (ns.take i) ++ (usedV (ns.getD i InoV.zero).blocks).take j
theorem pre_snd (ns : List I) (i j : Nat) : (pre ns i j).map Prod.snd = seen ns i j := by
  rw [pre, List.map_append, pairs_snd, List.map_map, seen]; simp [Function.comp_def]
theorem take_snoc {α : Type} (l : List α) (z : α) (i : Nat) (h : i < l.length) : l.take (i + 1) = l.take i ++ [l.getD i z] := by
  rw [List.take_succ_eq_append_getElem h]; simp [List.getD, List.getElem?_eq_getElem h]
theorem seen_zero (ns : List I) (i : Nat) : seen ns i 0 = allB (ns.take i) := by simp [seen]
theorem pre_zero (ns : List I) (i : Nat) : pre ns i 0 = pairs (ns.take i) := by simp [pre]
theorem seen_end (ns : List I) (i : Nat) (h : i < ns.length) : seen ns i (usedV (ns.getD i InoV.zero).blocks).length = seen ns (i + 1) 0 := by
  rw [seen_zero, take_snoc ns InoV.zero i h, all_app, seen, List.take_length]; simp [allB]
theorem pre_end (ns : List I) (i : Nat) (h : i < ns.length) : pre ns i (usedV (ns.getD i InoV.zero).blocks).length = pre ns (i + 1) 0 := by
  rw [pre_zero, take_snoc ns InoV.zero i h, pairs_app, pre, List.take_length]; simp [pairs]
theorem seen_snoc (ns : List I) (i j : Nat) (h : j < (usedV (ns.getD i InoV.zero).blocks).length) : seen ns i (j + 1) = seen ns i j ++ [(usedV (ns.getD i InoV.zero).blocks).getD j 0] := by
  rw [seen, seen, take_snoc _ 0 j h, List.append_assoc]
theorem pre_snoc (ns : List I) (i j : Nat) (h : j < (usedV (ns.getD i InoV.zero).blocks).length) : pre ns i (j + 1) = pre ns i j ++ [((ns.getD i InoV.zero).uid, (usedV (ns.getD i InoV.zero).blocks).getD j 0)] := by
  rw [pre, pre, take_snoc _ 0 j h, List.map_append, List.append_assoc]; rfl
/-- The whole is what stands before block j of inode i, that one, and a rest. -/
theorem pairs_split (ns : List I) (i j : Nat) (hi : i < ns.length) (h : j < (usedV (ns.getD i InoV.zero).blocks).length) : ∃ r, pairs ns = pre ns i j ++ ((ns.getD i InoV.zero).uid, (usedV (ns.getD i InoV.zero).blocks).getD j 0) :: r := by
  have e : ns = ns.take i ++ (ns.getD i InoV.zero :: ns.drop (i + 1)) := by
    rw [List.getD_eq_getElem?_getD, List.getElem?_eq_getElem hi]; simp
  have e2 : usedV (ns.getD i InoV.zero).blocks = (usedV (ns.getD i InoV.zero).blocks).take j ++ ((usedV (ns.getD i InoV.zero).blocks).getD j 0 :: (usedV (ns.getD i InoV.zero).blocks).drop (j + 1)) := by
    rw [List.getD_eq_getElem?_getD (l := usedV _), List.getElem?_eq_getElem h]; simp
  refine ⟨((usedV (ns.getD i InoV.zero).blocks).drop (j + 1)).map (fun b => ((ns.getD i InoV.zero).uid, b)) ++ pairs (ns.drop (i + 1)), ?_⟩
  conv => lhs; rw [e]
  rw [pairs_app, show pairs (ns.getD i InoV.zero :: ns.drop (i + 1)) = ((usedV (ns.getD i InoV.zero).blocks).map fun b => ((ns.getD i InoV.zero).uid, b)) ++ pairs (ns.drop (i + 1)) from by simp [pairs], pre]
  conv => lhs; rw [e2]
  simp
theorem own_no (ns : List I) (i j : Nat) (hi : i < ns.length) (h : j < (usedV (ns.getD i InoV.zero).blocks).length) (hn : oneB (seen ns i j) ((ns.getD i InoV.zero).uid, (usedV (ns.getD i InoV.zero).blocks).getD j 0) = false) : ownB ns = false := by
  obtain ⟨r, hr⟩ := pairs_split ns i j hi h
  rw [ownB, hr, go_app, List.nil_append, pre_snd, goB, hn]; simp
theorem own_step (ns : List I) (i j : Nat) (h : j < (usedV (ns.getD i InoV.zero).blocks).length) (hp : goB [] (pre ns i j) = true) (hn : oneB (seen ns i j) ((ns.getD i InoV.zero).uid, (usedV (ns.getD i InoV.zero).blocks).getD j 0) = true) : goB [] (pre ns i (j + 1)) = true := by
  rw [pre_snoc ns i j h, go_app, hp, List.nil_append, pre_snd, goB, hn]; rfl
theorem own_end (ns : List I) (i : Nat) (hi : i = ns.length) (h : goB [] (pre ns i 0) = true) : ownB ns = true := by
  rw [pre_zero, hi, List.take_length] at h; exact h
theorem has_at {ns : List I} {i j : Nat} (hi : i < ns.length) (h : j < (usedV (ns.getD i InoV.zero).blocks).length) : hasB (allB ns) ((usedV (ns.getD i InoV.zero).blocks).getD j 0) = true := by
  obtain ⟨r, hr⟩ := pairs_split ns i j hi h
  rw [← pairs_snd, hr, has_mem]; simp
/-- Whoever owns its blocks owns blocks that are there. -/
theorem go_mem {p : List (Int × Int)} : ∀ {s : List Int}, goB s p = true → (∀ x ∈ p, ownerV x.2 = x.1) ∧ (p.map Prod.snd).Nodup ∧ ∀ x ∈ p, x.2 ∉ s := by
  induction p with
  | nil => intro s _; simp
  | cons a r ih =>
    intro s h
    rw [goB, Bool.and_eq_true] at h
    obtain ⟨h1, h2⟩ := h
    simp only [oneB, Bool.and_eq_true, decide_eq_true_eq, Bool.not_eq_true'] at h1
    obtain ⟨i1, i2, i3⟩ := ih h2
    have hns : a.2 ∉ s := fun hh => by rw [has_mem.2 hh] at h1; cases h1.2
    refine ⟨fun x hx => ?_, ?_, fun x hx => ?_⟩
    · rcases List.mem_cons.1 hx with rfl | hx
      · exact h1.1
      · exact i1 x hx
    · rw [List.map_cons, List.nodup_cons]
      refine ⟨fun hh => ?_, i2⟩
      obtain ⟨y, hy, e⟩ := List.mem_map.1 hh
      exact i3 y hy (by rw [e]; simp)
    · rcases List.mem_cons.1 hx with rfl | hx
      · exact hns
      · exact fun hh => i3 x hx (by simp [hh])
theorem owner_in {b u : Int} (h : ownerV b = u) (hu : u ≠ -1) : 0 ≤ b ∧ b ≤ 55 ∧ b / 14 = u := by
  unfold ownerV at h
  split at h
  · omega
  · omega
/-- The parts, each for itself. -/
def partsB (f : F) : Bool := decide (f.quotas.length = 4) && decide (f.inodes.length = 20) && decide (f.data.length = 56) && f.quotas.all quB && f.inodes.all okI && f.data.all (fun s => decide (s.size = 32))
/-- What the last block of n has beyond its size. -/
def beyond (f : F) (n : I) : ByteArray :=
  if n.blocks.length = 0 then e0
  else if n.blocks.getD (n.blocks.length - 1) 0 = -1 then e0
  else (f.data.getD (n.blocks.getD (n.blocks.length - 1) 0).toNat e0).extract (n.size - ((n.blocks.length : Int) - 1) * 32).toNat 32
def freeB (f : F) (b : Nat) : Bool := hasB (allB f.inodes) b || zB (f.data.getD b e0)
def elseB (f : F) : Bool := (List.range 56).all (freeB f) && f.inodes.all (fun n => zB (beyond f n))
def tickB (f : F) : Bool := decide (0 ≤ f.tick) && decide (f.tick ≤ 1000000000)
def rootB (f : F) : Bool := decide ((f.inodes.getD 0 InoV.zero).kind = 2)
def okF (f : F) : Bool := tickB f && partsB f && rootB f && (ownB f.inodes && elseB f)
theorem parts_of {f : F} (h : partsB f = true) : f.quotas.length = 4 ∧ f.inodes.length = 20 ∧ f.data.length = 56 ∧ (∀ q ∈ f.quotas, quB q = true) ∧ (∀ n ∈ f.inodes, okI n = true) ∧ (∀ s ∈ f.data, s.size = 32) := by
  simp only [partsB, Bool.and_eq_true, decide_eq_true_eq, List.all_eq_true, and_assoc] at h
  exact h
theorem parts_mk {f : F} (h1 : f.quotas.length = 4) (h2 : f.inodes.length = 20) (h3 : f.data.length = 56) (h4 : f.quotas.all quB = true) (h5 : f.inodes.all okI = true) (h6 : f.data.all (fun s => decide (s.size = 32)) = true) : partsB f = true := by
  simp only [partsB, Bool.and_eq_true, decide_eq_true_eq]
  exact ⟨⟨⟨⟨⟨h1, h2⟩, h3⟩, h4⟩, h5⟩, h6⟩
theorem ok_parts {f : F} (h : okF f = true) : tickB f = true ∧ partsB f = true ∧ rootB f = true ∧ ownB f.inodes = true ∧ elseB f = true := by
  simp only [okF, Bool.and_eq_true, and_assoc] at h
  exact h
theorem mem_getD {α : Type} {l : List α} {z : α} {i : Nat} (h : i < l.length) : l.getD i z ∈ l := by
  rw [List.getD_eq_getElem?_getD, List.getElem?_eq_getElem h]
  exact List.getElem_mem h
theorem uid_in {f : F} (h : partsB f = true) {n : I} (hn : n ∈ f.inodes) : 0 ≤ n.uid ∧ n.uid ≤ 3 := by
  have := InoV.ok_nums ((parts_of h).2.2.2.2.1 n hn)
  omega
/-- A list's check, told up to i. -/
def allTo {α : Type} (p : α → Bool) (l : List α) (i : Nat) : Bool := (l.take i).all p
theorem allTo_zero {α : Type} (p : α → Bool) (l : List α) : allTo p l 0 = true := by simp [allTo]
theorem allTo_succ {α : Type} (p : α → Bool) (l : List α) (z : α) (i : Nat) (h : i < l.length) : allTo p l (i + 1) = (allTo p l i && p (l.getD i z)) := by
  rw [allTo, allTo, take_snoc l z i h, List.all_append]; simp
theorem allTo_end {α : Type} (p : α → Bool) (l : List α) (i : Nat) (h : i = l.length) : allTo p l i = l.all p := by rw [allTo, h, List.take_length]
theorem all_no {α : Type} {p : α → Bool} {l : List α} {z : α} {i : Nat} (h : i < l.length) (hn : p (l.getD i z) = false) : l.all p = false := by
  rw [Bool.eq_false_iff, ne_eq, List.all_eq_true]
  intro hh
  rw [hh _ (mem_getD h)] at hn; cases hn
def rangeTo (p : Nat → Bool) (i : Nat) : Bool := (List.range i).all p
theorem rangeTo_succ (p : Nat → Bool) (i : Nat) : rangeTo p (i + 1) = (rangeTo p i && p i) := by rw [rangeTo, List.range_succ, List.all_append]; simp [rangeTo]
theorem range_no {p : Nat → Bool} {m i : Nat} (h : i < m) (hn : p i = false) : (List.range m).all p = false := by
  rw [Bool.eq_false_iff, ne_eq, List.all_eq_true]
  intro hh
  rw [hh i (List.mem_range.2 h)] at hn; cases hn

/-! Counting and choosing. -/
def useI (f : F) (i : Nat) : Bool := !decide ((f.inodes.getD i InoV.zero).kind = 0)
def useB (f : F) (b : Nat) : Bool := hasB (allB f.inodes) b
/-- How many of m numbers from a on are in use. -/
def cnt (p : Nat → Bool) (a m : Nat) : Nat := ((List.range m).filter fun k => p (a + k)).length
/-- The first of m numbers from a on that is not in use. -/
def first (p : Nat → Bool) (a m : Nat) : Option Nat := (List.range m).find? fun k => !p (a + k)
def usersB (u : Int) : Bool := decide (0 ≤ u) && decide (u ≤ 3)
def pick (p : Nat → Bool) (a m : Nat) (q : Int) : Int × Int :=
  if q ≤ (cnt p a m : Nat) then (0, 7) else match first p a m with
    | some k => (((a + k : Nat) : Int), 0)
    | none => (0, 8)
/-- What an allocation asks of a file system. -/
structure Half (f : F) : Prop where
  quotas : f.quotas.length = 4
  inodes : f.inodes.length = 20
  data : f.data.length = 56
  uids : ∀ n ∈ f.inodes, 0 ≤ n.uid ∧ n.uid ≤ 3
  own : ownB f.inodes = true
theorem half_of {f : F} (h : okF f = true) : Half f := by
  obtain ⟨_, hp, _, ho, _⟩ := ok_parts h
  obtain ⟨h1, h2, h3, _⟩ := parts_of hp
  exact ⟨h1, h2, h3, fun n hn => uid_in hp hn, ho⟩
theorem half_facts {f : F} (h : Half f) : (allB f.inodes).Nodup ∧ ∀ b ∈ allB f.inodes, 0 ≤ b ∧ b ≤ 55 := by
  obtain ⟨h1, h2, _⟩ := go_mem h.own
  rw [pairs_snd] at h2
  refine ⟨h2, fun b hb => ?_⟩
  rw [← pairs_snd] at hb
  obtain ⟨x, hx, rfl⟩ := List.mem_map.1 hb
  have ho := h1 x hx
  obtain ⟨n, hn, hxn⟩ := List.mem_flatMap.1 hx
  obtain ⟨b', _, rfl⟩ := List.mem_map.1 hxn
  have hu := h.uids n hn
  have := owner_in ho (by dsimp only; omega)
  omega
theorem own_facts {f : F} (h : okF f = true) : (allB f.inodes).Nodup ∧ ∀ b ∈ allB f.inodes, 0 ≤ b ∧ b ≤ 55 := half_facts (half_of h)
/-! The empty file system. -/
def z32 : ByteArray := ⟨(List.replicate 32 0).toArray⟩
def rootI : I := ⟨2, 493, 0, 0, 1, 0, 0, [], [], []⟩
def made (q : List (Int × Int)) : F := ⟨0, q, rootI :: List.replicate 19 InoV.zero, List.replicate 56 z32⟩
end Go.Proofs.YthppbcnejapbiaaGreatDoor.FsV

-- YthppbcnejapbiaaGreatDoorQt
/- Contracts of the law's own helpers over slices of Quota: comparing two that read alike, marking one that the call owns, asking for the marks, their size, a copy of one. Conditions: as each theorem types them. -/
namespace Go.Proofs.YthppbcnejapbiaaGreatDoor.Qt
open Go.ChangeShapes Go.WideShapes Go.ChangeAt Go.RowKit
open Strs (grow_below grow_trans own_below below_of_drew ret_int)
open Dk (RowIn Turned)
set_option linter.unusedVariables false

abbrev At := Int × Int
def a0 : At := (0, 0)
def cell1 (x : At) : List Value := [.int .i64 x.1, .int .i64 x.2]
def cells (ws : List At) : List Value := ws.flatMap cell1
theorem cells_length (ws : List At) : (cells ws).length = ws.length * 2 := by
  induction ws with
  | nil => rfl
  | cons a l ih => rw [cells, List.flatMap_cons, List.length_append, ← cells, ih]; simp [cell1]; omega
theorem cells_append (a b : List At) : cells (a ++ b) = cells a ++ cells b := by simp [cells]
theorem cells_at (ws : List At) (j : Nat) (h : j < ws.length) : (cells ws)[j * 2]? = some (.int .i64 (ws.getD j a0).1) ∧ (cells ws)[j * 2 + 1]? = some (.int .i64 (ws.getD j a0).2) := by
  have e : ws = ws.take j ++ (ws.getD j a0 :: ws.drop (j + 1)) := by
    rw [List.getD_eq_getElem?_getD, List.getElem?_eq_getElem h]
    simp
  have e2 : cells ws = cells (ws.take j) ++ ([.int .i64 (ws.getD j a0).1, .int .i64 (ws.getD j a0).2] ++ cells (ws.drop (j + 1))) := by
    conv => lhs; rw [e]
    rw [cells_append]; rfl
  have hl : (cells (ws.take j)).length = j * 2 := by rw [cells_length, List.length_take, Nat.min_eq_left (Nat.le_of_lt h)]
  rw [e2]
  refine ⟨?_, ?_⟩
  · rw [List.getElem?_append_right (by omega), hl]; simp
  · rw [List.getElem?_append_right (by omega), hl]; simp
/-- The cells of one at an address. -/
def Cell (w : World) (b o : Nat) (x : At) : Prop := w.cell? ⟨b, o, none⟩ = some (.int .i64 x.1) ∧ w.cell? ⟨b, o + 1, none⟩ = some (.int .i64 x.2)
/-- A slice value that is nil, or whose cells hold ws. -/
def Holds (w : World) (v : Value) (ws : List At) : Prop :=
  ∃ (a : Option Addr) (cap : Nat), v = .slice a ws.length cap ∧ (ws ≠ [] → ∃ b o, a = some ⟨b, o, none⟩ ∧ b < w.heap.size ∧ ∀ j, j < ws.length → Cell w b (o + j * 2) (ws.getD j a0))
theorem holds_of_own {w : World} {base : Nat} {e : TypeId} {v : Value} {n : Nat} {ws : List At} (h : w.ownsRow base e 2 v n (cells ws)) : Holds w v ws := by
  have hl := h.1
  rw [cells_length] at hl
  have hn : n = ws.length := by omega
  rcases h.2 with ⟨rfl, h0⟩ | ⟨g, cap, cur, rfl, hb, hg, hn', _, _, htake⟩
  · have : ws = [] := List.eq_nil_of_length_eq_zero (by omega)
    subst this
    exact ⟨none, 0, rfl, fun hh => absurd rfl hh⟩
  · refine ⟨some ⟨g, 0, none⟩, cap, by rw [hn], fun _ => ⟨g, 0, rfl, (Array.getElem?_eq_some_iff.1 hg).1, fun j hj => ?_⟩⟩
    have hw := cells_at ws j hj
    unfold Cell
    rw [Nat.zero_add, h.cellAt (j * 2) (by omega), h.cellAt (j * 2 + 1) (by omega)]
    exact hw
theorem Cell.below {w w' : World} {b o : Nat} {x : At} (h : Cell w b o x) (hlt : b < w.heap.size) (hb : Below w.heap.size w w') : Cell w' b o x := by
  unfold Cell
  rw [hb.cell (p := ⟨b, o, none⟩) hlt, hb.cell (p := ⟨b, o + 1, none⟩) hlt]
  exact h
theorem holds_below {w w' : World} {v : Value} {ws : List At} (h : Holds w v ws) (hb : Below w.heap.size w w') : Holds w' v ws := by
  obtain ⟨a, cap, rfl, hc⟩ := h
  refine ⟨a, cap, rfl, fun hh => ?_⟩
  obtain ⟨b, o, rfl, hlt, hcell⟩ := hc hh
  exact ⟨b, o, rfl, Nat.lt_of_lt_of_le hlt hb.size, fun j hj => (hcell j hj).below hlt hb⟩
/-- At an index within its length a slice has an address and reads there. -/
def AtL (w : World) (a : Option Addr) (ws : List At) : Prop :=
  ∀ i, i < ws.length → ∃ b o, a = some ⟨b, o, none⟩ ∧ b < w.heap.size ∧ Cell w b (o + i * 2) (ws.getD i a0)
theorem atL {w : World} {v : Value} {ws : List At} (h : Holds w v ws) : ∃ a cap, v = .slice a ws.length cap ∧ AtL w a ws := by
  obtain ⟨a, cap, rfl, hc⟩ := h
  refine ⟨a, cap, rfl, fun i hi => ?_⟩
  obtain ⟨b, o, rfl, hb, hcell⟩ := hc (by intro e; rw [e] at hi; simp at hi)
  exact ⟨b, o, rfl, hb, hcell i hi⟩
theorem AtL.below {w w' : World} {a : Option Addr} {ws : List At} (h : AtL w a ws) (hb : Below w.heap.size w w') : AtL w' a ws := by
  intro i hi
  obtain ⟨b, o, rfl, hlt, hc⟩ := h i hi
  exact ⟨b, o, rfl, Nat.lt_of_lt_of_le hlt hb.size, hc.below hlt hb⟩

set_option maxRecDepth 100000 in
theorem eqOne_any (x : At) (w : World) :
    Calls Tryz.prog 99 #[.agg #[.int .i64 x.1, .int .i64 x.2], .agg #[.int .i64 x.1, .int .i64 x.2]] w fun e w' => e = .returned (.bool true) ∧ Below w.heap.size w w' := by
  obtain ⟨n0, n1⟩ := x
  dsimp only
  go_enter Tryz.func99, Tryz.ntmps99
  go_wp2
  go_ret
  exact ⟨rfl, ((Below.refl w.heap.size w).alloc (Nat.le_refl _) _).alloc (by simp) _⟩

set_option maxRecDepth 100000 in
set_option maxHeartbeats 400000 in
/-- Two slices that read alike are found equal; only draws are made. -/
theorem eq_any (w : World) (va vb : Value) (xs : List At) (hn : xs.length ≤ 1073741824) (ha : Holds w va xs) (hb : Holds w vb xs) :
    Calls Tryz.prog 51 #[va, vb] w fun e w' => e = .returned (.bool true) ∧ Below w.heap.size w w' := by
  obtain ⟨a, ca, rfl, hca⟩ := ha
  obtain ⟨b, cb, rfl, hcb⟩ := hb
  by_cases h0 : xs = []
  · subst h0
    simp only [List.length_nil]
    clear hca hcb
    go_enter Tryz.func51, Tryz.ntmps51
    go_wp2
    refine wp_loop_rounds 1 ?_
    rw [rounds_succ]
    go_wp2
    go_ret
    exact ⟨rfl, Below.refl _ _⟩
  · obtain ⟨b1, o1, rfl, hl1, hc1⟩ := hca h0
    obtain ⟨b2, o2, rfl, hl2, hc2⟩ := hcb h0
    have HC1 := Lib.hid hc1
    have HC2 := Lib.hid hc2
    clear hca hcb hc1 hc2 h0
    obtain ⟨L, hL⟩ : ∃ L, L = xs.length := ⟨_, rfl⟩
    rw [← hL] at hn ⊢
    have HL := Lib.hid hL
    clear hL
    go_enter Tryz.func51, Tryz.ntmps51
    go_wp2
    go_loopw [5] (fun i wr => ∃ k : Nat, k ≤ L ∧ i = .int .i64 k ∧ Below w.heap.size w wr) (fun i _ => L - (intOf i).toNat)
    case atStart => exact ⟨0, Nat.zero_le _, rfl, Below.refl _ _⟩
    case round =>
      obtain ⟨k, hk, rfl, hbel⟩ := hrel
      have HBEL := Lib.hid hbel
      have hsz := hbel.size
      clear hbel
      by_cases hlt : k < L
      · obtain ⟨g0, g1⟩ := HC1.out k (by rw [← HL.out]; exact hlt)
        obtain ⟨k0, k1⟩ := HC2.out k (by rw [← HL.out]; exact hlt)
        generalize xs.getD k a0 = x at g0 k0 g1 k1
        rw [← HBEL.out.cell (p := ⟨b1, _, none⟩) hl1] at g0 g1
        rw [← HBEL.out.cell (p := ⟨b2, _, none⟩) hl2] at k0 k1
        go_wp2
        go_region_held3 (fun w' => w'.cell? ⟨b1, o1 + k * 2, none⟩ = some (.int .i64 x.1) ∧ w'.cell? ⟨b1, o1 + k * 2 + 1, none⟩ = some (.int .i64 x.2) ∧ w'.cell? ⟨b2, o2 + k * 2, none⟩ = some (.int .i64 x.1) ∧ w'.cell? ⟨b2, o2 + k * 2 + 1, none⟩ = some (.int .i64 x.2)) (go_keep)
          (first | (go_at_call 99; refine (eqOne_any x _).mono ?_; rintro e w1 ⟨rfl, hb1⟩; have qb10 := (hb1.cell (p := ⟨b1, o1 + k * 2, none⟩) (by simp; omega)); have qb11 := (hb1.cell (p := ⟨b1, o1 + k * 2 + 1, none⟩) (by simp; omega)); have qb20 := (hb1.cell (p := ⟨b2, o2 + k * 2, none⟩) (by simp; omega)); have qb21 := (hb1.cell (p := ⟨b2, o2 + k * 2 + 1, none⟩) (by simp; omega))))
        go_wp2
        go_roundw
        case rel => exact ⟨k + 1, by omega, by go_num, HBEL.out.trans (below_of_drew hb1 hsz)⟩
        case measure => simp [intOf]; omega
      · go_wp2
        go_ret
        exact ⟨rfl, HBEL.out⟩

/-- n marks from number k on. -/
def marks (k n : Nat) : List At := (List.range n).map fun i => (((k + 2 * i : Nat) : Int), ((k + 2 * i + 1 : Nat) : Int))
theorem marks_length (k n : Nat) : (marks k n).length = n := by simp [marks]
theorem marks_getD (k n j : Nat) (h : j < n) : (marks k n).getD j a0 = (((k + 2 * j : Nat) : Int), ((k + 2 * j + 1 : Nat) : Int)) := by
  simp [marks, List.getD, h]
theorem marks_succ (k n : Nat) : marks k (n + 1) = marks k n ++ [(((k + 2 * n : Nat) : Int), ((k + 2 * n + 1 : Nat) : Int))] := by simp [marks, List.range_succ]
theorem set_mark (k i : Nat) (xs : List At) (h : i < xs.length) :
    ((cells (marks k i ++ xs.drop i)).set (i * 2) (.int .i64 ((k : Int) + 2 * i))).set (i * 2 + 1) (.int .i64 ((k : Int) + 2 * i + 1)) = cells (marks k (i + 1) ++ xs.drop (i + 1)) := by
  have hl : (cells (marks k i)).length = i * 2 := by rw [cells_length, marks_length]
  rw [cells_append, List.set_append_right _ _ (by omega), hl, Nat.sub_self, List.set_append_right _ _ (by omega), hl, show i * 2 + 1 - i * 2 = 1 from by omega, marks_succ,
    show cells (xs.drop i) = Value.int .i64 xs[i].1 :: Value.int .i64 xs[i].2 :: cells (xs.drop (i + 1)) from by rw [List.drop_eq_getElem_cons h]; rfl,
    cells_append, cells_append]
  simp [cells, cell1]

set_option maxRecDepth 100000 in
set_option maxHeartbeats 800000 in
/-- A row that the call owns is marked; every other block stays. -/
theorem mark_all (w : World) (base : Nat) (v : Value) (n k : Nat) (xs : List At) (hk : 1 ≤ k) (hn : k + 2 * n ≤ 1073741824) (hown : w.ownsRow base 113 2 v n (cells xs)) :
    Calls Tryz.prog 57 #[v, .int .i64 k] w fun e w' => e = .returned (.int .i64 ((k : Int) + 2 * n)) ∧ w'.ownsRow base 113 2 v n (cells (marks k n)) ∧ w.grownBy w' v.ownBlock := by
  have hl := hown.1
  rw [cells_length] at hl
  by_cases h0 : n = 0
  · subst h0
    obtain rfl : xs = [] := List.eq_nil_of_length_eq_zero (by omega)
    obtain ⟨a, cap, rfl⟩ : ∃ a cap, v = .slice a 0 cap := by
      rcases hown.2 with ⟨rfl, _⟩ | ⟨g, cap, cur, rfl, _⟩
      · exact ⟨_, _, rfl⟩
      · exact ⟨_, _, rfl⟩
    have HO := Lib.hid hown
    clear hown hl
    go_enter Tryz.func57, Tryz.ntmps57
    go_wp2
    refine wp_loop_rounds 1 ?_
    rw [rounds_succ]
    go_wp2
    go_ret
    exact ⟨by simp, HO.out, World.grownBy.refl _ _⟩
  · obtain ⟨g, cap, rfl, hbg⟩ : ∃ g cap, v = .slice (some ⟨g, 0, none⟩) n cap ∧ g < w.heap.size := by
      rcases hown.2 with ⟨_, hz⟩ | ⟨g, cap, cur, rfl, _, hg, _⟩
      · exact absurd hz h0
      · exact ⟨g, cap, rfl, (Array.getElem?_eq_some_iff.1 hg).1⟩
    have HO := Lib.hid hown
    have HX := Lib.hid (show xs.length = n by omega)
    clear hown hl h0
    go_enter Tryz.func57, Tryz.ntmps57
    go_wp2
    go_loopw [1, 5] (fun kv iv wr => ∃ i : Nat, i ≤ n ∧ iv = .int .i64 i ∧ kv = .int .i64 ((k : Int) + 2 * i) ∧ wr.ownsRow base 113 2 (.slice (some ⟨g, 0, none⟩) n cap) n (cells (marks k i ++ xs.drop i)) ∧ w.grownBy wr (some g)) (fun _ iv _ => n - (intOf iv).toNat)
    case atStart => exact ⟨0, Nat.zero_le _, rfl, by simp, by simpa [marks] using HO.out, World.grownBy.refl _ _⟩
    case round =>
      obtain ⟨i, hi, rfl, rfl, hown, hgr⟩ := hrel
      have HOWN := Lib.hid hown
      have HGR := Lib.hid hgr
      by_cases hlt : i < n
      · have hx : i < xs.length := by rw [HX.out]; exact hlt
        have hlen : (cells (marks k i ++ xs.drop i)).length = n * 2 := by rw [cells_length, List.length_append, marks_length, List.length_drop, HX.out]; omega
        have HOWN0 := HOWN
        have hc0 := hown.cellAt (i * 2) (by omega)
        have hf0 := hown.frozenAt (i * 2)
        obtain ⟨y0, hy0⟩ : ∃ y, (cells (marks k i ++ xs.drop i))[i * 2]? = some y := ⟨_, List.getElem?_eq_getElem (by first | omega | (simp only [List.length_set]; omega))⟩
        rw [hy0] at hc0
        have hst0 := hown.stored (i * 2) (.int .i64 ((k : Int) + 2 * i))
        have hc1 := hst0.1.cellAt (i * 2 + 1) (by omega)
        have hf1 := hst0.1.frozenAt (i * 2 + 1)
        obtain ⟨y1, hy1⟩ : ∃ y, ((cells (marks k i ++ xs.drop i)).set (i * 2) (.int .i64 ((k : Int) + 2 * i)))[i * 2 + 1]? = some y := ⟨_, List.getElem?_eq_getElem (by first | omega | (simp only [List.length_set]; omega))⟩
        rw [hy1] at hc1
        have hst1 := hst0.1.stored (i * 2 + 1) (.int .i64 ((k : Int) + 2 * i + 1))
        have hgr2 := grow_trans (grow_trans (hgr) hst0.2) hst1.2
        have hlast := hst1.1
        rw [set_mark k i xs hx] at hlast
        have HST := Lib.hid hlast
        have HGR2 := Lib.hid hgr2
        clear hown hgr hlast hgr2 hlen hst0 hy0 hst1 hy1
        go_wp2
        go_roundw
        case rel => exact ⟨i + 1, by omega, by go_num, by go_num, HST.out, HGR2.out⟩
        case measure => simp [intOf]; omega
      · obtain rfl : i = n := by omega
        have e : cells (marks k i ++ xs.drop i) = cells (marks k i) := by rw [List.drop_of_length_le (by rw [HX.out]; exact Nat.le_refl _), List.append_nil]
        have HE := Lib.hid e
        clear e hown hgr
        go_wp2
        go_ret
        exact ⟨by simp, by rw [← HE.out]; exact HOWN.out, HGR.out⟩

set_option maxRecDepth 100000 in
set_option maxHeartbeats 800000 in
/-- The marks are found. -/
theorem held_all (w : World) (v : Value) (n k : Nat) (hk : 1 ≤ k) (hn : k + 2 * n ≤ 1073741824) (h : Holds w v (marks k n)) :
    Calls Tryz.prog 67 #[v, .int .i64 k] w fun e w' => e = .returned (.int .i64 ((k : Int) + 2 * n)) ∧ Below w.heap.size w w' := by
  obtain ⟨a, cap, rfl, hc⟩ := h
  rw [marks_length]
  by_cases h0 : n = 0
  · subst h0
    clear hc
    go_enter Tryz.func67, Tryz.ntmps67
    go_wp2
    refine wp_loop_rounds 1 ?_
    rw [rounds_succ]
    go_wp2
    go_ret
    exact ⟨by simp, Below.refl _ _⟩
  · obtain ⟨b, o, rfl, hlt, hcell⟩ := hc (by intro e; have := marks_length k n; rw [e] at this; simp at this; omega)
    rw [marks_length] at hcell
    have HC := Lib.hid hcell
    clear hc hcell
    go_enter Tryz.func67, Tryz.ntmps67
    go_wp2
    go_loopw [1, 5] (fun kv iv wr => ∃ i : Nat, i ≤ n ∧ iv = .int .i64 i ∧ kv = .int .i64 ((k : Int) + 2 * i) ∧ Below w.heap.size w wr) (fun _ iv _ => n - (intOf iv).toNat)
    case atStart => exact ⟨0, Nat.zero_le _, rfl, by simp, Below.refl _ _⟩
    case round =>
      obtain ⟨i, hi, rfl, rfl, hbel⟩ := hrel
      have HBEL := Lib.hid hbel
      by_cases hil : i < n
      · obtain ⟨g0, g1⟩ := HC.out i hil
        rw [marks_getD k n i hil] at g0 g1
        dsimp only at g0 g1
        rw [← HBEL.out.cell (p := ⟨b, _, none⟩) hlt] at g0 g1
        rw [show ((k + 2 * i : Nat) : Int) = (k : Int) + 2 * i from by omega] at g0
        rw [show ((k + 2 * i + 1 : Nat) : Int) = (k : Int) + 2 * i + 1 from by omega] at g1
        clear hbel
        go_wp2
        go_roundw
        case rel => exact ⟨i + 1, by omega, by go_num, by go_num, HBEL.out⟩
        case measure => simp [intOf]; omega
      · obtain rfl : i = n := by omega
        clear hbel
        go_wp2
        go_ret
        exact ⟨by simp, HBEL.out⟩

/-- The size of a list: its length alone. -/
theorem sz_any (w : World) (v : Value) (xs : List At) (left : Nat) (hleft : left ≤ 1073741824) (hlen : xs.length ≤ maxLen) (h : Holds w v xs) :
    Calls Tryz.prog 41 #[v, .int .i64 left] w fun e w' => e = .returned (.int .i64 (if xs.length ≤ left then ((left - xs.length : Nat) : Int) else -1)) ∧ Below w.heap.size w w' := by
  unfold maxLen at hlen
  obtain ⟨a, cap, rfl, hc⟩ := h
  clear hc
  generalize xs.length = L at hlen ⊢
  by_cases hlt : L ≤ left
  · rw [if_pos hlt]
    go_enter Tryz.func41, Tryz.ntmps41
    go_wp2
    go_ret
    exact ⟨ret_int (by omega), Below.refl _ _⟩
  · rw [if_neg hlt]
    go_enter Tryz.func41, Tryz.ntmps41
    go_wp2
    go_ret
    exact ⟨rfl, Below.refl _ _⟩

set_option maxRecDepth 100000 in
set_option maxHeartbeats 400000 in
theorem toOne_any (x : At) (w : World) :
    Calls Tryz.prog 93 #[.agg #[.int .i64 x.1, .int .i64 x.2]] w fun e w' => e = .returned (.agg #[.int .i64 x.1, .int .i64 x.2]) ∧ Below w.heap.size w w' := by
  obtain ⟨n0, n1⟩ := x
  dsimp only
  go_enter Tryz.func93, Tryz.ntmps93
  go_wp2
  refine bodyPost_ret (v := .agg #[.int .i64 n0, .int .i64 n1]) (by simp [results, Tryz.results93, go_sem]) rfl ⟨rfl, ?_⟩
  exact (((Below.refl w.heap.size w).alloc (Nat.le_refl _) _).alloc (by simp) _).alloc (by simp; omega) _

theorem info : (Tryz.prog.info? 113).map (fun i => (i.zero, i.size, i.bytes)) = some (some (.agg #[.int .i64 0, .int .i64 0]), 2, 16) := by kernel_rfl
theorem take_set (l : List Value) (i : Nat) (u0 u1 : Value) (h : i * 2 + 1 < l.length) : ((l.set (i * 2) (u0)).set (i * 2 + 1) (u1)).take ((i + 1) * 2) = l.take (i * 2) ++ [u0, u1] := by
  rw [show (i + 1) * 2 = i * 2 + 1 + 1 from by omega]
  rw [List.take_succ_eq_append_getElem (by simp only [List.length_set]; omega), List.take_set_of_le (Nat.le_refl _)]
  rw [List.take_succ_eq_append_getElem (by simp only [List.length_set]; omega), List.take_set_of_le (Nat.le_refl _)]
  simp

set_option maxRecDepth 100000 in
set_option maxHeartbeats 800000 in
/-- A copy, in a row of the call's own. -/
theorem to_any (w : World) (v : Value) (xs : List At) (hlen : xs.length ≤ 1073741824) (h : Holds w v xs) :
    Calls Tryz.prog 46 #[v] w fun e w' => ∃ v', e = .returned v' ∧ w'.ownsRow w.heap.size 113 2 v' xs.length (cells xs) ∧ Below w.heap.size w w' := by
  obtain ⟨i0, hi, hz0, hz1, hz2⟩ := info_parts info
  obtain ⟨a, cap, rfl, hc⟩ := h
  obtain ⟨L, hL⟩ : ∃ L, L = xs.length := ⟨_, rfl⟩
  have hcase : L = 0 ∨ ∃ b o, a = some ⟨b, o, none⟩ ∧ b < w.heap.size ∧ ∀ j, j < xs.length → Cell w b (o + j * 2) (xs.getD j a0) := by
    by_cases h0 : xs = []
    · left; rw [hL, h0]; rfl
    · right; exact hc h0
  rw [← hL] at hlen ⊢
  have HL := Lib.hid hL
  clear hL hc
  have hro : i0.bytes * L ≤ 281474976710656 := by rw [hz2]; omega
  have HRO := Lib.hid hro
  have HB := Lib.hid hz2
  clear hro hz2
  rcases hcase with rfl | ⟨b, o, rfl, hb, hcell⟩
  · go_enter Tryz.func46, Tryz.ntmps46
    go_wp2_with (at_make; refine wpList_make_full _ rfl _ _ 30 rfl w.heap.size 113 i0 (.agg #[.int .i64 0, .int .i64 0]) 2 Tryz.underlying30 hi hz0 hz1 .i64 .i64 _ _ 0 rfl rfl rfl rfl ?c1 ?c2 ?c3 ?_)
    case c1 => exact HRO.out
    case c2 => unfold maxLen; omega
    case c3 => exact Nat.le_refl _
    intro w1 hown1 hg1
    have HO1 := Lib.hid hown1
    have HB1 := Lib.hid (show Below w.heap.size w w1 from (Below.refl _ _).grown hg1 (Nat.le_refl _) (fun k hk => by cases hk))
    clear hown1 hg1
    go_wp2
    refine wp_loop_rounds 1 ?_
    rw [rounds_succ]
    go_wp2
    go_ret
    have hx : xs = [] := List.eq_nil_of_length_eq_zero HL.out.symm
    refine ⟨_, rfl, ?_, HB1.out⟩
    subst hx
    have := HO1.out
    simpa [madeCells, cells] using this
  · have HC := Lib.hid hcell
    clear hcell
    go_enter Tryz.func46, Tryz.ntmps46
    go_wp2_with (at_make; refine wpList_make_full _ rfl _ _ 30 rfl w.heap.size 113 i0 (.agg #[.int .i64 0, .int .i64 0]) 2 Tryz.underlying30 hi hz0 hz1 .i64 .i64 _ _ L rfl rfl rfl rfl ?c1 ?c2 ?c3 ?_)
    case c1 => exact HRO.out
    case c2 => unfold maxLen; omega
    case c3 => exact Nat.le_refl _
    intro w1 hown1 hg1
    have HO1 := Lib.hid hown1
    have HB1 := Lib.hid (show Below w.heap.size w w1 from (Below.refl _ _).grown hg1 (Nat.le_refl _) (fun k hk => by cases hk))
    clear hown1 hg1
    go_wp2
    go_loopw [4] (fun iv wr => ∃ (i : Nat) (l : List Value), i ≤ L ∧ iv = .int .i64 i ∧ wr.ownsRow w.heap.size 113 2 (.slice (some ⟨w.heap.size, 0, none⟩) L L) L l ∧ l.take (i * 2) = cells (xs.take i) ∧ Below w.heap.size w wr) (fun iv _ => L - (intOf iv).toNat)
    case atStart => exact ⟨0, _, Nat.zero_le _, rfl, HO1.out, by simp [cells], HB1.out⟩
    case round =>
      obtain ⟨i, l, hi, rfl, hown, htake, hbel⟩ := hrel
      have HO := Lib.hid hown
      have HT := Lib.hid htake
      have HBEL := Lib.hid hbel
      clear hown htake hbel HO1 HB1
      by_cases hlt : i < L
      · have hlx : i < xs.length := by rw [← HL.out]; exact hlt
        have hll : i * 2 + 1 < l.length := by have := HO.out.1; omega
        obtain ⟨g0, g1⟩ := HC.out i hlx
        rw [← HBEL.out.cell (p := ⟨b, _, none⟩) hb] at g0 g1
        have hx : cells (xs.take (i + 1)) = cells (xs.take i) ++ cell1 (xs.getD i a0) := by
          rw [List.take_succ_eq_append_getElem hlx, cells_append]
          simp [List.getD, List.getElem?_eq_getElem hlx, cells]
        have HXX := Lib.hid hx
        clear hx
        generalize xs.getD i a0 = x at g0 g1 HXX
        go_wp2_with fail
        refine (toOne_any x _).mono ?_
        rintro e w2 ⟨rfl, hb2⟩
        have HB2 := Lib.hid (HBEL.out.trans (hb2.mono HBEL.out.size))
        have hown := own_below HO.out hb2
        have hc0 := hown.cellAt (i * 2) (by omega)
        rw [List.getElem?_eq_getElem (show i * 2 < l.length by omega)] at hc0
        have hf0 := hown.frozenAt (i * 2)
        have hc1 := hown.cellAt (i * 2 + 1) (by omega)
        rw [List.getElem?_eq_getElem (show i * 2 + 1 < l.length by omega)] at hc1
        have hf1 := hown.frozenAt (i * 2 + 1)
        have hst := ((hown.stored (i * 2) (.int .i64 x.1)).1.stored (i * 2 + 1) (.int .i64 x.2))
        have hts := take_set l i (.int .i64 x.1) (.int .i64 x.2) hll
        rw [HT.out, show [Value.int .i64 x.1, .int .i64 x.2] = cell1 x from rfl, ← HXX.out] at hts
        have HST := Lib.hid hst.1
        have HTS := Lib.hid hts
        clear hst hts hown g0 g1 hb2
        generalize l[i * 2] = y0 at hc0
        generalize l[i * 2 + 1] = y1 at hc1
        go_wp2
        go_roundw
        case rel => exact ⟨i + 1, ((l.set (i * 2) (.int .i64 x.1)).set (i * 2 + 1) (.int .i64 x.2)), by omega, by go_num, HST.out, HTS.out, (HB2.out.setCell (Nat.le_refl _) _).setCell (Nat.le_refl _) _⟩
        case measure => simp [intOf]; omega
      · obtain rfl : i = L := by omega
        go_wp2
        go_ret
        refine ⟨_, rfl, ?_, HBEL.out⟩
        have h1 := HT.out
        have h2 := HO.out.1
        rw [List.take_of_length_le (by omega), List.take_of_length_le (by rw [HL.out]; exact Nat.le_refl _)] at h1
        rw [← h1]; exact HO.out

end Go.Proofs.YthppbcnejapbiaaGreatDoor.Qt

-- YthppbcnejapbiaaGreatDoorFoot
/- Memory that a value owns, as the list of its blocks; worlds in which only some blocks have turned. Plain facts on worlds, no condition. -/
namespace Go.Proofs.YthppbcnejapbiaaGreatDoor.Foot
open Go Go.RowKit
set_option linter.unusedVariables false

/-- Only the blocks of S may have turned. -/
structure Chg (w w' : World) (S : List Nat) : Prop where
  os : w'.os = w.os
  tape : w'.tape = w.tape
  output : w'.output = w.output
  size : w.heap.size ≤ w'.heap.size
  block : ∀ k, k < w.heap.size → k ∉ S → w'.heap[k]? = w.heap[k]?
theorem Chg.refl (w : World) (S : List Nat) : Chg w w S := ⟨rfl, rfl, rfl, Nat.le_refl _, fun _ _ _ => rfl⟩
theorem Chg.trans {a b c : World} {S : List Nat} (h1 : Chg a b S) (h2 : Chg b c S) : Chg a c S :=
  ⟨h2.os.trans h1.os, h2.tape.trans h1.tape, h2.output.trans h1.output, Nat.le_trans h1.size h2.size, fun k hk hn => (h2.block k (Nat.lt_of_lt_of_le hk h1.size) hn).trans (h1.block k hk hn)⟩
theorem Chg.more {a b : World} {S T : List Nat} (h : Chg a b S) (hs : ∀ k ∈ S, k ∈ T) : Chg a b T := ⟨h.os, h.tape, h.output, h.size, fun k hk hn => h.block k hk (fun hh => hn (hs k hh))⟩
theorem Chg.of_below {a b : World} {B : Nat} (h : Below B a b) (hB : a.heap.size ≤ B) (S : List Nat) : Chg a b S := ⟨h.os, h.tape, h.output, h.size, fun k hk _ => h.block k (Nat.lt_of_lt_of_le hk hB)⟩
theorem Chg.of_grown {a b : World} {row : Option Nat} (h : a.grownBy b row) : Chg a b row.toList := ⟨h.os, h.tape, h.output, h.size, fun k hk hn => h.block k hk (fun e => hn (by rw [← e]; simp))⟩
theorem Chg.below {a b : World} {S : List Nat} {B : Nat} (h : Chg a b S) (hB : B ≤ a.heap.size) (hS : ∀ k ∈ S, B ≤ k) : Below B a b :=
  ⟨h.os, h.tape, h.output, h.size, fun k hk => h.block k (Nat.lt_of_lt_of_le hk hB) (fun hh => by have := hS k hh; omega)⟩
theorem Chg.cell {a b : World} {S : List Nat} (h : Chg a b S) {p : Addr} (hp : p.block < a.heap.size) (hn : p.block ∉ S) : b.cell? p = a.cell? p := by
  have e := h.block p.block hp hn
  unfold World.cell?
  rw [e]
/-- Two lists of blocks share none. -/
def Apart (S T : List Nat) : Prop := ∀ k ∈ S, k ∉ T
theorem Apart.symm {S T : List Nat} (h : Apart S T) : Apart T S := fun k hk hh => h k hh hk
theorem apart_app {S T U : List Nat} : Apart (S ++ T) U ↔ Apart S U ∧ Apart T U := by
  unfold Apart
  simp only [List.mem_append]
  exact ⟨fun h => ⟨fun k hk => h k (.inl hk), fun k hk => h k (.inr hk)⟩, fun h k hk => hk.elim (h.1 k) (h.2 k)⟩
/-- The blocks of S lie from base on, below hi. -/
def Lies (S : List Nat) (base hi : Nat) : Prop := ∀ k ∈ S, base ≤ k ∧ k < hi
theorem Lies.wide {S : List Nat} {a b c d : Nat} (h : Lies S a b) (h1 : c ≤ a) (h2 : b ≤ d) : Lies S c d := fun k hk => by have := h k hk; omega
theorem Lies.app {S T : List Nat} {a b : Nat} (h : Lies S a b) (h' : Lies T a b) : Lies (S ++ T) a b := fun k hk => (List.mem_append.1 hk).elim (h k) (h' k)
theorem Lies.apart {S T : List Nat} {a b c d : Nat} (h : Lies S a b) (h' : Lies T c d) (hbc : b ≤ c) : Apart S T := fun k hk hh => by have := h k hk; have := h' k hh; omega
theorem nodup_app {S T : List Nat} (hS : S.Nodup) (hT : T.Nodup) (h : Apart S T) : (S ++ T).Nodup := List.nodup_append.2 ⟨hS, hT, fun a ha b hb e => h a ha (e ▸ hb)⟩
theorem nodup_parts {S T : List Nat} (h : (S ++ T).Nodup) : S.Nodup ∧ T.Nodup ∧ Apart S T := by
  obtain ⟨h1, h2, h3⟩ := List.nodup_append.1 h
  exact ⟨h1, h2, fun k hk hh => h3 k hk k hh rfl⟩
/-- A row's blocks: one, or none. -/
def fpR (v : Value) : List Nat := v.ownBlock.toList
theorem fpR_nodup (v : Value) : (fpR v).Nodup := by unfold fpR; cases v.ownBlock <;> simp
theorem row_lies {w : World} {base size n : Nat} {e : TypeId} {v : Value} {xs : List Value} (h : w.ownsRow base e size v n xs) : Lies (fpR v) base w.heap.size := fun k hk => by
  have := h.lt k (by unfold fpR at hk; simpa using hk)
  exact this
theorem row_chg {w w' : World} {base size n : Nat} {e : TypeId} {v : Value} {xs : List Value} {S : List Nat} (h : w.ownsRow base e size v n xs) (hc : Chg w w' S) (ha : Apart (fpR v) S) : w'.ownsRow base e size v n xs := by
  refine ⟨h.1, ?_⟩
  rcases h.2 with hn | ⟨g, cap, cur, rfl, hb, hg, rest⟩
  · exact .inl hn
  · exact .inr ⟨g, cap, cur, rfl, hb, (hc.block g (Array.getElem?_eq_some_iff.1 hg).1 (ha g (by simp [fpR, Value.ownBlock]))).trans hg, rest⟩
theorem row_below {w w' : World} {base size n : Nat} {e : TypeId} {v : Value} {xs : List Value} (h : w.ownsRow base e size v n xs) (hb : Below w.heap.size w w') : w'.ownsRow base e size v n xs :=
  row_chg h (Chg.of_below hb (Nat.le_refl _) []) (fun k _ hh => by cases hh)
theorem row_mono {w : World} {base base' size n : Nat} {e : TypeId} {v : Value} {xs : List Value} (h : w.ownsRow base e size v n xs) (hb : base' ≤ base) : w.ownsRow base' e size v n xs :=
  ⟨h.1, h.2.elim .inl (fun ⟨g, cap, cur, hv, hg, r⟩ => .inr ⟨g, cap, cur, hv, Nat.le_trans hb hg, r⟩)⟩
/-- An int of 64 bits. -/
def Rg (x : Int) : Prop := -9223372036854775808 ≤ x ∧ x ≤ 9223372036854775807
theorem rg_of {x : Int} (h : (Lit.int .i64 x).wf = true) : Rg x := by
  simp only [Lit.wf, Bool.and_eq_true, decide_eq_true_eq, show IntKind.i64.min = -9223372036854775808 from rfl, show IntKind.i64.max = 9223372036854775807 from rfl] at h
  exact h
/-- The cost of a value, held against what is left. -/
def costOf (n left : Nat) : Int := if n ≤ left then ((left - n : Nat) : Int) else -1
theorem cost_pos {n left : Nat} (h : n ≤ left) : costOf n left = ((left - n : Nat) : Int) := if_pos h
theorem cost_neg {n left : Nat} (h : ¬ n ≤ left) : costOf n left = -1 := if_neg h
end Go.Proofs.YthppbcnejapbiaaGreatDoor.Foot

-- YthppbcnejapbiaaGreatDoorQF
/- The uniform face of a slice of Quotas: what it holds, owns, costs, its marks. Conditions: as each theorem types them. -/
namespace Go.Proofs.YthppbcnejapbiaaGreatDoor.QF
open Go.ChangeShapes Go.WideShapes Go.ChangeAt Go.RowKit Go.Deep
open Foot
open Qt (At a0)
set_option linter.unusedVariables false

abbrev L := List At
def Holds (w : World) (v : Value) (l : List At) : Prop := Qt.Holds w v l
theorem holds_below {w w' : World} {v : Value} {l : List At} (h : Holds w v l) (hb : Below w.heap.size w w') : Holds w' v l := Qt.holds_below h hb
theorem form {w : World} {v : Value} {l : List At} (h : Holds w v l) : ∃ a c, v = .slice a l.length c := by
  obtain ⟨a, c, rfl, _⟩ := h
  exact ⟨a, c, rfl⟩
def Own (w : World) (base : Nat) (v : Value) (l : List At) (S : List Nat) : Prop := w.ownsRow base 113 2 v l.length (Qt.cells l) ∧ S = fpR v
theorem own_holds {w : World} {base : Nat} {v : Value} {l : List At} {S : List Nat} (h : Own w base v l S) : Holds w v l := Qt.holds_of_own h.1
theorem own_chg {w w' : World} {base : Nat} {v : Value} {l : List At} {S T : List Nat} (h : Own w base v l S) (hc : Chg w w' T) (ha : Apart S T) : Own w' base v l S := ⟨row_chg h.1 hc (by rw [← h.2]; exact ha), h.2⟩
theorem own_below {w w' : World} {base : Nat} {v : Value} {l : List At} {S : List Nat} (h : Own w base v l S) (hb : Below w.heap.size w w') : Own w' base v l S := ⟨row_below h.1 hb, h.2⟩
theorem own_mono {w : World} {base base' : Nat} {v : Value} {l : List At} {S : List Nat} (h : Own w base v l S) (hb : base' ≤ base) : Own w base' v l S := ⟨row_mono h.1 hb, h.2⟩
theorem own_lies {w : World} {base : Nat} {v : Value} {l : List At} {S : List Nat} (h : Own w base v l S) : Lies S base w.heap.size := by rw [h.2]; exact row_lies h.1
theorem own_nodup {w : World} {base : Nat} {v : Value} {l : List At} {S : List Nat} (h : Own w base v l S) : S.Nodup := by rw [h.2]; exact fpR_nodup v
theorem own_form {w : World} {base : Nat} {v : Value} {l : List At} {S : List Nat} (h : Own w base v l S) : ∃ a c, v = .slice a l.length c := Dk.slice_of h.1
theorem own_set {w : World} {base : Nat} {v : Value} {l : List At} {S : List Nat} (h : Own w base v l S) {a : Addr} (ha : a.block < base) (u : Value) : Own (w.setCell a u) base v l S := ⟨ownsRow_setCell_below h.1 ha u, h.2⟩
def Lim (l : List At) : Prop := l.length ≤ maxLen
def cost (l : List At) : Nat := l.length
theorem sz_any (w : World) (v : Value) (l : List At) (left : Nat) (hleft : left ≤ 1073741824) (hl : Lim l) (h : Holds w v l) :
    Calls Tryz.prog 41 #[v, .int .i64 left] w fun e w' => e = .returned (.int .i64 (costOf (cost l) left)) ∧ Below w.heap.size w w' := Qt.sz_any w v l left hleft hl h
theorem to_any (w : World) (v : Value) (l : List At) (hc : cost l ≤ 1073741824) (h : Holds w v l) :
    Calls Tryz.prog 46 #[v] w fun e w' => ∃ v' S, e = .returned v' ∧ Own w' w.heap.size v' l S ∧ Below w.heap.size w w' :=
  (Qt.to_any w v l hc h).mono fun e w' ⟨v', he, ho, hb⟩ => ⟨v', _, he, ⟨ho, rfl⟩, hb⟩
theorem eq_any (w : World) (va vb : Value) (l : List At) (hc : cost l ≤ 1073741824) (h : Holds w va l) (h' : Holds w vb l) :
    Calls Tryz.prog 51 #[va, vb] w fun e w' => e = .returned (.bool true) ∧ Below w.heap.size w w' := Qt.eq_any w va vb l hc h h'
def marks (k : Nat) (l : List At) : List At := Qt.marks k l.length
def wid (l : List At) : Nat := 2 * l.length
theorem wid_cost (l : List At) : wid l ≤ 3 * cost l := by unfold cost wid; omega
theorem wid_le {l : List At} (h : cost l ≤ 1048576) : 1 + wid l ≤ 1073741824 := by unfold cost at h; unfold wid; omega
theorem marks_length (k : Nat) (l : List At) : (marks k l).length = l.length := Qt.marks_length k l.length
theorem mark_any (w : World) (base : Nat) (v : Value) (l : List At) (S : List Nat) (k : Nat) (hk : 1 ≤ k) (hn : k + wid l ≤ 1073741824) (h : Own w base v l S) :
    Calls Tryz.prog 57 #[v, .int .i64 k] w fun e w' => e = .returned (.int .i64 (k + wid l : Nat)) ∧ Own w' base v (marks k l) S ∧ Chg w w' S := by
  obtain ⟨hown, rfl⟩ := h
  refine (Qt.mark_all w base v l.length k l hk hn hown).mono ?_
  rintro e w' ⟨rfl, ho, hg⟩
  exact ⟨by congr 2, ⟨by rw [marks_length]; exact ho, rfl⟩, Chg.of_grown hg⟩
theorem held_any (w : World) (v : Value) (l : List At) (k : Nat) (hk : 1 ≤ k) (hn : k + wid l ≤ 1073741824) (h : Holds w v (marks k l)) :
    Calls Tryz.prog 67 #[v, .int .i64 k] w fun e w' => e = .returned (.int .i64 (k + wid l : Nat)) ∧ Below w.heap.size w w' := by
  refine (Qt.held_all w v l.length k hk hn h).mono ?_
  rintro e w' ⟨rfl, hb⟩
  exact ⟨by congr 2, hb⟩
set_option maxRecDepth 100000 in
/-- What cells that read as a list of the type hold. -/
theorem in_cell {H : Type} {enc : TypeId × Value → H} {W : World} {fuel : Nat} {v : Value} {x : DataW H × List MemPlace} (hf : DataW.trod enc Tryz.prog W 0 (fun _ => true) true fuel 22 [v] = some x) :
    ∃ l : List At, Lim l ∧ Holds W v l := by
  rcases open_slice Tryz.underlying22 hf with ⟨hcs, _⟩ | ⟨a, l, c, m, n, D, Pl, hcs, _, hl, hm, hmm, _, hi⟩
  · simp at hcs
    subst hcs
    exact ⟨[], by simp [Lim], none, 0, rfl, fun hh => absurd rfl hh⟩
  · simp at hcs
    subst hcs
    have hmc : m = c := by simpa using hmm
    subst hmc
    by_cases hl0 : l = 0
    · subst hl0
      exact ⟨[], by simp [Lim], some a, m, rfl, fun hh => absurd rfl hh⟩
    have hel : ∀ i, i < l → ∃ y : At, W.cell? (a.add (i * 2)) = some (.int .i64 y.1) ∧ W.cell? (a.add (i * 2 + 1)) = some (.int .i64 y.2) := by
      intro i hil
      obtain ⟨cs', hc, ht⟩ := hi i (by omega)
      rw [show Tryz.prog.cellsOf 115 = 2 from by kernel_rfl] at hc
      obtain ⟨_, hcl, hat⟩ := World.cells?_some hc
      obtain ⟨xs, fu, _, _, hl', hxl, hfs⟩ := DataW.trod_struct Tryz.underlying115 ht
      obtain ⟨c0, c1, rfl⟩ : ∃ c0 c1, cs' = [c0, c1] := by
        match cs', hcl with
        | [c0, c1], _ => exact ⟨_, _, rfl⟩
      obtain ⟨z0, z1, rfl⟩ : ∃ z0 z1, xs = [z0, z1] := by
        match xs, hxl with
        | [c0, c1], _ => exact ⟨_, _, rfl⟩
      have hci : Tryz.prog.cellsOf 3 = 1 := by kernel_rfl
      have e0 : DataW.trod enc Tryz.prog W 0 (fun _ => true) true fu 3 [c0] = some z0 := by simpa [hci] using hfs 0 _ rfl
      obtain ⟨i0, hi0, _, m0⟩ := DataW.trod_int Tryz.underlying3 e0
      obtain rfl : c0 = .int .i64 i0 := by simpa using hi0
      have q0 := hat 0 (by omega)
      rw [Addr.add_add] at q0
      have e1 : DataW.trod enc Tryz.prog W 0 (fun _ => true) true fu 3 [c1] = some z1 := by simpa [hci] using hfs 1 _ rfl
      obtain ⟨i1, hi1, _, m1⟩ := DataW.trod_int Tryz.underlying3 e1
      obtain rfl : c1 = .int .i64 i1 := by simpa using hi1
      have q1 := hat 1 (by omega)
      rw [Addr.add_add] at q1
      exact ⟨(i0, i1), q0, q1⟩
    obtain ⟨y, he0, _⟩ := hel 0 (by omega)
    have hspot : a.spot = none := by simpa [Addr.add] using World.cell?_spot he0
    have hblk : a.block < W.heap.size := by simpa [Addr.add] using Dk.cell_block he0
    obtain ⟨bk, off, spot⟩ := a
    simp only at hspot hblk
    subst hspot
    obtain ⟨f, hfs⟩ := Classical.skolem.1 (show ∀ i, ∃ y : At, i < l → W.cell? (Addr.add ⟨bk, off, none⟩ (i * 2)) = some (.int .i64 y.1) ∧ W.cell? (Addr.add ⟨bk, off, none⟩ (i * 2 + 1)) = some (.int .i64 y.2) from fun i => by
      by_cases hil : i < l
      · obtain ⟨y, hy⟩ := hel i hil
        exact ⟨y, fun _ => hy⟩
      · exact ⟨a0, fun h => absurd h hil⟩)
    have hlen : ((List.range l).map f).length = l := by simp
    refine ⟨(List.range l).map f, show _ ≤ maxLen by rw [hlen]; omega, some ⟨bk, off, none⟩, m, by rw [hlen], fun _ => ⟨bk, off, rfl, hblk, fun j hj => ?_⟩⟩
    rw [hlen] at hj
    have q := hfs j hj
    simp only [Addr.add_lit] at q
    have e : ((List.range l).map f).getD j a0 = f j := by
      rw [List.getD_eq_getElem?_getD, List.getElem?_map, List.getElem?_range hj]; rfl
    rw [e]
    exact q
set_option maxRecDepth 100000 in
theorem in_any {H : Type} {enc : TypeId × Value → H} {W : World} {b0 : Nat} {v : Value} {x : DataW H} {p : List MemPlace} (hv : Value.okWide Tryz.prog W .any b0 22 v) (h : DataW.Trod enc Tryz.prog W 0 (fun _ => true) true 22 v x p) :
    ∃ l : List At, Lim l ∧ Holds W v l := by
  obtain ⟨a1, l0, c0, rfl⟩ := okWide_slice Tryz.underlying22 hv
  obtain ⟨fuel, hf⟩ := h
  exact in_cell hf
end Go.Proofs.YthppbcnejapbiaaGreatDoor.QF

-- YthppbcnejapbiaaGreatDoorSF
/- The uniform face of a slice of strings: what it holds, owns, costs, its marks, what an argument offers. Conditions: as each theorem types them. -/
namespace Go.Proofs.YthppbcnejapbiaaGreatDoor.SF
open Go.ChangeShapes Go.WideShapes Go.ChangeAt Go.RowKit Go.Deep
open Foot
open Strs (total budgetOf)
set_option linter.unusedVariables false

abbrev L := List ByteArray
def cells (l : L) : List Value := l.map Value.string
def Holds (w : World) (v : Value) (l : L) : Prop := Strs.Holds w v l
theorem holds_below {w w' : World} {v : Value} {l : L} (h : Holds w v l) (hb : Below w.heap.size w w') : Holds w' v l := Strs.holds_below (B := 0) h hb
theorem form {w : World} {v : Value} {l : L} (h : Holds w v l) : ∃ a c, v = .slice a l.length c := by
  obtain ⟨a, c, rfl, _⟩ := h
  exact ⟨a, c, rfl⟩
def Own (w : World) (base : Nat) (v : Value) (l : L) (S : List Nat) : Prop := w.ownsRow base 9 1 v l.length (cells l) ∧ S = fpR v
section
variable {w w' : World} {base : Nat} {v : Value} {l : L} {S T : List Nat}
theorem own_holds (h : Own w base v l S) : Holds w v l := Strs.holds_of_own h.1
theorem own_chg (h : Own w base v l S) (hc : Chg w w' T) (ha : Apart S T) : Own w' base v l S := ⟨row_chg h.1 hc (by rw [← h.2]; exact ha), h.2⟩
theorem own_below (h : Own w base v l S) (hb : Below w.heap.size w w') : Own w' base v l S := ⟨row_below h.1 hb, h.2⟩
theorem own_mono {base' : Nat} (h : Own w base v l S) (hb : base' ≤ base) : Own w base' v l S := ⟨row_mono h.1 hb, h.2⟩
theorem own_lies (h : Own w base v l S) : Lies S base w.heap.size := by rw [h.2]; exact row_lies h.1
theorem own_nodup (h : Own w base v l S) : S.Nodup := by rw [h.2]; exact fpR_nodup v
theorem own_form (h : Own w base v l S) : ∃ a c, v = .slice a l.length c := Dk.slice_of h.1
theorem own_set (h : Own w base v l S) {a : Addr} (ha : a.block < base) (u : Value) : Own (w.setCell a u) base v l S := ⟨ownsRow_setCell_below h.1 ha u, h.2⟩
end
def Lim (l : L) : Prop := l.length ≤ maxLen ∧ ∀ x ∈ l, x.size ≤ maxLen
def cost (l : L) : Nat := l.length + total l
theorem cost_mem {l : L} {x : ByteArray} (h : x ∈ l) : x.size ≤ cost l := by
  unfold cost total
  induction l with
  | nil => cases h
  | cons a r ih =>
    rw [List.map_cons, List.sum_cons, List.length_cons]
    rcases List.mem_cons.1 h with rfl | h
    · omega
    · have := ih h; omega
theorem sz_any (w : World) (v : Value) (l : L) (left : Nat) (hleft : left ≤ 1073741824) (hl : Lim l) (h : Holds w v l) :
    Calls Tryz.prog 43 #[v, .int .i64 left] w fun e w' => e = .returned (.int .i64 (costOf (cost l) left)) ∧ Below w.heap.size w w' := by
  refine (Strs.sz_any w v l left hleft hl.1 hl.2 h).mono ?_
  rintro e w' ⟨rfl, rfl⟩
  refine ⟨?_, Below.refl _ _⟩
  unfold budgetOf costOf cost
  by_cases hc : l.length + total l ≤ left
  · rw [if_pos hc, if_pos hc, Nat.sub_sub]
  · rw [if_neg hc, if_neg hc]
theorem to_any (w : World) (v : Value) (l : L) (hc : cost l ≤ 1073741824) (h : Holds w v l) :
    Calls Tryz.prog 48 #[v] w fun e w' => ∃ v' S, e = .returned v' ∧ Own w' w.heap.size v' l S ∧ Below w.heap.size w w' :=
  (Strs.to_any w v l (Nat.le_trans (Nat.le_add_right _ _) hc) h).mono fun e w' ⟨v', he, ho, hb⟩ => ⟨v', _, he, ⟨ho, rfl⟩, hb⟩
theorem eq_any (w : World) (va vb : Value) (l : L) (hc : cost l ≤ 1073741824) (h : Holds w va l) (h' : Holds w vb l) :
    Calls Tryz.prog 53 #[va, vb] w fun e w' => e = .returned (.bool true) ∧ Below w.heap.size w w' :=
  (Strs.eq_any w va vb l (Nat.le_trans (Nat.le_add_right _ _) hc) h h').mono fun e w' ⟨he, m, hb⟩ => ⟨he, by rw [hb]; exact Joins.below_draws _ w m⟩
def marks (k : Nat) (l : L) : L := Strs.marks k l.length
def wid (l : L) : Nat := l.length
theorem wid_cost (l : L) : wid l ≤ 3 * cost l := by unfold cost wid; omega
theorem wid_le {l : L} (h : cost l ≤ 1048576) : 1 + wid l ≤ 1073741824 := by unfold cost at h; unfold wid; omega
theorem marks_length (k : Nat) (l : L) : (marks k l).length = l.length := Strs.marks_length k l.length
theorem mark_any (w : World) (base : Nat) (v : Value) (l : L) (S : List Nat) (k : Nat) (hk : 1 ≤ k) (hn : k + wid l ≤ 1073741824) (h : Own w base v l S) :
    Calls Tryz.prog 59 #[v, .int .i64 k] w fun e w' => e = .returned (.int .i64 (k + wid l : Nat)) ∧ Own w' base v (marks k l) S ∧ Chg w w' S := by
  obtain ⟨hown, rfl⟩ := h
  refine (Strs.mark_all w base v l.length k l hk hn hown).mono ?_
  rintro e w' ⟨rfl, ho, hg⟩
  exact ⟨by congr 2, ⟨by rw [marks_length]; exact ho, rfl⟩, Chg.of_grown hg⟩
theorem held_any (w : World) (v : Value) (l : L) (k : Nat) (hk : 1 ≤ k) (hn : k + wid l ≤ 1073741824) (h : Holds w v (marks k l)) :
    Calls Tryz.prog 69 #[v, .int .i64 k] w fun e w' => e = .returned (.int .i64 (k + wid l : Nat)) ∧ Below w.heap.size w w' := by
  refine (Strs.held_all w v l.length k hk hn h).mono ?_
  rintro e w' ⟨rfl, hb⟩
  exact ⟨by congr 2, hb⟩
set_option maxRecDepth 100000 in
/-- What cells that read as a list of strings hold. -/
theorem in_cell {H : Type} {enc : TypeId × Value → H} {W : World} {fuel : Nat} {v : Value} {x : DataW H × List MemPlace} (hf : DataW.trod enc Tryz.prog W 0 (fun _ => true) true fuel 24 [v] = some x) :
    ∃ l : L, Lim l ∧ Holds W v l := by
  rcases open_slice Tryz.underlying24 hf with ⟨hcs, _⟩ | ⟨a, l, c, m, n, D, Pl, hcs, _, hl, hm, hmm, _, hi⟩
  · simp at hcs
    subst hcs
    exact ⟨[], ⟨Nat.zero_le _, fun x hx => by cases hx⟩, none, 0, rfl, fun hh => absurd rfl hh⟩
  · simp at hcs
    subst hcs
    have hmc : m = c := by simpa using hmm
    subst hmc
    by_cases hl0 : l = 0
    · subst hl0
      exact ⟨[], ⟨Nat.zero_le _, fun x hx => by cases hx⟩, some a, m, rfl, fun hh => absurd rfl hh⟩
    have hel : ∀ i, i < l → ∃ y : ByteArray, W.cell? (a.add i) = some (.string y) ∧ y.size ≤ maxLen := by
      intro i hil
      obtain ⟨cs', hc, ht⟩ := hi i (by omega)
      rw [show Tryz.prog.cellsOf 9 = 1 from by kernel_rfl] at hc
      obtain ⟨_, hcl, hat⟩ := World.cells?_some hc
      obtain ⟨y, hy, _, hle⟩ := DataW.trod_string Tryz.underlying9 ht
      have e0 := hat 0 (by omega)
      rw [Addr.add_add, hy] at e0
      exact ⟨y, by simpa using e0, hle⟩
    obtain ⟨y, he0, _⟩ := hel 0 (by omega)
    have hspot : a.spot = none := by simpa [Addr.add] using World.cell?_spot he0
    have hblk : a.block < W.heap.size := by simpa [Addr.add] using Dk.cell_block he0
    obtain ⟨bk, off, spot⟩ := a
    simp only at hspot hblk
    subst hspot
    obtain ⟨f, hfs⟩ := Classical.skolem.1 (show ∀ i, ∃ y : ByteArray, i < l → W.cell? (Addr.add ⟨bk, off, none⟩ i) = some (.string y) ∧ y.size ≤ maxLen from fun i => by
      by_cases hil : i < l
      · obtain ⟨y, hy⟩ := hel i hil
        exact ⟨y, fun _ => hy⟩
      · exact ⟨⟨#[]⟩, fun h => absurd h hil⟩)
    have hlen : ((List.range l).map f).length = l := by simp
    refine ⟨(List.range l).map f, ⟨show _ ≤ maxLen by rw [hlen]; omega, fun x hx => by
      obtain ⟨i, hi1, rfl⟩ := List.mem_map.1 hx
      exact (hfs i (List.mem_range.1 hi1)).2⟩, some ⟨bk, off, none⟩, m, by rw [hlen], fun _ => ⟨bk, off, rfl, hblk, fun j hj => ?_⟩⟩
    rw [hlen] at hj
    have q0 := (hfs j hj).1
    rw [Addr.add_lit] at q0
    have e : ((List.range l).map f).getD j ⟨#[]⟩ = f j := by
      rw [List.getD_eq_getElem?_getD, List.getElem?_map, List.getElem?_range hj]; rfl
    rw [e]
    exact q0
set_option maxRecDepth 100000 in
theorem in_any {H : Type} {enc : TypeId × Value → H} {W : World} {b0 : Nat} {v : Value} {x : DataW H} {p : List MemPlace} (hv : Value.okWide Tryz.prog W .any b0 24 v) (h : DataW.Trod enc Tryz.prog W 0 (fun _ => true) true 24 v x p) :
    ∃ l : L, Lim l ∧ Holds W v l := by
  obtain ⟨a1, l0, c0, rfl⟩ := okWide_slice Tryz.underlying24 hv
  obtain ⟨fuel, hf⟩ := h
  exact in_cell hf
end Go.Proofs.YthppbcnejapbiaaGreatDoor.SF

-- YthppbcnejapbiaaGreatDoorNi
/- Contracts of the law's own helpers over slices of ints: their size, a copy of one, comparing two that read alike; what an argument of that type holds. Conditions: as each theorem types them. -/
namespace Go.Proofs.YthppbcnejapbiaaGreatDoor.Ni
open Go.ChangeShapes Go.WideShapes Go.ChangeAt Go.RowKit Go.Deep
open Dk (RowIn Turned)
open Strs (own_below grow_trans take_set_succ below_of_drew)
set_option linter.unusedVariables false

/-- A slice value that is nil, or whose cells hold the ints xs. -/
def HoldsN (w : World) (v : Value) (xs : List Int) : Prop :=
  ∃ (a : Option Addr) (cap : Nat), v = .slice a xs.length cap ∧ ∀ i, i < xs.length → ∃ b o, a = some ⟨b, o, none⟩ ∧ b < w.heap.size ∧ w.cell? ⟨b, o + i, none⟩ = some (.int .i64 (xs.getD i 0))
theorem holds_below {w w' : World} {v : Value} {xs : List Int} (h : HoldsN w v xs) (hb : Below w.heap.size w w') : HoldsN w' v xs := by
  obtain ⟨a, cap, rfl, hc⟩ := h
  refine ⟨a, cap, rfl, fun i hi => ?_⟩
  obtain ⟨b, o, rfl, hlt, hcell⟩ := hc i hi
  exact ⟨b, o, rfl, Nat.lt_of_lt_of_le hlt hb.size, by rw [hb.cell (p := ⟨b, _, none⟩) hlt]; exact hcell⟩
theorem holds_of_own {w : World} {base : Nat} {e : TypeId} {v : Value} {n : Nat} {bs : List Int} (h : w.ownsRow base e 1 v n (bs.map (Value.int .i64))) : HoldsN w v bs := by
  have hl := h.1
  simp at hl
  rcases h.2 with ⟨rfl, h0⟩ | ⟨g, cap, cur, rfl, hb, hg, hn, _, _, htake⟩
  · have : bs = [] := List.eq_nil_of_length_eq_zero (by omega)
    subst this
    exact ⟨none, 0, rfl, fun i hi => by simp at hi⟩
  · refine ⟨some ⟨g, 0, none⟩, cap, by rw [hl], fun i hi => ⟨g, 0, rfl, (Array.getElem?_eq_some_iff.1 hg).1, ?_⟩⟩
    rw [Nat.zero_add, h.cellAt i (by omega)]
    simp [List.getD, List.getElem?_eq_getElem hi]
theorem intInfo : (Tryz.prog.info? 3).map (fun i => (i.zero, i.size, i.bytes)) = some (some (.int .i64 0), 1, 8) := by kernel_rfl

set_option maxRecDepth 100000 in
set_option maxHeartbeats 800000 in
/-- A copy, in a row of the call's own. -/
theorem to_any (w : World) (v : Value) (xs : List Int) (hlen : xs.length ≤ 1073741824) (h : HoldsN w v xs) :
    Calls Tryz.prog 79 #[v] w fun e w' => ∃ v', e = .returned v' ∧ w'.ownsRow w.heap.size 3 1 v' xs.length (xs.map (Value.int .i64)) ∧ Below w.heap.size w w' := by
  obtain ⟨i0, hi, hz0, hz1, hz2⟩ := info_parts intInfo
  obtain ⟨a, cap, rfl, hc⟩ := h
  obtain ⟨L, hL⟩ : ∃ L, L = xs.length := ⟨_, rfl⟩
  have HC := Lib.hid hc
  rw [← hL] at hlen ⊢
  have HL := Lib.hid hL
  clear hL hc
  have hro : i0.bytes * L ≤ 281474976710656 := by rw [hz2]; omega
  have HRO := Lib.hid hro
  have HB := Lib.hid hz2
  clear hro hz2
  go_enter Tryz.func79, Tryz.ntmps79
  go_wp2_with (at_make; refine wpList_make_full _ rfl _ _ 49 rfl w.heap.size 3 i0 (.int .i64 0) 1 Tryz.underlying49 hi hz0 hz1 .i64 .i64 _ _ L rfl rfl rfl rfl ?c1 ?c2 ?c3 ?_)
  case c1 => exact HRO.out
  case c2 => unfold maxLen; omega
  case c3 => exact Nat.le_refl _
  intro w1 hown1 hg1
  have HO1 := Lib.hid hown1
  have HB1 := Lib.hid (show Below w.heap.size w w1 from (Below.refl _ _).grown hg1 (Nat.le_refl _) (fun k hk => by cases hk))
  clear hown1 hg1
  go_wp2
  go_loopw [4] (fun iv wr => ∃ (i : Nat) (l : List Value), i ≤ L ∧ iv = .int .i64 i ∧ wr.ownsRow w.heap.size 3 1 (.slice (some ⟨w.heap.size, 0, none⟩) L L) L l ∧ l.take i = (xs.take i).map (Value.int .i64) ∧ Below w.heap.size w wr) (fun iv _ => L - (intOf iv).toNat)
  case atStart => exact ⟨0, _, Nat.zero_le _, rfl, HO1.out, rfl, HB1.out⟩
  case round =>
    obtain ⟨i, l, hi, rfl, hown, htake, hbel⟩ := hrel
    have HO := Lib.hid hown
    have HT := Lib.hid htake
    have HBEL := Lib.hid hbel
    clear hown htake hbel HO1 HB1
    by_cases hlt : i < L
    · have hlx : i < xs.length := by rw [← HL.out]; exact hlt
      have hll : i < l.length := by have := HO.out.1; omega
      obtain ⟨b, o, rfl, hb, hcell⟩ := HC.out i hlx
      have g1 : wr.cell? ⟨b, o + i, none⟩ = some (.int .i64 (xs.getD i 0)) := by
        rw [HBEL.out.cell (p := ⟨b, o + i, none⟩) hb]; exact hcell
      have hx : (xs.take (i + 1)).map (Value.int .i64) = (xs.take i).map (Value.int .i64) ++ [.int .i64 (xs.getD i 0)] := by
        rw [List.take_succ_eq_append_getElem hlx, List.map_append]
        simp [List.getD, List.getElem?_eq_getElem hlx]
      have hcl := HO.out.cellAt i (by omega)
      rw [List.getElem?_eq_getElem hll] at hcl
      have hf := HO.out.frozenAt i
      have hst := HO.out.stored i (.int .i64 (xs.getD i 0))
      have hts := take_set_succ l i (.int .i64 (xs.getD i 0)) hll
      rw [HT.out, ← hx] at hts
      have HST := Lib.hid hst.1
      have HTS := Lib.hid hts
      clear hx hst hts hcell
      generalize l[i] = y at hcl
      generalize xs.getD i 0 = x at g1 HST HTS
      go_wp2
      go_roundw
      case rel => exact ⟨i + 1, _, by omega, by go_num, HST.out, HTS.out, HBEL.out.setCell (Nat.le_refl _) _⟩
      case measure => simp [intOf]; omega
    · obtain rfl : i = L := by omega
      go_wp2
      go_ret
      refine ⟨_, rfl, ?_, HBEL.out⟩
      have h1 := HT.out
      have h2 := HO.out.1
      rw [List.take_of_length_le (by omega), List.take_of_length_le (by rw [HL.out]; exact Nat.le_refl _)] at h1
      rw [← h1]; exact HO.out

set_option maxRecDepth 100000 in
set_option maxHeartbeats 400000 in
/-- Two slices that read alike are found equal; only draws are made. -/
theorem eq_any (w : World) (va vb : Value) (xs : List Int) (hn : xs.length ≤ 1073741824) (ha : HoldsN w va xs) (hb : HoldsN w vb xs) :
    Calls Tryz.prog 82 #[va, vb] w fun e w' => e = .returned (.bool true) ∧ Below w.heap.size w w' := by
  obtain ⟨a, ca, rfl, hca⟩ := ha
  obtain ⟨b, cb, rfl, hcb⟩ := hb
  have HC1 := Lib.hid hca
  have HC2 := Lib.hid hcb
  clear hca hcb
  obtain ⟨L, hL⟩ : ∃ L, L = xs.length := ⟨_, rfl⟩
  rw [← hL] at hn ⊢
  have HL := Lib.hid hL
  clear hL
  go_enter Tryz.func82, Tryz.ntmps82
  go_wp2
  go_loopw [5] (fun i wr => ∃ k m : Nat, k ≤ L ∧ i = .int .i64 k ∧ wr = w.drewN m) (fun i _ => L - (intOf i).toNat)
  case atStart => exact ⟨0, 0, Nat.zero_le _, rfl, rfl⟩
  case round =>
    obtain ⟨k, m, hk, rfl, rfl⟩ := hrel
    by_cases hlt : k < L
    · obtain ⟨b1, o1, rfl, _, g1⟩ := HC1.out k (by rw [← HL.out]; exact hlt)
      obtain ⟨b2, o2, rfl, _, g2⟩ := HC2.out k (by rw [← HL.out]; exact hlt)
      generalize xs.getD k 0 = x at g1 g2
      go_wp2
      go_quiet (fail)
      go_wp2
      go_roundw
      case rel => exact ⟨k + 1, _, by omega, by go_num, by first | rfl | exact World.drewN_drewN ..⟩
      case measure => simp [intOf]; omega
    · go_wp2
      go_ret
      exact ⟨rfl, Joins.below_draws _ w m⟩

/-- The size of a list: its length alone. -/
theorem sz_any (w : World) (v : Value) (xs : List Int) (left : Nat) (hleft : left ≤ 1073741824) (hlen : xs.length ≤ maxLen) (h : HoldsN w v xs) :
    Calls Tryz.prog 76 #[v, .int .i64 left] w fun e w' => e = .returned (.int .i64 (if xs.length ≤ left then ((left - xs.length : Nat) : Int) else -1)) ∧ Below w.heap.size w w' := by
  unfold maxLen at hlen
  obtain ⟨a, cap, rfl, hc⟩ := h
  clear hc
  generalize xs.length = L at hlen ⊢
  by_cases hlt : L ≤ left
  · rw [if_pos hlt]
    go_enter Tryz.func76, Tryz.ntmps76
    go_wp2
    go_ret
    exact ⟨Strs.ret_int (by omega), Below.refl _ _⟩
  · rw [if_neg hlt]
    go_enter Tryz.func76, Tryz.ntmps76
    go_wp2
    go_ret
    exact ⟨rfl, Below.refl _ _⟩
end Go.Proofs.YthppbcnejapbiaaGreatDoor.Ni

-- YthppbcnejapbiaaGreatDoorNiF
/- Contracts of the law's own helpers over slices of ints: marking one that the call owns, asking for the marks. And the uniform face of such a slice: what it holds, owns, costs. Conditions: as each theorem types them. -/
namespace Go.Proofs.YthppbcnejapbiaaGreatDoor.NiF
open Go.ChangeShapes Go.WideShapes Go.ChangeAt Go.RowKit Go.Deep
open Foot
open Strs (grow_trans take_set_succ)
open Ni (HoldsN)
set_option linter.unusedVariables false

abbrev L := List Int
def cells (l : List Int) : List Value := l.map (Value.int .i64)
theorem cells_length (l : List Int) : (cells l).length = l.length := by simp [cells]
/-- A slice value, no longer than its capacity, whose cells hold the list. -/
def Holds (w : World) (v : Value) (l : List Int) : Prop := ∃ (a : Option Addr) (cap : Nat), v = .slice a l.length cap ∧ l.length ≤ cap ∧ ∀ i, i < l.length → ∃ b o, a = some ⟨b, o, none⟩ ∧ b < w.heap.size ∧ w.cell? ⟨b, o + i, none⟩ = some (.int .i64 (l.getD i 0))
theorem Holds.old {w : World} {v : Value} {l : List Int} (h : Holds w v l) : HoldsN w v l := by
  obtain ⟨a, c, e, _, hc⟩ := h
  exact ⟨a, c, e, hc⟩
theorem Holds.of_old {w : World} {v : Value} {l : List Int} (h : HoldsN w v l) (hr : ∀ a c, v = .slice a l.length c → l.length ≤ c) : Holds w v l := by
  obtain ⟨a, c, e, hc⟩ := h
  exact ⟨a, c, e, hr a c e, hc⟩
theorem holds_below {w w' : World} {v : Value} {l : List Int} (h : Holds w v l) (hb : Below w.heap.size w w') : Holds w' v l := by
  obtain ⟨a, c, rfl, hle, hc⟩ := h
  exact Holds.of_old (Ni.holds_below ⟨a, c, rfl, hc⟩ hb) (fun a' c' e => by cases e; exact hle)
theorem form {w : World} {v : Value} {l : List Int} (h : Holds w v l) : ∃ a c, v = .slice a l.length c := by
  obtain ⟨a, c, rfl, _⟩ := h
  exact ⟨a, c, rfl⟩
def Own (w : World) (base : Nat) (v : Value) (l : List Int) (S : List Nat) : Prop := (∃ (a : Option Addr) (c c' : Nat), v = .slice a l.length c ∧ l.length ≤ c ∧ c ≤ c' ∧ w.ownsRow base 3 1 (.slice a l.length c') l.length (cells l)) ∧ S = fpR v
theorem own_of {w : World} {base : Nat} {v : Value} {l : List Int} (h : w.ownsRow base 3 1 v l.length (cells l)) : Own w base v l (fpR v) := by
  refine ⟨?_, rfl⟩
  rcases h.2 with ⟨rfl, h0⟩ | ⟨g, cap, cur, rfl, hb, hg, hn, _⟩
  · refine ⟨none, 0, 0, by rw [h0], by omega, Nat.le_refl _, ?_⟩
    rw [show (Value.slice none l.length 0) = .slice none 0 0 from by rw [h0]]
    exact h
  · exact ⟨_, cap, cap, rfl, hn, Nat.le_refl _, h⟩
theorem fpR_slice (a : Option Addr) (n c n' c' : Nat) : fpR (.slice a n c) = fpR (.slice a n' c') := by cases a <;> rfl
theorem own_holds {w : World} {base : Nat} {v : Value} {l : List Int} {S : List Nat} (h : Own w base v l S) : Holds w v l := by
  obtain ⟨⟨a, c, c', rfl, hc, hcc, hr⟩, _⟩ := h
  obtain ⟨a1, cap1, e, hn⟩ := Ni.holds_of_own hr
  rw [Value.slice.injEq] at e
  obtain ⟨rfl, _, _⟩ := e
  refine Holds.of_old ⟨a, c, rfl, hn⟩ fun a2 c2 e2 => ?_
  rw [Value.slice.injEq] at e2
  omega
theorem own_chg {w w' : World} {base : Nat} {v : Value} {l : List Int} {S T : List Nat} (h : Own w base v l S) (hc : Chg w w' T) (ha : Apart S T) : Own w' base v l S := by
  obtain ⟨⟨a, c, c', rfl, h1, h2, hr⟩, rfl⟩ := h
  exact ⟨⟨a, c, c', rfl, h1, h2, row_chg hr hc (by rw [fpR_slice a _ _ l.length c]; exact ha)⟩, rfl⟩
theorem own_below {w w' : World} {base : Nat} {v : Value} {l : List Int} {S : List Nat} (h : Own w base v l S) (hb : Below w.heap.size w w') : Own w' base v l S := by
  obtain ⟨⟨a, c, c', rfl, h1, h2, hr⟩, rfl⟩ := h
  exact ⟨⟨a, c, c', rfl, h1, h2, row_below hr hb⟩, rfl⟩
theorem own_mono {w : World} {base base' : Nat} {v : Value} {l : List Int} {S : List Nat} (h : Own w base v l S) (hb : base' ≤ base) : Own w base' v l S := by
  obtain ⟨⟨a, c, c', rfl, h1, h2, hr⟩, rfl⟩ := h
  exact ⟨⟨a, c, c', rfl, h1, h2, row_mono hr hb⟩, rfl⟩
theorem own_lies {w : World} {base : Nat} {v : Value} {l : List Int} {S : List Nat} (h : Own w base v l S) : Lies S base w.heap.size := by
  obtain ⟨⟨a, c, c', rfl, h1, h2, hr⟩, rfl⟩ := h
  rw [fpR_slice a _ _ l.length c']; exact row_lies hr
theorem own_nodup {w : World} {base : Nat} {v : Value} {l : List Int} {S : List Nat} (h : Own w base v l S) : S.Nodup := by rw [h.2]; exact fpR_nodup v
theorem own_form {w : World} {base : Nat} {v : Value} {l : List Int} {S : List Nat} (h : Own w base v l S) : ∃ a c, v = .slice a l.length c := by
  obtain ⟨⟨a, c, c', rfl, _⟩, _⟩ := h
  exact ⟨a, c, rfl⟩
theorem own_set {w : World} {base : Nat} {v : Value} {l : List Int} {S : List Nat} (h : Own w base v l S) {a : Addr} (ha : a.block < base) (u : Value) : Own (w.setCell a u) base v l S := by
  obtain ⟨⟨a', c, c', rfl, h1, h2, hr⟩, rfl⟩ := h
  exact ⟨⟨a', c, c', rfl, h1, h2, ownsRow_setCell_below hr ha u⟩, rfl⟩
def Lim (l : List Int) : Prop := l.length ≤ maxLen ∧ ∀ x ∈ l, Rg x
def cost (l : List Int) : Nat := l.length
theorem sz_any (w : World) (v : Value) (l : List Int) (left : Nat) (hleft : left ≤ 1073741824) (hl : Lim l) (h : Holds w v l) :
    Calls Tryz.prog 76 #[v, .int .i64 left] w fun e w' => e = .returned (.int .i64 (costOf (cost l) left)) ∧ Below w.heap.size w w' := Ni.sz_any w v l left hleft hl.1 h.old
theorem to_any (w : World) (v : Value) (l : List Int) (hc : cost l ≤ 1073741824) (h : Holds w v l) :
    Calls Tryz.prog 79 #[v] w fun e w' => ∃ v' S, e = .returned v' ∧ Own w' w.heap.size v' l S ∧ Below w.heap.size w w' :=
  (Ni.to_any w v l hc h.old).mono fun e w' ⟨v', he, ho, hb⟩ => ⟨v', _, he, own_of ho, hb⟩
theorem eq_any (w : World) (va vb : Value) (l : List Int) (hc : cost l ≤ 1073741824) (h : Holds w va l) (h' : Holds w vb l) :
    Calls Tryz.prog 82 #[va, vb] w fun e w' => e = .returned (.bool true) ∧ Below w.heap.size w w' := Ni.eq_any w va vb l hc h.old h'.old

/-- Marks from number k on, in the list's place. -/
def marks (k : Nat) (l : List Int) : List Int := (List.range l.length).map fun i => ((k + i : Nat) : Int)
def wid (l : List Int) : Nat := l.length
theorem wid_cost (l : List Int) : wid l ≤ 3 * cost l := by unfold cost wid; omega
theorem wid_le {l : List Int} (h : cost l ≤ 1048576) : 1 + wid l ≤ 1073741824 := by unfold cost at h; unfold wid; omega
theorem marks_length (k : Nat) (l : List Int) : (marks k l).length = l.length := by simp [marks]
theorem marks_getD (k : Nat) (l : List Int) (j : Nat) (h : j < l.length) : (marks k l).getD j 0 = ((k + j : Nat) : Int) := by
  simp [marks, List.getD, h]
/-- The first i marks, then what stood. -/
def part (k : Nat) (l : List Int) (i : Nat) : List Int := (marks k l).take i ++ l.drop i
theorem part_zero (k : Nat) (l : List Int) : part k l 0 = l := by simp [part]
theorem part_all (k : Nat) (l : List Int) : part k l l.length = marks k l := by
  rw [part, List.drop_length, List.append_nil, List.take_of_length_le (by rw [marks_length]; exact Nat.le_refl _)]
theorem part_length (k : Nat) (l : List Int) (i : Nat) (h : i ≤ l.length) : (part k l i).length = l.length := by
  rw [part, List.length_append, List.length_take, List.length_drop, marks_length]; omega
theorem part_set (k : Nat) (l : List Int) (i : Nat) (h : i < l.length) : (cells (part k l i)).set i (.int .i64 ((k : Int) + i)) = cells (part k l (i + 1)) := by
  unfold cells part
  rw [← List.map_set, List.set_append_right _ _ (by rw [List.length_take, marks_length]; omega), List.length_take, marks_length, Nat.min_eq_left (by omega), Nat.sub_self, List.drop_eq_getElem_cons h, List.set_cons_zero, List.take_succ_eq_append_getElem (by rw [marks_length]; exact h), List.append_assoc]
  have e : (marks k l)[i]'(by rw [marks_length]; exact h) = (k : Int) + i := by simp [marks]
  rw [e]; rfl

set_option maxRecDepth 100000 in
set_option maxHeartbeats 800000 in
/-- A row that the call owns is marked; every other block stays. -/
theorem mark_any (w : World) (base : Nat) (v : Value) (l : List Int) (S : List Nat) (k : Nat) (hk : 1 ≤ k) (hn : k + wid l ≤ 1073741824) (h : Own w base v l S) :
    Calls Tryz.prog 107 #[v, .int .i64 k] w fun e w' => e = .returned (.int .i64 (k + wid l : Nat)) ∧ Own w' base v (marks k l) S ∧ Chg w w' S := by
  obtain ⟨⟨a0, c0, c1, rfl, hlc, hcc, hown⟩, rfl⟩ := h
  unfold wid at hn ⊢
  unfold Own
  rw [marks_length]
  obtain ⟨n, hnl⟩ : ∃ n, n = l.length := ⟨_, rfl⟩
  rw [← hnl] at hn hown hlc ⊢
  have HL := Lib.hid hnl
  have HLC := Lib.hid hlc
  have HCC := Lib.hid hcc
  clear hlc hcc
  by_cases h0 : n = 0
  · subst h0
    obtain rfl : l = [] := List.eq_nil_of_length_eq_zero hnl.symm
    have HO := Lib.hid hown
    clear hown hnl
    go_enter Tryz.func107, Tryz.ntmps107
    go_wp2
    refine wp_loop_rounds 1 ?_
    rw [rounds_succ]
    go_wp2
    go_ret
    exact ⟨by simp, ⟨⟨a0, c0, c1, rfl, HLC.out, HCC.out, HO.out⟩, by first | rfl | trivial⟩, Chg.refl _ _⟩
  · obtain ⟨g, rfl, hbg⟩ : ∃ g, a0 = some ⟨g, 0, none⟩ ∧ g < w.heap.size := by
      rcases hown.2 with ⟨_, hz⟩ | ⟨g, cap, cur, e, _, hg, _⟩
      · exact absurd hz h0
      · rw [Value.slice.injEq] at e
        exact ⟨g, e.1, (Array.getElem?_eq_some_iff.1 hg).1⟩
    have HO := Lib.hid hown
    clear hown h0 hnl
    go_enter Tryz.func107, Tryz.ntmps107
    go_wp2
    go_loopw [1, 5] (fun kv iv wr => ∃ i : Nat, i ≤ n ∧ iv = .int .i64 i ∧ kv = .int .i64 ((k : Int) + i) ∧ wr.ownsRow base 3 1 (.slice (some ⟨g, 0, none⟩) n c1) n (cells (part k l i)) ∧ w.grownBy wr (some g)) (fun _ iv _ => n - (intOf iv).toNat)
    case atStart => exact ⟨0, Nat.zero_le _, rfl, by simp, by rw [part_zero]; exact HO.out, World.grownBy.refl _ _⟩
    case round =>
      obtain ⟨i, hi, rfl, rfl, hown, hgr⟩ := hrel
      have HOWN := Lib.hid hown
      have HGR := Lib.hid hgr
      clear hown hgr
      by_cases hlt : i < n
      · have hx : i < l.length := by rw [← HL.out]; exact hlt
        have hcl := HOWN.out.cellAt i (by omega)
        rw [List.getElem?_eq_getElem (by rw [cells_length, part_length k l i (by omega)]; exact hx)] at hcl
        have hf := HOWN.out.frozenAt i
        have hst := HOWN.out.stored i (.int .i64 ((k : Int) + i))
        rw [part_set k l i hx] at hst
        have HST := Lib.hid hst.1
        have HG2 := Lib.hid (grow_trans HGR.out hst.2)
        clear hst
        generalize (cells (part k l i))[i]'_ = y at hcl
        go_wp2
        go_roundw
        case rel => exact ⟨i + 1, by omega, by go_num, by go_num, HST.out, HG2.out⟩
        case measure => simp [intOf]; omega
      · obtain rfl : i = n := by omega
        have HE := Lib.hid (show part k l i = marks k l by rw [HL.out, part_all])
        go_wp2
        go_ret
        exact ⟨by congr 2, ⟨⟨_, c0, c1, rfl, HLC.out, HCC.out, by rw [← HE.out]; exact HOWN.out⟩, by first | rfl | trivial⟩, Chg.of_grown HGR.out⟩

set_option maxRecDepth 100000 in
set_option maxHeartbeats 800000 in
/-- The marks are found. -/
theorem held_any (w : World) (v : Value) (l : List Int) (k : Nat) (hk : 1 ≤ k) (hn : k + wid l ≤ 1073741824) (h : Holds w v (marks k l)) :
    Calls Tryz.prog 126 #[v, .int .i64 k] w fun e w' => e = .returned (.int .i64 (k + wid l : Nat)) ∧ Below w.heap.size w w' := by
  obtain ⟨a, cap, rfl, _, hc⟩ := h
  unfold wid at hn ⊢
  rw [marks_length] at hc ⊢
  obtain ⟨n, hnl⟩ : ∃ n, n = l.length := ⟨_, rfl⟩
  have HG := Lib.hid (marks_getD k l)
  rw [← hnl] at hn hc HG ⊢
  have HC := Lib.hid hc
  clear hc hnl
  go_enter Tryz.func126, Tryz.ntmps126
  go_wp2_with fail
  go_loopw [1, 5] (fun kv iv wr => ∃ i : Nat, i ≤ n ∧ iv = .int .i64 i ∧ kv = .int .i64 ((k : Int) + i) ∧ Below w.heap.size w wr) (fun _ iv _ => n - (intOf iv).toNat)
  case atStart => exact ⟨0, Nat.zero_le _, rfl, by simp, Below.refl _ _⟩
  case round =>
    obtain ⟨i, hi, rfl, rfl, hbel⟩ := hrel
    have HBEL := Lib.hid hbel
    clear hbel
    by_cases hlt : i < n
    · obtain ⟨b, o, rfl, hb, g0⟩ := HC.out i hlt
      rw [HG.out i hlt, ← HBEL.out.cell (p := ⟨b, _, none⟩) hb, show ((k + i : Nat) : Int) = (k : Int) + i from by omega] at g0
      go_wp2
      go_roundw
      case rel => exact ⟨i + 1, by omega, by go_num, by go_num, HBEL.out⟩
      case measure => simp [intOf]; omega
    · obtain rfl : i = n := by omega
      go_wp2
      go_ret
      exact ⟨by congr 2, HBEL.out⟩
set_option maxRecDepth 100000 in
/-- What cells that read as a list of ints hold. -/
theorem in_cell {H : Type} {enc : TypeId × Value → H} {W : World} {fuel : Nat} {v : Value} {x : DataW H × List MemPlace} (hf : DataW.trod enc Tryz.prog W 0 (fun _ => true) true fuel 49 [v] = some x) :
    ∃ l : List Int, Lim l ∧ Holds W v l := by
  rcases open_slice Tryz.underlying49 hf with ⟨hcs, _⟩ | ⟨a, l, c, m, n, D, Pl, hcs, _, hl, hm, hmm, _, hi⟩
  · simp at hcs
    subst hcs
    exact ⟨[], ⟨Nat.zero_le _, fun x hx => by cases hx⟩, none, 0, rfl, Nat.le_refl _, fun i hi => by simp at hi⟩
  · simp at hcs
    subst hcs
    have hmc : m = c := by simpa using hmm
    subst hmc
    have hel : ∀ i, i < l → ∃ y : Int, W.cell? (a.add i) = some (.int .i64 y) ∧ Rg y := by
      intro i hil
      obtain ⟨cs', hc, ht⟩ := hi i (by omega)
      rw [show Tryz.prog.cellsOf 3 = 1 from by kernel_rfl] at hc
      obtain ⟨_, hcl, hat⟩ := World.cells?_some hc
      obtain ⟨y, hy, _, hwf⟩ := DataW.trod_int Tryz.underlying3 ht
      have e0 := hat 0 (by omega)
      rw [Addr.add_add, hy] at e0
      exact ⟨y, by simpa using e0, rg_of hwf⟩
    by_cases hl0 : l = 0
    · subst hl0
      exact ⟨[], ⟨Nat.zero_le _, fun x hx => by cases hx⟩, some a, m, rfl, Nat.zero_le _, fun i hi => by simp at hi⟩
    obtain ⟨y, he0, _⟩ := hel 0 (by omega)
    have hspot : a.spot = none := by simpa [Addr.add] using World.cell?_spot he0
    have hblk : a.block < W.heap.size := by simpa [Addr.add] using Dk.cell_block he0
    obtain ⟨bk, off, spot⟩ := a
    simp only at hspot hblk
    subst hspot
    obtain ⟨f, hfs⟩ := Classical.skolem.1 (show ∀ i, ∃ y : Int, i < l → W.cell? (Addr.add ⟨bk, off, none⟩ i) = some (.int .i64 y) ∧ Rg y from fun i => by
      by_cases hil : i < l
      · obtain ⟨y, hy⟩ := hel i hil
        exact ⟨y, fun _ => hy⟩
      · exact ⟨0, fun h => absurd h hil⟩)
    have hlen : ((List.range l).map f).length = l := by simp
    refine ⟨(List.range l).map f, ⟨show _ ≤ maxLen by rw [hlen]; omega, fun x hx => by
      obtain ⟨i, hi1, rfl⟩ := List.mem_map.1 hx
      exact (hfs i (List.mem_range.1 hi1)).2⟩, some ⟨bk, off, none⟩, m, by rw [hlen], by rw [hlen]; exact hl, fun j hj => ⟨bk, off, rfl, hblk, ?_⟩⟩
    rw [hlen] at hj
    have q0 := (hfs j hj).1
    rw [Addr.add_lit] at q0
    have e : ((List.range l).map f).getD j 0 = f j := by
      rw [List.getD_eq_getElem?_getD, List.getElem?_map, List.getElem?_range hj]; rfl
    rw [e]
    exact q0
set_option maxRecDepth 100000 in
theorem in_any {H : Type} {enc : TypeId × Value → H} {W : World} {b0 : Nat} {v : Value} {x : DataW H} {p : List MemPlace} (hv : Value.okWide Tryz.prog W .any b0 49 v) (h : DataW.Trod enc Tryz.prog W 0 (fun _ => true) true 49 v x p) :
    ∃ l : List Int, Lim l ∧ Holds W v l := by
  obtain ⟨a1, l0, c0, rfl⟩ := okWide_slice Tryz.underlying49 hv
  obtain ⟨fuel, hf⟩ := h
  exact in_cell hf
end Go.Proofs.YthppbcnejapbiaaGreatDoor.NiF

-- YthppbcnejapbiaaGreatDoorAeIn
/- What an argument that is a slice of entries of the law's own offers. Condition: it reads as data. -/
namespace Go.Proofs.YthppbcnejapbiaaGreatDoor.Ae
open Go.ChangeShapes Go.WideShapes Go.ChangeAt Go.RowKit Go.Deep
open AclV (At a0)
set_option linter.unusedVariables false

/-- What an argument that is a slice of entries offers. -/
structure LIn (w : World) (v : Value) (l : List At) : Prop where
  len : l.length ≤ maxLen
  holds : Holds w v l
set_option maxRecDepth 100000 in
theorem ents_of {H : Type} {enc : TypeId × Value → H} {W : World} {fuel : Nat} {v : Value} {x : DataW H × List MemPlace} (hf : DataW.trod enc Tryz.prog W 0 (fun _ => true) true fuel 109 [v] = some x) :
    ∃ ws : List At, ws.length ≤ maxLen ∧ Holds W v ws := by
  rcases open_slice Tryz.underlying109 hf with ⟨hcs, _⟩ | ⟨a, l, c, m, n, D, Pl, hcs, _, hl, hm, hmm, _, hi⟩
  · simp at hcs
    subst hcs
    exact ⟨[], by simp, none, 0, rfl, fun hh => absurd rfl hh⟩
  · simp at hcs
    subst hcs
    have hmc : m = c := by simpa using hmm
    subst hmc
    by_cases hl0 : l = 0
    · subst hl0
      exact ⟨[], by simp, some a, m, rfl, fun hh => absurd rfl hh⟩
    have hel : ∀ i, i < l → ∃ y : At, W.cell? (a.add (i * 3)) = some (.int .i64 y.1) ∧ W.cell? (a.add (i * 3 + 1)) = some (.int .i64 y.2.1) ∧ W.cell? (a.add (i * 3 + 2)) = some (.int .i64 y.2.2) := by
      intro i hil
      obtain ⟨cs', hc, ht⟩ := hi i (by omega)
      rw [show Tryz.prog.cellsOf 185 = 3 from by kernel_rfl] at hc
      obtain ⟨_, hcl, hat⟩ := World.cells?_some hc
      obtain ⟨y0, y1, y2, n', _, hlen, h0, h1, h2⟩ := trod_struct3 Tryz.underlying185 ht
      obtain ⟨c0, c1, c2, rfl⟩ : ∃ c0 c1 c2, cs' = [c0, c1, c2] := by
        match cs', hcl with
        | [c0, c1, c2], _ => exact ⟨c0, c1, c2, rfl⟩
      have e0 := hat 0 (by omega)
      have e1 := hat 1 (by omega)
      have e2 := hat 2 (by omega)
      have hci : Tryz.prog.cellsOf 3 = 1 := by kernel_rfl
      obtain ⟨z, hz, _, _⟩ := DataW.trod_int Tryz.underlying3 h0
      obtain ⟨s, hs, _, _⟩ := DataW.trod_int Tryz.underlying3 h1
      obtain ⟨q, hq, _, _⟩ := DataW.trod_int Tryz.underlying3 h2
      have hz' : c0 = .int .i64 z := by simpa [hci] using hz
      have hs' : c1 = .int .i64 s := by simpa [hci] using hs
      have hq' : c2 = .int .i64 q := by simpa [hci] using hq
      rw [Addr.add_add] at e0 e1 e2
      exact ⟨(z, s, q), by rw [← hz']; exact e0, by rw [← hs']; exact e1, by rw [← hq']; exact e2⟩
    obtain ⟨y, he0, _, _⟩ := hel 0 (by omega)
    have hspot : a.spot = none := by simpa [Addr.add] using World.cell?_spot he0
    have hblk : a.block < W.heap.size := by simpa [Addr.add] using Dk.cell_block he0
    obtain ⟨bk, off, spot⟩ := a
    simp only at hspot hblk
    subst hspot
    obtain ⟨f, hfs⟩ := Classical.skolem.1 (show ∀ i, ∃ y : At, i < l → W.cell? (Addr.add ⟨bk, off, none⟩ (i * 3)) = some (.int .i64 y.1) ∧ W.cell? (Addr.add ⟨bk, off, none⟩ (i * 3 + 1)) = some (.int .i64 y.2.1) ∧ W.cell? (Addr.add ⟨bk, off, none⟩ (i * 3 + 2)) = some (.int .i64 y.2.2) from fun i => by
      by_cases hil : i < l
      · obtain ⟨y, hy⟩ := hel i hil
        exact ⟨y, fun _ => hy⟩
      · exact ⟨a0, fun h => absurd h hil⟩)
    have hlen : ((List.range l).map f).length = l := by simp
    refine ⟨(List.range l).map f, by rw [hlen]; omega, some ⟨bk, off, none⟩, m, by rw [hlen], fun _ => ⟨bk, off, rfl, hblk, fun j hj => ?_⟩⟩
    rw [hlen] at hj
    obtain ⟨q0, q1, q2⟩ := hfs j hj
    rw [Addr.add_lit] at q0 q1 q2
    have e : ((List.range l).map f).getD j a0 = f j := by
      rw [List.getD_eq_getElem?_getD, List.getElem?_map, List.getElem?_range hj]; rfl
    rw [e]
    exact ⟨q0, q1, q2⟩
end Go.Proofs.YthppbcnejapbiaaGreatDoor.Ae

-- YthppbcnejapbiaaGreatDoorAeF
/- The uniform face of a slice of entries: what it holds, owns, costs, its marks. Conditions: as each theorem types them. -/
namespace Go.Proofs.YthppbcnejapbiaaGreatDoor.AeF
open Go.ChangeShapes Go.WideShapes Go.ChangeAt Go.RowKit Go.Deep
open Foot
open AclV (At a0)
set_option linter.unusedVariables false

abbrev L := List At
def Holds (w : World) (v : Value) (l : List At) : Prop := Ae.Holds w v l
theorem holds_below {w w' : World} {v : Value} {l : List At} (h : Holds w v l) (hb : Below w.heap.size w w') : Holds w' v l := Ae.holds_below h hb
theorem form {w : World} {v : Value} {l : List At} (h : Holds w v l) : ∃ a c, v = .slice a l.length c := by
  obtain ⟨a, c, rfl, _⟩ := h
  exact ⟨a, c, rfl⟩
def Own (w : World) (base : Nat) (v : Value) (l : List At) (S : List Nat) : Prop := w.ownsRow base 161 3 v l.length (Ae.cells l) ∧ S = fpR v
theorem own_holds {w : World} {base : Nat} {v : Value} {l : List At} {S : List Nat} (h : Own w base v l S) : Holds w v l := Ae.holds_of_own h.1
theorem own_chg {w w' : World} {base : Nat} {v : Value} {l : List At} {S T : List Nat} (h : Own w base v l S) (hc : Chg w w' T) (ha : Apart S T) : Own w' base v l S := ⟨row_chg h.1 hc (by rw [← h.2]; exact ha), h.2⟩
theorem own_below {w w' : World} {base : Nat} {v : Value} {l : List At} {S : List Nat} (h : Own w base v l S) (hb : Below w.heap.size w w') : Own w' base v l S := ⟨row_below h.1 hb, h.2⟩
theorem own_mono {w : World} {base base' : Nat} {v : Value} {l : List At} {S : List Nat} (h : Own w base v l S) (hb : base' ≤ base) : Own w base' v l S := ⟨row_mono h.1 hb, h.2⟩
theorem own_lies {w : World} {base : Nat} {v : Value} {l : List At} {S : List Nat} (h : Own w base v l S) : Lies S base w.heap.size := by rw [h.2]; exact row_lies h.1
theorem own_nodup {w : World} {base : Nat} {v : Value} {l : List At} {S : List Nat} (h : Own w base v l S) : S.Nodup := by rw [h.2]; exact fpR_nodup v
theorem own_form {w : World} {base : Nat} {v : Value} {l : List At} {S : List Nat} (h : Own w base v l S) : ∃ a c, v = .slice a l.length c := Dk.slice_of h.1
theorem own_set {w : World} {base : Nat} {v : Value} {l : List At} {S : List Nat} (h : Own w base v l S) {a : Addr} (ha : a.block < base) (u : Value) : Own (w.setCell a u) base v l S := ⟨ownsRow_setCell_below h.1 ha u, h.2⟩
def Lim (l : List At) : Prop := l.length ≤ maxLen
def cost (l : List At) : Nat := l.length
theorem sz_any (w : World) (v : Value) (l : List At) (left : Nat) (hleft : left ≤ 1073741824) (hl : Lim l) (h : Holds w v l) :
    Calls Tryz.prog 142 #[v, .int .i64 left] w fun e w' => e = .returned (.int .i64 (costOf (cost l) left)) ∧ Below w.heap.size w w' := Ae.sz_any w v l left hleft hl h
theorem to_any (w : World) (v : Value) (l : List At) (hc : cost l ≤ 1073741824) (h : Holds w v l) :
    Calls Tryz.prog 143 #[v] w fun e w' => ∃ v' S, e = .returned v' ∧ Own w' w.heap.size v' l S ∧ Below w.heap.size w w' :=
  (Ae.to_any w v l hc h).mono fun e w' ⟨v', he, ho, hb⟩ => ⟨v', _, he, ⟨ho, rfl⟩, hb⟩
theorem eq_any (w : World) (va vb : Value) (l : List At) (hc : cost l ≤ 1073741824) (h : Holds w va l) (h' : Holds w vb l) :
    Calls Tryz.prog 148 #[va, vb] w fun e w' => e = .returned (.bool true) ∧ Below w.heap.size w w' := Ae.eq_any w va vb l hc h h'
def marks (k : Nat) (l : List At) : List At := Ae.marks k l.length
def wid (l : List At) : Nat := 3 * l.length
theorem wid_cost (l : List At) : wid l ≤ 3 * cost l := by unfold cost wid; omega
theorem wid_le {l : List At} (h : cost l ≤ 1048576) : 1 + wid l ≤ 1073741824 := by unfold cost at h; unfold wid; omega
theorem marks_length (k : Nat) (l : List At) : (marks k l).length = l.length := Ae.marks_length k l.length
theorem mark_any (w : World) (base : Nat) (v : Value) (l : List At) (S : List Nat) (k : Nat) (hk : 1 ≤ k) (hn : k + wid l ≤ 1073741824) (h : Own w base v l S) :
    Calls Tryz.prog 108 #[v, .int .i64 k] w fun e w' => e = .returned (.int .i64 (k + wid l : Nat)) ∧ Own w' base v (marks k l) S ∧ Chg w w' S := by
  obtain ⟨hown, rfl⟩ := h
  refine (Ae.mark_all w base v l.length k l hk hn hown).mono ?_
  rintro e w' ⟨rfl, ho, hg⟩
  exact ⟨by congr 2, ⟨by rw [marks_length]; exact ho, rfl⟩, Chg.of_grown hg⟩
theorem held_any (w : World) (v : Value) (l : List At) (k : Nat) (hk : 1 ≤ k) (hn : k + wid l ≤ 1073741824) (h : Holds w v (marks k l)) :
    Calls Tryz.prog 127 #[v, .int .i64 k] w fun e w' => e = .returned (.int .i64 (k + wid l : Nat)) ∧ Below w.heap.size w w' := by
  refine (Ae.held_all w v l.length k hk hn h).mono ?_
  rintro e w' ⟨rfl, hb⟩
  exact ⟨by congr 2, hb⟩
/-- What cells that read as a list of entries hold. -/
theorem in_cell {H : Type} {enc : TypeId × Value → H} {W : World} {fuel : Nat} {v : Value} {x : DataW H × List MemPlace} (hf : DataW.trod enc Tryz.prog W 0 (fun _ => true) true fuel 109 [v] = some x) :
    ∃ l : List At, Lim l ∧ Holds W v l := Ae.ents_of hf
set_option maxRecDepth 100000 in
theorem in_any {H : Type} {enc : TypeId × Value → H} {W : World} {b0 : Nat} {v : Value} {x : DataW H} {p : List MemPlace} (hv : Value.okWide Tryz.prog W .any b0 109 v) (h : DataW.Trod enc Tryz.prog W 0 (fun _ => true) true 109 v x p) :
    ∃ l : List At, Lim l ∧ Holds W v l := by
  obtain ⟨a1, l0, c0, rfl⟩ := okWide_slice Tryz.underlying109 hv
  obtain ⟨fuel, hf⟩ := h
  exact in_cell hf
end Go.Proofs.YthppbcnejapbiaaGreatDoor.AeF

-- YthppbcnejapbiaaGreatDoorBx
/- A variable of a struct's type in its box, of whatever cells: what its block holds behind stores, calls and new blocks. No condition of its own. -/
namespace Go.Proofs.YthppbcnejapbiaaGreatDoor.Bx
open Go.ChangeShapes Go.WideShapes Go.ChangeAt Go.RowKit
set_option linter.unusedVariables false

/-- Block b is a variable's box, which holds these cells. -/
def Bk (w : World) (b : Nat) (cs : Array Value) (t : TypeId) : Prop := w.heap[b]? = some (.cells cs t (0, 0))
theorem new (w : World) (cs : Array Value) (t : TypeId) : Bk (w.alloc (.cells cs t)) w.heap.size cs t := World.alloc_heap_new w _
theorem new_at (w : World) (cs : Array Value) (t : TypeId) (n : Nat) (hn : n = w.heap.size) : Bk (w.alloc (.cells cs t)) n cs t := by subst hn; exact new w cs t
theorem Bk.lt {w : World} {b : Nat} {cs : Array Value} {t : TypeId} (h : Bk w b cs t) : b < w.heap.size := (Array.getElem?_eq_some_iff.1 h).1
theorem Bk.below {w w' : World} {b B : Nat} {cs : Array Value} {t : TypeId} (h : Bk w b cs t) (hb : Below B w w') (hB : b < B) : Bk w' b cs t := (hb.block b hB).trans h
theorem Bk.all {w w' : World} {b : Nat} {cs : Array Value} {t : TypeId} (h : Bk w b cs t) (hb : Below w.heap.size w w') : Bk w' b cs t := h.below hb h.lt
theorem Bk.alloc {w : World} {b : Nat} {cs : Array Value} {t : TypeId} (h : Bk w b cs t) (o : Obj) : Bk (w.alloc o) b cs t := (Below.heap_alloc w o b h.lt).trans h
theorem Bk.grown {w w' : World} {row : Option Nat} {b : Nat} {cs : Array Value} {t : TypeId} (h : Bk w b cs t) (hg : w.grownBy w' row) (hne : some b ≠ row) : Bk w' b cs t := (hg.block b h.lt hne).trans h
theorem Bk.far {w : World} {b : Nat} {cs : Array Value} {t : TypeId} (h : Bk w b cs t) {p : Addr} (hp : b ≠ p.block) (u : Value) : Bk (w.setCell p u) b cs t := (Below.heap_setCell w p u b hp).trans h
theorem Bk.set {w : World} {b : Nat} {cs : Array Value} {t : TypeId} (h : Bk w b cs t) (i : Nat) (u : Value) : Bk (w.setCell ⟨b, i, none⟩ u) b (cs.setIfInBounds i u) t := Joins.block_setCell h u
/-- A store, the cells written as a list. -/
theorem Bk.put {w : World} {b : Nat} {l : List Value} {t : TypeId} (h : Bk w b l.toArray t) (i : Nat) (u : Value) : Bk (w.setCell ⟨b, i, none⟩ u) b (l.set i u).toArray t := by
  have := h.set i u
  rwa [List.setIfInBounds_toArray] at this
theorem Bk.cell {w : World} {b : Nat} {cs : Array Value} {t : TypeId} (h : Bk w b cs t) (i : Nat) : w.cell? ⟨b, i, none⟩ = cs[i]? := Joins.cell_of_block h i
theorem Bk.free {w : World} {b : Nat} {cs : Array Value} {t : TypeId} (h : Bk w b cs t) (i : Nat) : w.frozen? ⟨b, i, none⟩ = false := Joins.unfrozen_of_block h i
theorem Bk.drew {w : World} {b : Nat} {cs : Array Value} {t : TypeId} (h : Bk w b cs t) : Bk w.drew b cs t := h
theorem Bk.two {w : World} {b : Nat} {x y : Value} {t : TypeId} (h : Bk w b #[x, y] t) : w.cell? ⟨b, 0, none⟩ = some x ∧ w.cell? ⟨b, 1, none⟩ = some y := ⟨by rw [h.cell]; rfl, by rw [h.cell]; rfl⟩
/-- Three cells. -/
theorem Bk.three {w : World} {b : Nat} {x y z : Value} {t : TypeId} (h : Bk w b #[x, y, z] t) : w.cell? ⟨b, 0, none⟩ = some x ∧ w.cell? ⟨b, 1, none⟩ = some y ∧ w.cell? ⟨b, 2, none⟩ = some z :=
  ⟨by rw [h.cell]; rfl, by rw [h.cell]; rfl, by rw [h.cell]; rfl⟩
theorem Bk.frees {w : World} {b : Nat} {x y z : Value} {t : TypeId} (h : Bk w b #[x, y, z] t) : w.frozen? ⟨b, 0, none⟩ = false ∧ w.frozen? ⟨b, 1, none⟩ = false ∧ w.frozen? ⟨b, 2, none⟩ = false := ⟨h.free 0, h.free 1, h.free 2⟩
theorem Bk.c4 {w : World} {b : Nat} {x0 x1 x2 x3 : Value} {t : TypeId} (h : Bk w b #[x0, x1, x2, x3] t) : w.cell? ⟨b, 0, none⟩ = some x0 ∧ w.cell? ⟨b, 1, none⟩ = some x1 ∧ w.cell? ⟨b, 2, none⟩ = some x2 ∧ w.cell? ⟨b, 3, none⟩ = some x3 := ⟨h.cell 0, h.cell 1, h.cell 2, h.cell 3⟩
theorem Bk.c5 {w : World} {b : Nat} {x0 x1 x2 x3 x4 : Value} {t : TypeId} (h : Bk w b #[x0, x1, x2, x3, x4] t) : w.cell? ⟨b, 0, none⟩ = some x0 ∧ w.cell? ⟨b, 1, none⟩ = some x1 ∧ w.cell? ⟨b, 2, none⟩ = some x2 ∧ w.cell? ⟨b, 3, none⟩ = some x3 ∧ w.cell? ⟨b, 4, none⟩ = some x4 := ⟨h.cell 0, h.cell 1, h.cell 2, h.cell 3, h.cell 4⟩
theorem Bk.c6 {w : World} {b : Nat} {x0 x1 x2 x3 x4 x5 : Value} {t : TypeId} (h : Bk w b #[x0, x1, x2, x3, x4, x5] t) : w.cell? ⟨b, 0, none⟩ = some x0 ∧ w.cell? ⟨b, 1, none⟩ = some x1 ∧ w.cell? ⟨b, 2, none⟩ = some x2 ∧ w.cell? ⟨b, 3, none⟩ = some x3 ∧ w.cell? ⟨b, 4, none⟩ = some x4 ∧ w.cell? ⟨b, 5, none⟩ = some x5 := ⟨h.cell 0, h.cell 1, h.cell 2, h.cell 3, h.cell 4, h.cell 5⟩
theorem Bk.c7 {w : World} {b : Nat} {x0 x1 x2 x3 x4 x5 x6 : Value} {t : TypeId} (h : Bk w b #[x0, x1, x2, x3, x4, x5, x6] t) : w.cell? ⟨b, 0, none⟩ = some x0 ∧ w.cell? ⟨b, 1, none⟩ = some x1 ∧ w.cell? ⟨b, 2, none⟩ = some x2 ∧ w.cell? ⟨b, 3, none⟩ = some x3 ∧ w.cell? ⟨b, 4, none⟩ = some x4 ∧ w.cell? ⟨b, 5, none⟩ = some x5 ∧ w.cell? ⟨b, 6, none⟩ = some x6 := ⟨h.cell 0, h.cell 1, h.cell 2, h.cell 3, h.cell 4, h.cell 5, h.cell 6⟩
theorem Bk.c8 {w : World} {b : Nat} {x0 x1 x2 x3 x4 x5 x6 x7 : Value} {t : TypeId} (h : Bk w b #[x0, x1, x2, x3, x4, x5, x6, x7] t) : w.cell? ⟨b, 0, none⟩ = some x0 ∧ w.cell? ⟨b, 1, none⟩ = some x1 ∧ w.cell? ⟨b, 2, none⟩ = some x2 ∧ w.cell? ⟨b, 3, none⟩ = some x3 ∧ w.cell? ⟨b, 4, none⟩ = some x4 ∧ w.cell? ⟨b, 5, none⟩ = some x5 ∧ w.cell? ⟨b, 6, none⟩ = some x6 ∧ w.cell? ⟨b, 7, none⟩ = some x7 := ⟨h.cell 0, h.cell 1, h.cell 2, h.cell 3, h.cell 4, h.cell 5, h.cell 6, h.cell 7⟩
theorem Bk.c9 {w : World} {b : Nat} {x0 x1 x2 x3 x4 x5 x6 x7 x8 : Value} {t : TypeId} (h : Bk w b #[x0, x1, x2, x3, x4, x5, x6, x7, x8] t) : w.cell? ⟨b, 0, none⟩ = some x0 ∧ w.cell? ⟨b, 1, none⟩ = some x1 ∧ w.cell? ⟨b, 2, none⟩ = some x2 ∧ w.cell? ⟨b, 3, none⟩ = some x3 ∧ w.cell? ⟨b, 4, none⟩ = some x4 ∧ w.cell? ⟨b, 5, none⟩ = some x5 ∧ w.cell? ⟨b, 6, none⟩ = some x6 ∧ w.cell? ⟨b, 7, none⟩ = some x7 ∧ w.cell? ⟨b, 8, none⟩ = some x8 := ⟨h.cell 0, h.cell 1, h.cell 2, h.cell 3, h.cell 4, h.cell 5, h.cell 6, h.cell 7, h.cell 8⟩
theorem Bk.c10 {w : World} {b : Nat} {x0 x1 x2 x3 x4 x5 x6 x7 x8 x9 : Value} {t : TypeId} (h : Bk w b #[x0, x1, x2, x3, x4, x5, x6, x7, x8, x9] t) : w.cell? ⟨b, 0, none⟩ = some x0 ∧ w.cell? ⟨b, 1, none⟩ = some x1 ∧ w.cell? ⟨b, 2, none⟩ = some x2 ∧ w.cell? ⟨b, 3, none⟩ = some x3 ∧ w.cell? ⟨b, 4, none⟩ = some x4 ∧ w.cell? ⟨b, 5, none⟩ = some x5 ∧ w.cell? ⟨b, 6, none⟩ = some x6 ∧ w.cell? ⟨b, 7, none⟩ = some x7 ∧ w.cell? ⟨b, 8, none⟩ = some x8 ∧ w.cell? ⟨b, 9, none⟩ = some x9 := ⟨h.cell 0, h.cell 1, h.cell 2, h.cell 3, h.cell 4, h.cell 5, h.cell 6, h.cell 7, h.cell 8, h.cell 9⟩
theorem Bk.c11 {w : World} {b : Nat} {x0 x1 x2 x3 x4 x5 x6 x7 x8 x9 x10 : Value} {t : TypeId} (h : Bk w b #[x0, x1, x2, x3, x4, x5, x6, x7, x8, x9, x10] t) : w.cell? ⟨b, 0, none⟩ = some x0 ∧ w.cell? ⟨b, 1, none⟩ = some x1 ∧ w.cell? ⟨b, 2, none⟩ = some x2 ∧ w.cell? ⟨b, 3, none⟩ = some x3 ∧ w.cell? ⟨b, 4, none⟩ = some x4 ∧ w.cell? ⟨b, 5, none⟩ = some x5 ∧ w.cell? ⟨b, 6, none⟩ = some x6 ∧ w.cell? ⟨b, 7, none⟩ = some x7 ∧ w.cell? ⟨b, 8, none⟩ = some x8 ∧ w.cell? ⟨b, 9, none⟩ = some x9 ∧ w.cell? ⟨b, 10, none⟩ = some x10 := ⟨h.cell 0, h.cell 1, h.cell 2, h.cell 3, h.cell 4, h.cell 5, h.cell 6, h.cell 7, h.cell 8, h.cell 9, h.cell 10⟩
theorem Bk.c12 {w : World} {b : Nat} {x0 x1 x2 x3 x4 x5 x6 x7 x8 x9 x10 x11 : Value} {t : TypeId} (h : Bk w b #[x0, x1, x2, x3, x4, x5, x6, x7, x8, x9, x10, x11] t) : w.cell? ⟨b, 0, none⟩ = some x0 ∧ w.cell? ⟨b, 1, none⟩ = some x1 ∧ w.cell? ⟨b, 2, none⟩ = some x2 ∧ w.cell? ⟨b, 3, none⟩ = some x3 ∧ w.cell? ⟨b, 4, none⟩ = some x4 ∧ w.cell? ⟨b, 5, none⟩ = some x5 ∧ w.cell? ⟨b, 6, none⟩ = some x6 ∧ w.cell? ⟨b, 7, none⟩ = some x7 ∧ w.cell? ⟨b, 8, none⟩ = some x8 ∧ w.cell? ⟨b, 9, none⟩ = some x9 ∧ w.cell? ⟨b, 10, none⟩ = some x10 ∧ w.cell? ⟨b, 11, none⟩ = some x11 := ⟨h.cell 0, h.cell 1, h.cell 2, h.cell 3, h.cell 4, h.cell 5, h.cell 6, h.cell 7, h.cell 8, h.cell 9, h.cell 10, h.cell 11⟩
end Go.Proofs.YthppbcnejapbiaaGreatDoor.Bx

-- YthppbcnejapbiaaGreatDoorIn
/- Contracts and plain facts that a law of this seat leans on. Conditions: as each theorem types them. -/
namespace Go.Proofs.YthppbcnejapbiaaGreatDoor.In
open Go.ChangeShapes Go.WideShapes Go.ChangeAt Go.RowKit Go.Deep
open Foot Bx
open Strs (ret_int)
set_option linter.unusedVariables false

abbrev L := InoV.I
/-- The value, its fields in their cells. -/
def agg (n : L) (r0 r1 r2 : Value) : Value := .agg #[.int .i64 n.kind, .int .i64 n.mode, .int .i64 n.uid, .int .i64 n.gid, .int .i64 n.links, .int .i64 n.size, .int .i64 n.tick, r0, r1, r2]
def Holds (w : World) (v : Value) (n : L) : Prop := ∃ r0 r1 r2 : Value, v = .agg #[.int .i64 n.kind, .int .i64 n.mode, .int .i64 n.uid, .int .i64 n.gid, .int .i64 n.links, .int .i64 n.size, .int .i64 n.tick, r0, r1, r2] ∧ NiF.Holds w r0 n.blocks ∧ AeF.Holds w r1 n.acl ∧ AeF.Holds w r2 n.dflt
theorem holds_below {w w' : World} {v : Value} {n : L} (h : Holds w v n) (hb : Below w.heap.size w w') : Holds w' v n := by
  obtain ⟨r0, r1, r2, e, h0, h1, h2⟩ := h
  exact ⟨r0, r1, r2, e, NiF.holds_below h0 hb, AeF.holds_below h1 hb, AeF.holds_below h2 hb⟩
/-- Its cells. -/
theorem form {w : World} {v : Value} {n : L} (h : Holds w v n) : ∃ (c0 : Int) (c1 : Int) (c2 : Int) (c3 : Int) (c4 : Int) (c5 : Int) (c6 : Int) (c7a : Option Addr) (c7n c7c : Nat) (c8a : Option Addr) (c8n c8c : Nat) (c9a : Option Addr) (c9n c9c : Nat), v = .agg #[.int .i64 c0, .int .i64 c1, .int .i64 c2, .int .i64 c3, .int .i64 c4, .int .i64 c5, .int .i64 c6, .slice c7a c7n c7c, .slice c8a c8n c8c, .slice c9a c9n c9c] := by
  obtain ⟨r0, r1, r2, rfl, h0, h1, h2⟩ := h
  obtain ⟨a0, d0, rfl⟩ := NiF.form h0
  obtain ⟨a1, d1, rfl⟩ := AeF.form h1
  obtain ⟨a2, d2, rfl⟩ := AeF.form h2
  exact ⟨_, _, _, _, _, _, _, _, _, _, _, _, _, _, _, _, rfl⟩
/-- The call owns the value's slices: their blocks, in order, are S. -/
def Own (w : World) (base : Nat) (v : Value) (n : L) (S : List Nat) : Prop := ∃ (r0 r1 r2 : Value) (S0 S1 S2 : List Nat), v = .agg #[.int .i64 n.kind, .int .i64 n.mode, .int .i64 n.uid, .int .i64 n.gid, .int .i64 n.links, .int .i64 n.size, .int .i64 n.tick, r0, r1, r2] ∧ S = S0 ++ S1 ++ S2 ∧ S.Nodup ∧ NiF.Own w base r0 n.blocks S0 ∧ AeF.Own w base r1 n.acl S1 ∧ AeF.Own w base r2 n.dflt S2
section
variable {w w' : World} {base : Nat} {v : Value} {n : L} {S T : List Nat}
theorem own_holds (h : Own w base v n S) : Holds w v n := by
  obtain ⟨r0, r1, r2, S0, S1, S2, rfl, rfl, hnd, h0, h1, h2⟩ := h
  exact ⟨r0, r1, r2, rfl, NiF.own_holds h0, AeF.own_holds h1, AeF.own_holds h2⟩
theorem own_chg (h : Own w base v n S) (hc : Chg w w' T) (ha : Apart S T) : Own w' base v n S := by
  obtain ⟨r0, r1, r2, S0, S1, S2, rfl, rfl, hnd, h0, h1, h2⟩ := h
  simp only [apart_app] at ha
  exact ⟨r0, r1, r2, S0, S1, S2, rfl, rfl, hnd, NiF.own_chg h0 hc ha.1.1, AeF.own_chg h1 hc ha.1.2, AeF.own_chg h2 hc ha.2⟩
theorem own_below (h : Own w base v n S) (hb : Below w.heap.size w w') : Own w' base v n S := own_chg h (Chg.of_below hb (Nat.le_refl _) []) (fun k _ hh => by cases hh)
theorem own_mono {base' : Nat} (h : Own w base v n S) (hb : base' ≤ base) : Own w base' v n S := by
  obtain ⟨r0, r1, r2, S0, S1, S2, rfl, rfl, hnd, h0, h1, h2⟩ := h
  exact ⟨r0, r1, r2, S0, S1, S2, rfl, rfl, hnd, NiF.own_mono h0 hb, AeF.own_mono h1 hb, AeF.own_mono h2 hb⟩
theorem own_lies (h : Own w base v n S) : Lies S base w.heap.size := by
  obtain ⟨r0, r1, r2, S0, S1, S2, rfl, rfl, hnd, h0, h1, h2⟩ := h
  exact (((NiF.own_lies h0).app (AeF.own_lies h1)).app (AeF.own_lies h2))
theorem own_nodup (h : Own w base v n S) : S.Nodup := by
  obtain ⟨r0, r1, r2, S0, S1, S2, rfl, rfl, hnd, h0, h1, h2⟩ := h
  exact hnd
theorem own_set (h : Own w base v n S) {a : Addr} (ha : a.block < base) (u : Value) : Own (w.setCell a u) base v n S := by
  obtain ⟨r0, r1, r2, S0, S1, S2, rfl, rfl, hnd, h0, h1, h2⟩ := h
  exact ⟨r0, r1, r2, S0, S1, S2, rfl, rfl, hnd, NiF.own_set h0 ha u, AeF.own_set h1 ha u, AeF.own_set h2 ha u⟩
end
theorem own_form {w : World} {base : Nat} {v : Value} {n : L} {S : List Nat} (h : Own w base v n S) : ∃ (c0 : Int) (c1 : Int) (c2 : Int) (c3 : Int) (c4 : Int) (c5 : Int) (c6 : Int) (c7a : Option Addr) (c7n c7c : Nat) (c8a : Option Addr) (c8n c8c : Nat) (c9a : Option Addr) (c9n c9c : Nat), v = .agg #[.int .i64 c0, .int .i64 c1, .int .i64 c2, .int .i64 c3, .int .i64 c4, .int .i64 c5, .int .i64 c6, .slice c7a c7n c7c, .slice c8a c8n c8c, .slice c9a c9n c9c] := form (own_holds h)
/-- Its numbers are ints of 64 bits, its slices no longer than memory. -/
structure Lim (n : L) : Prop where
  kind : Rg n.kind
  mode : Rg n.mode
  uid : Rg n.uid
  gid : Rg n.gid
  links : Rg n.links
  size : Rg n.size
  tick : Rg n.tick
  blocks : NiF.Lim n.blocks
  acl : AeF.Lim n.acl
  dflt : AeF.Lim n.dflt
def cost (n : L) : Nat := NiF.cost n.blocks + AeF.cost n.acl + AeF.cost n.dflt
theorem le_blocks (n : L) : NiF.cost n.blocks ≤ cost n := by unfold cost; omega
theorem le_acl (n : L) : AeF.cost n.acl ≤ cost n := by unfold cost; omega
theorem le_dflt (n : L) : AeF.cost n.dflt ≤ cost n := by unfold cost; omega

set_option maxRecDepth 100000 in
set_option maxHeartbeats 1600000 in
theorem sz_any (w : World) (v : Value) (n : L) (left : Nat) (hleft : left ≤ 1073741824) (hl : Lim n) (h : Holds w v n) :
    Calls Tryz.prog 92 #[v, .int .i64 left] w fun e w' => e = .returned (.int .i64 (costOf (cost n) left)) ∧ Below w.heap.size w w' := by
  obtain ⟨r0, r1, r2, rfl, g0, g1, g2⟩ := h
  have H0 := Lib.hid g0
  have H1 := Lib.hid g1
  have H2 := Lib.hid g2
  have HL := Lib.hid hl
  have HC := Lib.hid (show cost n = NiF.cost n.blocks + AeF.cost n.acl + AeF.cost n.dflt from rfl)
  have HB := Lib.hid ((Below.refl w.heap.size w).alloc (Nat.le_refl _) (.cells #[.int .i64 n.kind, .int .i64 n.mode, .int .i64 n.uid, .int .i64 n.gid, .int .i64 n.links, .int .i64 n.size, .int .i64 n.tick, r0, r1, r2] 111))
  have HX := Lib.hid (new w #[.int .i64 n.kind, .int .i64 n.mode, .int .i64 n.uid, .int .i64 n.gid, .int .i64 n.links, .int .i64 n.size, .int .i64 n.tick, r0, r1, r2] 111)
  clear g0 g1 g2 hl
  by_cases hc0 : NiF.cost n.blocks ≤ left
  · obtain ⟨q0, hq0⟩ : ∃ x, x = left - NiF.cost n.blocks := ⟨_, rfl⟩
    have HZ0 := Lib.hid (show costOf (NiF.cost n.blocks) left = (q0 : Int) by rw [hq0]; exact cost_pos hc0)
    have hle0 : q0 ≤ 1073741824 := by omega
    by_cases hc1 : AeF.cost n.acl ≤ q0
    · obtain ⟨q1, hq1⟩ : ∃ x, x = q0 - AeF.cost n.acl := ⟨_, rfl⟩
      have HZ1 := Lib.hid (show costOf (AeF.cost n.acl) q0 = (q1 : Int) by rw [hq1]; exact cost_pos hc1)
      have hle1 : q1 ≤ 1073741824 := by omega
      by_cases hc2 : AeF.cost n.dflt ≤ q1
      · obtain ⟨q2, hq2⟩ : ∃ x, x = q1 - AeF.cost n.dflt := ⟨_, rfl⟩
        have HZ2 := Lib.hid (show costOf (AeF.cost n.dflt) q1 = (q2 : Int) by rw [hq2]; exact cost_pos hc2)
        have hle2 : q2 ≤ 1073741824 := by omega
        have HV := Lib.hid (show costOf (cost n) left = (q2 : Int) by rw [cost_pos (by rw [HC.out]; omega), HC.out]; omega)
        clear hc0 hq0 hc1 hq1 hc2 hq2
        go_enter Tryz.func92, Tryz.ntmps92
        go_wp2_with fail
        refine (NiF.sz_any _ r0 n.blocks left (by omega) HL.out.blocks (NiF.holds_below H0.out HB.out)).mono ?_
        rintro e w1 ⟨rfl, hb⟩
        rw [HZ0.out]
        have HXN := Lib.hid (HX.out.all hb)
        replace HB := Lib.hid (HB.out.trans (hb.mono HB.out.size))
        clear hb HX
        have HX := HXN
        clear HXN
        have c0 := HX.out.cell 8
        simp only [List.getElem?_toArray, List.getElem?_cons_succ, List.getElem?_cons_zero] at c0
        go_wp2_with fail
        refine (AeF.sz_any _ r1 n.acl q0 (by omega) HL.out.acl (AeF.holds_below H1.out HB.out)).mono ?_
        rintro e w1 ⟨rfl, hb⟩
        rw [HZ1.out]
        have HXN := Lib.hid (HX.out.all hb)
        replace HB := Lib.hid (HB.out.trans (hb.mono HB.out.size))
        clear hb HX
        have HX := HXN
        clear HXN
        have c1 := HX.out.cell 9
        simp only [List.getElem?_toArray, List.getElem?_cons_succ, List.getElem?_cons_zero] at c1
        go_wp2_with fail
        refine (AeF.sz_any _ r2 n.dflt q1 (by omega) HL.out.dflt (AeF.holds_below H2.out HB.out)).mono ?_
        rintro e w1 ⟨rfl, hb⟩
        rw [HZ2.out]
        have HXN := Lib.hid (HX.out.all hb)
        replace HB := Lib.hid (HB.out.trans (hb.mono HB.out.size))
        clear hb HX
        have HX := HXN
        clear HXN
        go_wp2
        go_ret
        exact ⟨ret_int (by rw [HV.out]), HB.out⟩
      · have HZ2 := Lib.hid (cost_neg hc2)
        have HV := Lib.hid (show costOf (cost n) left = -1 from cost_neg (by rw [HC.out]; omega))
        clear hc0 hc1 hc2 hq0 hq1
        go_enter Tryz.func92, Tryz.ntmps92
        go_wp2_with fail
        refine (NiF.sz_any _ r0 n.blocks left (by omega) HL.out.blocks (NiF.holds_below H0.out HB.out)).mono ?_
        rintro e w1 ⟨rfl, hb⟩
        rw [HZ0.out]
        have HXN := Lib.hid (HX.out.all hb)
        replace HB := Lib.hid (HB.out.trans (hb.mono HB.out.size))
        clear hb HX
        have HX := HXN
        clear HXN
        have c0 := HX.out.cell 8
        simp only [List.getElem?_toArray, List.getElem?_cons_succ, List.getElem?_cons_zero] at c0
        go_wp2_with fail
        refine (AeF.sz_any _ r1 n.acl q0 (by omega) HL.out.acl (AeF.holds_below H1.out HB.out)).mono ?_
        rintro e w1 ⟨rfl, hb⟩
        rw [HZ1.out]
        have HXN := Lib.hid (HX.out.all hb)
        replace HB := Lib.hid (HB.out.trans (hb.mono HB.out.size))
        clear hb HX
        have HX := HXN
        clear HXN
        have c1 := HX.out.cell 9
        simp only [List.getElem?_toArray, List.getElem?_cons_succ, List.getElem?_cons_zero] at c1
        go_wp2_with fail
        refine (AeF.sz_any _ r2 n.dflt q1 (by omega) HL.out.dflt (AeF.holds_below H2.out HB.out)).mono ?_
        rintro e w1 ⟨rfl, hb⟩
        rw [HZ2.out]
        have HXN := Lib.hid (HX.out.all hb)
        replace HB := Lib.hid (HB.out.trans (hb.mono HB.out.size))
        clear hb HX
        have HX := HXN
        clear HXN
        go_wp2
        go_ret
        exact ⟨ret_int (by rw [HV.out]), HB.out⟩
    · have HZ1 := Lib.hid (cost_neg hc1)
      have HV := Lib.hid (show costOf (cost n) left = -1 from cost_neg (by rw [HC.out]; omega))
      clear hc0 hc1 hq0
      go_enter Tryz.func92, Tryz.ntmps92
      go_wp2_with fail
      refine (NiF.sz_any _ r0 n.blocks left (by omega) HL.out.blocks (NiF.holds_below H0.out HB.out)).mono ?_
      rintro e w1 ⟨rfl, hb⟩
      rw [HZ0.out]
      have HXN := Lib.hid (HX.out.all hb)
      replace HB := Lib.hid (HB.out.trans (hb.mono HB.out.size))
      clear hb HX
      have HX := HXN
      clear HXN
      have c0 := HX.out.cell 8
      simp only [List.getElem?_toArray, List.getElem?_cons_succ, List.getElem?_cons_zero] at c0
      go_wp2_with fail
      refine (AeF.sz_any _ r1 n.acl q0 (by omega) HL.out.acl (AeF.holds_below H1.out HB.out)).mono ?_
      rintro e w1 ⟨rfl, hb⟩
      rw [HZ1.out]
      have HXN := Lib.hid (HX.out.all hb)
      replace HB := Lib.hid (HB.out.trans (hb.mono HB.out.size))
      clear hb HX
      have HX := HXN
      clear HXN
      go_wp2
      go_ret
      exact ⟨ret_int (by rw [HV.out]), HB.out⟩
  · have HZ0 := Lib.hid (cost_neg hc0)
    have HV := Lib.hid (show costOf (cost n) left = -1 from cost_neg (by rw [HC.out]; omega))
    clear hc0
    go_enter Tryz.func92, Tryz.ntmps92
    go_wp2_with fail
    refine (NiF.sz_any _ r0 n.blocks left (by omega) HL.out.blocks (NiF.holds_below H0.out HB.out)).mono ?_
    rintro e w1 ⟨rfl, hb⟩
    rw [HZ0.out]
    have HXN := Lib.hid (HX.out.all hb)
    replace HB := Lib.hid (HB.out.trans (hb.mono HB.out.size))
    clear hb HX
    have HX := HXN
    clear HXN
    go_wp2
    go_ret
    exact ⟨ret_int (by rw [HV.out]), HB.out⟩

set_option maxRecDepth 100000 in
set_option maxHeartbeats 1600000 in
/-- A copy, in memory of the call's own. -/
theorem to_any (w : World) (v : Value) (n : L) (hc : cost n ≤ 1073741824) (h : Holds w v n) :
    Calls Tryz.prog 94 #[v] w fun e w' => ∃ v' S, e = .returned v' ∧ Own w' w.heap.size v' n S ∧ Below w.heap.size w w' := by
  obtain ⟨r0, r1, r2, rfl, g0, g1, g2⟩ := h
  have H0 := Lib.hid g0
  have H1 := Lib.hid g1
  have H2 := Lib.hid g2
  have hcc : NiF.cost n.blocks + AeF.cost n.acl + AeF.cost n.dflt ≤ 1073741824 := hc
  clear g0 g1 g2 hc
  go_enter Tryz.func94, Tryz.ntmps94
  go_wp2_with fail
  have hb0 := (((Below.refl w.heap.size w).alloc (Nat.le_refl _) (.cells #[.int .i64 n.kind, .int .i64 n.mode, .int .i64 n.uid, .int .i64 n.gid, .int .i64 n.links, .int .i64 n.size, .int .i64 n.tick, r0, r1, r2] 111)).alloc (by simp) (.cells #[.int .i64 0, .int .i64 0, .int .i64 0, .int .i64 0, .int .i64 0, .int .i64 0, .int .i64 0, .slice none 0 0, .slice none 0 0, .slice none 0 0] 89)).alloc (by simp; omega) (.cells #[.int .i64 n.kind, .int .i64 n.mode, .int .i64 n.uid, .int .i64 n.gid, .int .i64 n.links, .int .i64 n.size, .int .i64 n.tick, .slice none 0 0, .slice none 0 0, .slice none 0 0] 89)
  have hA := ((new w #[.int .i64 n.kind, .int .i64 n.mode, .int .i64 n.uid, .int .i64 n.gid, .int .i64 n.links, .int .i64 n.size, .int .i64 n.tick, r0, r1, r2] 111).alloc (.cells #[.int .i64 0, .int .i64 0, .int .i64 0, .int .i64 0, .int .i64 0, .int .i64 0, .int .i64 0, .slice none 0 0, .slice none 0 0, .slice none 0 0] 89)).alloc (.cells #[.int .i64 n.kind, .int .i64 n.mode, .int .i64 n.uid, .int .i64 n.gid, .int .i64 n.links, .int .i64 n.size, .int .i64 n.tick, .slice none 0 0, .slice none 0 0, .slice none 0 0] 89)
  have hR := (new_at (w.alloc (.cells #[.int .i64 n.kind, .int .i64 n.mode, .int .i64 n.uid, .int .i64 n.gid, .int .i64 n.links, .int .i64 n.size, .int .i64 n.tick, r0, r1, r2] 111)) #[.int .i64 0, .int .i64 0, .int .i64 0, .int .i64 0, .int .i64 0, .int .i64 0, .int .i64 0, .slice none 0 0, .slice none 0 0, .slice none 0 0] 89 (w.heap.size + 1) (by simp)).alloc (.cells #[.int .i64 n.kind, .int .i64 n.mode, .int .i64 n.uid, .int .i64 n.gid, .int .i64 n.links, .int .i64 n.size, .int .i64 n.tick, .slice none 0 0, .slice none 0 0, .slice none 0 0] 89)
  have hO := new_at ((w.alloc (.cells #[.int .i64 n.kind, .int .i64 n.mode, .int .i64 n.uid, .int .i64 n.gid, .int .i64 n.links, .int .i64 n.size, .int .i64 n.tick, r0, r1, r2] 111)).alloc (.cells #[.int .i64 0, .int .i64 0, .int .i64 0, .int .i64 0, .int .i64 0, .int .i64 0, .int .i64 0, .slice none 0 0, .slice none 0 0, .slice none 0 0] 89)) #[.int .i64 n.kind, .int .i64 n.mode, .int .i64 n.uid, .int .i64 n.gid, .int .i64 n.links, .int .i64 n.size, .int .i64 n.tick, .slice none 0 0, .slice none 0 0, .slice none 0 0] 89 (w.heap.size + 1 + 1) (by simp)
  generalize hW0 : ((w.alloc (.cells #[.int .i64 n.kind, .int .i64 n.mode, .int .i64 n.uid, .int .i64 n.gid, .int .i64 n.links, .int .i64 n.size, .int .i64 n.tick, r0, r1, r2] 111)).alloc (.cells #[.int .i64 0, .int .i64 0, .int .i64 0, .int .i64 0, .int .i64 0, .int .i64 0, .int .i64 0, .slice none 0 0, .slice none 0 0, .slice none 0 0] 89)).alloc (.cells #[.int .i64 n.kind, .int .i64 n.mode, .int .i64 n.uid, .int .i64 n.gid, .int .i64 n.links, .int .i64 n.size, .int .i64 n.tick, .slice none 0 0, .slice none 0 0, .slice none 0 0] 89) = w0 at hb0 hA hR hO ⊢
  have hsz : w0.heap.size = w.heap.size + 1 + 1 + 1 := by rw [← hW0]; simp
  have hs0 := Nat.le_of_eq hsz.symm
  clear hW0 hsz
  have HB := Lib.hid hb0
  have HA := Lib.hid hA
  have HR := Lib.hid hR
  have HQ := Lib.hid hO
  clear hb0 hA hR hO
  refine (NiF.to_any _ r0 n.blocks (by omega) (NiF.holds_below H0.out HB.out)).mono ?_
  rintro e w1 ⟨y0, S0, rfl, hown, hb⟩
  obtain ⟨a0, d0, rfl⟩ := NiF.own_form hown
  have hs1 := hb.size
  replace HA := Lib.hid (HA.out.all hb)
  replace HR := Lib.hid (HR.out.all hb)
  replace HQ := Lib.hid (HQ.out.all hb)
  replace HB := Lib.hid (HB.out.trans (hb.mono HB.out.size))
  have hlow0 := NiF.own_lies hown
  have HO0 := Lib.hid hown
  have HL0 := Lib.hid hlow0
  clear hown hb hlow0
  have hq0 : w1.cell? ⟨w.heap.size + 1 + 1, 7, none⟩ = some (.slice none 0 0) := HQ.out.cell 7
  have hf0 := HQ.out.free 7
  have hB2 := HB.out.setCell (p := ⟨w.heap.size + 1 + 1, 7, none⟩) (by simp; omega) (.slice a0 n.blocks.length d0)
  have hA2 := HA.out.far (p := ⟨w.heap.size + 1 + 1, 7, none⟩) (by simp; omega) (.slice a0 n.blocks.length d0)
  have hR2 := HR.out.far (p := ⟨w.heap.size + 1 + 1, 7, none⟩) (by simp) (.slice a0 n.blocks.length d0)
  have hQ2 : Bk _ _ #[.int .i64 n.kind, .int .i64 n.mode, .int .i64 n.uid, .int .i64 n.gid, .int .i64 n.links, .int .i64 n.size, .int .i64 n.tick, .slice a0 n.blocks.length d0, .slice none 0 0, .slice none 0 0] _ := HQ.out.put 7 (.slice a0 n.blocks.length d0)
  have hO20 := NiF.own_set HO0.out (a := ⟨w.heap.size + 1 + 1, 7, none⟩) (by simp; omega) (.slice a0 n.blocks.length d0)
  have hn0 := hA2.cell 8
  simp only [List.getElem?_toArray, List.getElem?_cons_succ, List.getElem?_cons_zero] at hn0
  replace HB := Lib.hid hB2
  replace HA := Lib.hid hA2
  replace HR := Lib.hid hR2
  replace HQ := Lib.hid hQ2
  replace HO0 := Lib.hid hO20
  clear hB2 hA2 hR2 hQ2 hO20
  go_wp2_with fail
  clear hq0 hf0 hn0
  refine (AeF.to_any _ r1 n.acl (by omega) (AeF.holds_below H1.out HB.out)).mono ?_
  rintro e w2 ⟨y1, S1, rfl, hown, hb⟩
  obtain ⟨a1, d1, rfl⟩ := AeF.own_form hown
  have hs2 := hb.size
  simp only [World.size_setCell] at hs2
  replace HA := Lib.hid (HA.out.all hb)
  replace HR := Lib.hid (HR.out.all hb)
  replace HQ := Lib.hid (HQ.out.all hb)
  replace HB := Lib.hid (HB.out.trans (hb.mono HB.out.size))
  replace HO0 := Lib.hid (NiF.own_below HO0.out hb)
  have hlow1 := AeF.own_lies hown
  simp only [World.size_setCell] at hown hlow1
  have HO1 := Lib.hid hown
  have HL1 := Lib.hid hlow1
  clear hown hb hlow1
  have hq1 : w2.cell? ⟨w.heap.size + 1 + 1, 8, none⟩ = some (.slice none 0 0) := HQ.out.cell 8
  have hf1 := HQ.out.free 8
  have hB2 := HB.out.setCell (p := ⟨w.heap.size + 1 + 1, 8, none⟩) (by simp; omega) (.slice a1 n.acl.length d1)
  have hA2 := HA.out.far (p := ⟨w.heap.size + 1 + 1, 8, none⟩) (by simp; omega) (.slice a1 n.acl.length d1)
  have hR2 := HR.out.far (p := ⟨w.heap.size + 1 + 1, 8, none⟩) (by simp) (.slice a1 n.acl.length d1)
  have hQ2 : Bk _ _ #[.int .i64 n.kind, .int .i64 n.mode, .int .i64 n.uid, .int .i64 n.gid, .int .i64 n.links, .int .i64 n.size, .int .i64 n.tick, .slice a0 n.blocks.length d0, .slice a1 n.acl.length d1, .slice none 0 0] _ := HQ.out.put 8 (.slice a1 n.acl.length d1)
  have hO20 := NiF.own_set HO0.out (a := ⟨w.heap.size + 1 + 1, 8, none⟩) (by simp; omega) (.slice a1 n.acl.length d1)
  have hO21 := AeF.own_set HO1.out (a := ⟨w.heap.size + 1 + 1, 8, none⟩) (by simp; omega) (.slice a1 n.acl.length d1)
  have hn1 := hA2.cell 9
  simp only [List.getElem?_toArray, List.getElem?_cons_succ, List.getElem?_cons_zero] at hn1
  replace HB := Lib.hid hB2
  replace HA := Lib.hid hA2
  replace HR := Lib.hid hR2
  replace HQ := Lib.hid hQ2
  replace HO0 := Lib.hid hO20
  replace HO1 := Lib.hid hO21
  clear hB2 hA2 hR2 hQ2 hO20 hO21
  go_wp2_with fail
  clear hq1 hf1 hn1
  refine (AeF.to_any _ r2 n.dflt (by omega) (AeF.holds_below H2.out HB.out)).mono ?_
  rintro e w3 ⟨y2, S2, rfl, hown, hb⟩
  obtain ⟨a2, d2, rfl⟩ := AeF.own_form hown
  have hs3 := hb.size
  simp only [World.size_setCell] at hs3
  replace HA := Lib.hid (HA.out.all hb)
  replace HR := Lib.hid (HR.out.all hb)
  replace HQ := Lib.hid (HQ.out.all hb)
  replace HB := Lib.hid (HB.out.trans (hb.mono HB.out.size))
  replace HO0 := Lib.hid (NiF.own_below HO0.out hb)
  replace HO1 := Lib.hid (AeF.own_below HO1.out hb)
  have hlow2 := AeF.own_lies hown
  simp only [World.size_setCell] at hown hlow2
  have HO2 := Lib.hid hown
  have HL2 := Lib.hid hlow2
  clear hown hb hlow2
  have hq2 : w3.cell? ⟨w.heap.size + 1 + 1, 9, none⟩ = some (.slice none 0 0) := HQ.out.cell 9
  have hf2 := HQ.out.free 9
  have rz := HR.out.cell
  have rc0 := rz 0
  have rf0 := HR.out.free 0
  have qc0 := HQ.out.cell 0
  have rc1 := rz 1
  have rf1 := HR.out.free 1
  have qc1 := HQ.out.cell 1
  have rc2 := rz 2
  have rf2 := HR.out.free 2
  have qc2 := HQ.out.cell 2
  have rc3 := rz 3
  have rf3 := HR.out.free 3
  have qc3 := HQ.out.cell 3
  have rc4 := rz 4
  have rf4 := HR.out.free 4
  have qc4 := HQ.out.cell 4
  have rc5 := rz 5
  have rf5 := HR.out.free 5
  have qc5 := HQ.out.cell 5
  have rc6 := rz 6
  have rf6 := HR.out.free 6
  have qc6 := HQ.out.cell 6
  have rc7 := rz 7
  have rf7 := HR.out.free 7
  have qc7 := HQ.out.cell 7
  have rc8 := rz 8
  have rf8 := HR.out.free 8
  have qc8 := HQ.out.cell 8
  have rc9 := rz 9
  have rf9 := HR.out.free 9
  clear rz
  dsimp at rc0 rc1 rc2 rc3 rc4 rc5 rc6 rc7 rc8 rc9 qc0 qc1 qc2 qc3 qc4 qc5 qc6 qc7 qc8
  go_wp2_with fail
  have hF0 := HR.out.far (p := ⟨w.heap.size + 1 + 1, 9, none⟩) (by simp) (.slice a2 n.dflt.length d2)
  have hF1 : Bk _ _ #[.int .i64 n.kind, .int .i64 0, .int .i64 0, .int .i64 0, .int .i64 0, .int .i64 0, .int .i64 0, .slice none 0 0, .slice none 0 0, .slice none 0 0] _ := hF0.put 0 (.int .i64 n.kind)
  clear hF0
  have hF2 : Bk _ _ #[.int .i64 n.kind, .int .i64 n.mode, .int .i64 0, .int .i64 0, .int .i64 0, .int .i64 0, .int .i64 0, .slice none 0 0, .slice none 0 0, .slice none 0 0] _ := hF1.put 1 (.int .i64 n.mode)
  clear hF1
  have hF3 : Bk _ _ #[.int .i64 n.kind, .int .i64 n.mode, .int .i64 n.uid, .int .i64 0, .int .i64 0, .int .i64 0, .int .i64 0, .slice none 0 0, .slice none 0 0, .slice none 0 0] _ := hF2.put 2 (.int .i64 n.uid)
  clear hF2
  have hF4 : Bk _ _ #[.int .i64 n.kind, .int .i64 n.mode, .int .i64 n.uid, .int .i64 n.gid, .int .i64 0, .int .i64 0, .int .i64 0, .slice none 0 0, .slice none 0 0, .slice none 0 0] _ := hF3.put 3 (.int .i64 n.gid)
  clear hF3
  have hF5 : Bk _ _ #[.int .i64 n.kind, .int .i64 n.mode, .int .i64 n.uid, .int .i64 n.gid, .int .i64 n.links, .int .i64 0, .int .i64 0, .slice none 0 0, .slice none 0 0, .slice none 0 0] _ := hF4.put 4 (.int .i64 n.links)
  clear hF4
  have hF6 : Bk _ _ #[.int .i64 n.kind, .int .i64 n.mode, .int .i64 n.uid, .int .i64 n.gid, .int .i64 n.links, .int .i64 n.size, .int .i64 0, .slice none 0 0, .slice none 0 0, .slice none 0 0] _ := hF5.put 5 (.int .i64 n.size)
  clear hF5
  have hF7 : Bk _ _ #[.int .i64 n.kind, .int .i64 n.mode, .int .i64 n.uid, .int .i64 n.gid, .int .i64 n.links, .int .i64 n.size, .int .i64 n.tick, .slice none 0 0, .slice none 0 0, .slice none 0 0] _ := hF6.put 6 (.int .i64 n.tick)
  clear hF6
  have hF8 : Bk _ _ #[.int .i64 n.kind, .int .i64 n.mode, .int .i64 n.uid, .int .i64 n.gid, .int .i64 n.links, .int .i64 n.size, .int .i64 n.tick, .slice a0 n.blocks.length d0, .slice none 0 0, .slice none 0 0] _ := hF7.put 7 (.slice a0 n.blocks.length d0)
  clear hF7
  have hF9 : Bk _ _ #[.int .i64 n.kind, .int .i64 n.mode, .int .i64 n.uid, .int .i64 n.gid, .int .i64 n.links, .int .i64 n.size, .int .i64 n.tick, .slice a0 n.blocks.length d0, .slice a1 n.acl.length d1, .slice none 0 0] _ := hF8.put 8 (.slice a1 n.acl.length d1)
  clear hF8
  have hF10 : Bk _ _ #[.int .i64 n.kind, .int .i64 n.mode, .int .i64 n.uid, .int .i64 n.gid, .int .i64 n.links, .int .i64 n.size, .int .i64 n.tick, .slice a0 n.blocks.length d0, .slice a1 n.acl.length d1, .slice a2 n.dflt.length d2] _ := hF9.put 9 (.slice a2 n.dflt.length d2)
  clear hF9
  have hF := hF10
  clear hF10
  have hB4 := (((((((((((HB.out.setCell (p := ⟨w.heap.size + 1 + 1, 9, none⟩) (by first | (simp; done) | (simp; omega)) (.slice a2 n.dflt.length d2)).setCell (p := ⟨w.heap.size + 1, 0, none⟩) (by first | (simp; done) | (simp; omega)) (.int .i64 n.kind)).setCell (p := ⟨w.heap.size + 1, 1, none⟩) (by first | (simp; done) | (simp; omega)) (.int .i64 n.mode)).setCell (p := ⟨w.heap.size + 1, 2, none⟩) (by first | (simp; done) | (simp; omega)) (.int .i64 n.uid)).setCell (p := ⟨w.heap.size + 1, 3, none⟩) (by first | (simp; done) | (simp; omega)) (.int .i64 n.gid)).setCell (p := ⟨w.heap.size + 1, 4, none⟩) (by first | (simp; done) | (simp; omega)) (.int .i64 n.links)).setCell (p := ⟨w.heap.size + 1, 5, none⟩) (by first | (simp; done) | (simp; omega)) (.int .i64 n.size)).setCell (p := ⟨w.heap.size + 1, 6, none⟩) (by first | (simp; done) | (simp; omega)) (.int .i64 n.tick)).setCell (p := ⟨w.heap.size + 1, 7, none⟩) (by first | (simp; done) | (simp; omega)) (.slice a0 n.blocks.length d0)).setCell (p := ⟨w.heap.size + 1, 8, none⟩) (by first | (simp; done) | (simp; omega)) (.slice a1 n.acl.length d1)).setCell (p := ⟨w.heap.size + 1, 9, none⟩) (by first | (simp; done) | (simp; omega)) (.slice a2 n.dflt.length d2))
  have hO40 := (NiF.own_set (NiF.own_set (NiF.own_set (NiF.own_set (NiF.own_set (NiF.own_set (NiF.own_set (NiF.own_set (NiF.own_set (NiF.own_set (NiF.own_set HO0.out (a := ⟨w.heap.size + 1 + 1, 9, none⟩) (by first | (simp; done) | (simp; omega)) (.slice a2 n.dflt.length d2)) (a := ⟨w.heap.size + 1, 0, none⟩) (by first | (simp; done) | (simp; omega)) (.int .i64 n.kind)) (a := ⟨w.heap.size + 1, 1, none⟩) (by first | (simp; done) | (simp; omega)) (.int .i64 n.mode)) (a := ⟨w.heap.size + 1, 2, none⟩) (by first | (simp; done) | (simp; omega)) (.int .i64 n.uid)) (a := ⟨w.heap.size + 1, 3, none⟩) (by first | (simp; done) | (simp; omega)) (.int .i64 n.gid)) (a := ⟨w.heap.size + 1, 4, none⟩) (by first | (simp; done) | (simp; omega)) (.int .i64 n.links)) (a := ⟨w.heap.size + 1, 5, none⟩) (by first | (simp; done) | (simp; omega)) (.int .i64 n.size)) (a := ⟨w.heap.size + 1, 6, none⟩) (by first | (simp; done) | (simp; omega)) (.int .i64 n.tick)) (a := ⟨w.heap.size + 1, 7, none⟩) (by first | (simp; done) | (simp; omega)) (.slice a0 n.blocks.length d0)) (a := ⟨w.heap.size + 1, 8, none⟩) (by first | (simp; done) | (simp; omega)) (.slice a1 n.acl.length d1)) (a := ⟨w.heap.size + 1, 9, none⟩) (by first | (simp; done) | (simp; omega)) (.slice a2 n.dflt.length d2))
  have hO41 := (AeF.own_set (AeF.own_set (AeF.own_set (AeF.own_set (AeF.own_set (AeF.own_set (AeF.own_set (AeF.own_set (AeF.own_set (AeF.own_set (AeF.own_set HO1.out (a := ⟨w.heap.size + 1 + 1, 9, none⟩) (by first | (simp; done) | (simp; omega)) (.slice a2 n.dflt.length d2)) (a := ⟨w.heap.size + 1, 0, none⟩) (by first | (simp; done) | (simp; omega)) (.int .i64 n.kind)) (a := ⟨w.heap.size + 1, 1, none⟩) (by first | (simp; done) | (simp; omega)) (.int .i64 n.mode)) (a := ⟨w.heap.size + 1, 2, none⟩) (by first | (simp; done) | (simp; omega)) (.int .i64 n.uid)) (a := ⟨w.heap.size + 1, 3, none⟩) (by first | (simp; done) | (simp; omega)) (.int .i64 n.gid)) (a := ⟨w.heap.size + 1, 4, none⟩) (by first | (simp; done) | (simp; omega)) (.int .i64 n.links)) (a := ⟨w.heap.size + 1, 5, none⟩) (by first | (simp; done) | (simp; omega)) (.int .i64 n.size)) (a := ⟨w.heap.size + 1, 6, none⟩) (by first | (simp; done) | (simp; omega)) (.int .i64 n.tick)) (a := ⟨w.heap.size + 1, 7, none⟩) (by first | (simp; done) | (simp; omega)) (.slice a0 n.blocks.length d0)) (a := ⟨w.heap.size + 1, 8, none⟩) (by first | (simp; done) | (simp; omega)) (.slice a1 n.acl.length d1)) (a := ⟨w.heap.size + 1, 9, none⟩) (by first | (simp; done) | (simp; omega)) (.slice a2 n.dflt.length d2))
  have hO42 := (AeF.own_set (AeF.own_set (AeF.own_set (AeF.own_set (AeF.own_set (AeF.own_set (AeF.own_set (AeF.own_set (AeF.own_set (AeF.own_set (AeF.own_set HO2.out (a := ⟨w.heap.size + 1 + 1, 9, none⟩) (by first | (simp; done) | (simp; omega)) (.slice a2 n.dflt.length d2)) (a := ⟨w.heap.size + 1, 0, none⟩) (by first | (simp; done) | (simp; omega)) (.int .i64 n.kind)) (a := ⟨w.heap.size + 1, 1, none⟩) (by first | (simp; done) | (simp; omega)) (.int .i64 n.mode)) (a := ⟨w.heap.size + 1, 2, none⟩) (by first | (simp; done) | (simp; omega)) (.int .i64 n.uid)) (a := ⟨w.heap.size + 1, 3, none⟩) (by first | (simp; done) | (simp; omega)) (.int .i64 n.gid)) (a := ⟨w.heap.size + 1, 4, none⟩) (by first | (simp; done) | (simp; omega)) (.int .i64 n.links)) (a := ⟨w.heap.size + 1, 5, none⟩) (by first | (simp; done) | (simp; omega)) (.int .i64 n.size)) (a := ⟨w.heap.size + 1, 6, none⟩) (by first | (simp; done) | (simp; omega)) (.int .i64 n.tick)) (a := ⟨w.heap.size + 1, 7, none⟩) (by first | (simp; done) | (simp; omega)) (.slice a0 n.blocks.length d0)) (a := ⟨w.heap.size + 1, 8, none⟩) (by first | (simp; done) | (simp; omega)) (.slice a1 n.acl.length d1)) (a := ⟨w.heap.size + 1, 9, none⟩) (by first | (simp; done) | (simp; omega)) (.slice a2 n.dflt.length d2))
  generalize (((((((((((w3.setCell ⟨w.heap.size + 1 + 1, 9, none⟩ (.slice a2 n.dflt.length d2)).setCell ⟨w.heap.size + 1, 0, none⟩ (.int .i64 n.kind)).setCell ⟨w.heap.size + 1, 1, none⟩ (.int .i64 n.mode)).setCell ⟨w.heap.size + 1, 2, none⟩ (.int .i64 n.uid)).setCell ⟨w.heap.size + 1, 3, none⟩ (.int .i64 n.gid)).setCell ⟨w.heap.size + 1, 4, none⟩ (.int .i64 n.links)).setCell ⟨w.heap.size + 1, 5, none⟩ (.int .i64 n.size)).setCell ⟨w.heap.size + 1, 6, none⟩ (.int .i64 n.tick)).setCell ⟨w.heap.size + 1, 7, none⟩ (.slice a0 n.blocks.length d0)).setCell ⟨w.heap.size + 1, 8, none⟩ (.slice a1 n.acl.length d1)).setCell ⟨w.heap.size + 1, 9, none⟩ (.slice a2 n.dflt.length d2)) = w9 at hF hB4 hO40 hO41 hO42 ⊢
  have fc0 : w9.cell? ⟨w.heap.size + 1, 0, none⟩ = some (.int .i64 n.kind) := hF.cell 0
  have fc1 : w9.cell? ⟨w.heap.size + 1, 1, none⟩ = some (.int .i64 n.mode) := hF.cell 1
  have fc2 : w9.cell? ⟨w.heap.size + 1, 2, none⟩ = some (.int .i64 n.uid) := hF.cell 2
  have fc3 : w9.cell? ⟨w.heap.size + 1, 3, none⟩ = some (.int .i64 n.gid) := hF.cell 3
  have fc4 : w9.cell? ⟨w.heap.size + 1, 4, none⟩ = some (.int .i64 n.links) := hF.cell 4
  have fc5 : w9.cell? ⟨w.heap.size + 1, 5, none⟩ = some (.int .i64 n.size) := hF.cell 5
  have fc6 : w9.cell? ⟨w.heap.size + 1, 6, none⟩ = some (.int .i64 n.tick) := hF.cell 6
  have fc7 : w9.cell? ⟨w.heap.size + 1, 7, none⟩ = some (.slice a0 n.blocks.length d0) := hF.cell 7
  have fc8 : w9.cell? ⟨w.heap.size + 1, 8, none⟩ = some (.slice a1 n.acl.length d1) := hF.cell 8
  have fc9 : w9.cell? ⟨w.heap.size + 1, 9, none⟩ = some (.slice a2 n.dflt.length d2) := hF.cell 9
  have hnd : (S0 ++ S1 ++ S2).Nodup := (nodup_app (nodup_app (NiF.own_nodup hO40) (AeF.own_nodup hO41) (Lies.apart HL0.out HL1.out (by omega))) (AeF.own_nodup hO42) (apart_app.2 ⟨(Lies.apart HL0.out HL2.out (by omega)), Lies.apart HL1.out HL2.out (by omega)⟩))
  exact bodyPost_ret (v := .agg #[.int .i64 n.kind, .int .i64 n.mode, .int .i64 n.uid, .int .i64 n.gid, .int .i64 n.links, .int .i64 n.size, .int .i64 n.tick, (.slice a0 n.blocks.length d0), (.slice a1 n.acl.length d1), (.slice a2 n.dflt.length d2)]) (by simp [results, Tryz.results94, go_sem, fc0, fc1, fc2, fc3, fc4, fc5, fc6, fc7, fc8, fc9]) rfl ⟨_, _, rfl, ⟨_, _, _, S0, S1, S2, rfl, rfl, hnd, NiF.own_mono hO40 (by omega), AeF.own_mono hO41 (by omega), AeF.own_mono hO42 (by omega)⟩, hB4⟩

set_option maxRecDepth 100000 in
set_option maxHeartbeats 1600000 in
theorem eq_any (w : World) (va vb : Value) (n : L) (hc : cost n ≤ 1073741824) (h : Holds w va n) (h' : Holds w vb n) :
    Calls Tryz.prog 100 #[va, vb] w fun e w' => e = .returned (.bool true) ∧ Below w.heap.size w w' := by
  obtain ⟨x0, x1, x2, rfl, g0, g1, g2⟩ := h
  obtain ⟨y0, y1, y2, rfl, k0, k1, k2⟩ := h'
  have H0 := Lib.hid g0
  have K0 := Lib.hid k0
  have H1 := Lib.hid g1
  have K1 := Lib.hid k1
  have H2 := Lib.hid g2
  have K2 := Lib.hid k2
  have hcc : NiF.cost n.blocks + AeF.cost n.acl + AeF.cost n.dflt ≤ 1073741824 := hc
  clear g0 k0 g1 k1 g2 k2 hc
  have HB := Lib.hid (((Below.refl w.heap.size w).alloc (Nat.le_refl _) (.cells #[.int .i64 n.kind, .int .i64 n.mode, .int .i64 n.uid, .int .i64 n.gid, .int .i64 n.links, .int .i64 n.size, .int .i64 n.tick, x0, x1, x2] 89)).alloc (by simp) (.cells #[.int .i64 n.kind, .int .i64 n.mode, .int .i64 n.uid, .int .i64 n.gid, .int .i64 n.links, .int .i64 n.size, .int .i64 n.tick, y0, y1, y2] 89))
  have HX := Lib.hid ((new w #[.int .i64 n.kind, .int .i64 n.mode, .int .i64 n.uid, .int .i64 n.gid, .int .i64 n.links, .int .i64 n.size, .int .i64 n.tick, x0, x1, x2] 89).alloc (.cells #[.int .i64 n.kind, .int .i64 n.mode, .int .i64 n.uid, .int .i64 n.gid, .int .i64 n.links, .int .i64 n.size, .int .i64 n.tick, y0, y1, y2] 89))
  have HY := Lib.hid (new_at (w.alloc (.cells #[.int .i64 n.kind, .int .i64 n.mode, .int .i64 n.uid, .int .i64 n.gid, .int .i64 n.links, .int .i64 n.size, .int .i64 n.tick, x0, x1, x2] 89)) #[.int .i64 n.kind, .int .i64 n.mode, .int .i64 n.uid, .int .i64 n.gid, .int .i64 n.links, .int .i64 n.size, .int .i64 n.tick, y0, y1, y2] 89 (w.heap.size + 1) (by simp))
  go_enter Tryz.func100, Tryz.ntmps100
  go_wp2_with fail
  refine (NiF.eq_any _ x0 y0 n.blocks (by omega) (NiF.holds_below H0.out HB.out) (NiF.holds_below K0.out HB.out)).mono ?_
  rintro e w1 ⟨rfl, hb⟩
  replace HX := Lib.hid (HX.out.all hb)
  replace HY := Lib.hid (HY.out.all hb)
  replace HB := Lib.hid (HB.out.trans (hb.mono HB.out.size))
  clear hb
  have cx08 := HX.out.cell 8
  have cy08 := HY.out.cell 8
  have cx09 := HX.out.cell 9
  have cy09 := HY.out.cell 9
  dsimp at cx08 cy08 cx09 cy09
  go_wp2_with fail
  refine (AeF.eq_any _ x1 y1 n.acl (by omega) (AeF.holds_below H1.out HB.out) (AeF.holds_below K1.out HB.out)).mono ?_
  rintro e w2 ⟨rfl, hb⟩
  replace HX := Lib.hid (HX.out.all hb)
  replace HY := Lib.hid (HY.out.all hb)
  replace HB := Lib.hid (HB.out.trans (hb.mono HB.out.size))
  clear hb
  have cx19 := HX.out.cell 9
  have cy19 := HY.out.cell 9
  dsimp at cx19 cy19
  go_wp2_with fail
  refine (AeF.eq_any _ x2 y2 n.dflt (by omega) (AeF.holds_below H2.out HB.out) (AeF.holds_below K2.out HB.out)).mono ?_
  rintro e w3 ⟨rfl, hb⟩
  replace HX := Lib.hid (HX.out.all hb)
  replace HY := Lib.hid (HY.out.all hb)
  replace HB := Lib.hid (HB.out.trans (hb.mono HB.out.size))
  clear hb
  go_wp2
  go_ret
  exact ⟨rfl, HB.out⟩

def marks (k : Nat) (n : L) : L := { n with blocks := NiF.marks (k) n.blocks, acl := AeF.marks (k + NiF.wid n.blocks) n.acl, dflt := AeF.marks (k + NiF.wid n.blocks + AeF.wid n.acl) n.dflt }
def wid (n : L) : Nat := NiF.wid n.blocks + AeF.wid n.acl + AeF.wid n.dflt
theorem wid_le {n : L} (h : cost n ≤ 1048576) : 1 + wid n ≤ 1073741824 := by
  unfold cost at h
  unfold wid
  have h0 : NiF.wid n.blocks ≤ 3 * NiF.cost n.blocks := NiF.wid_cost _
  have h1 : AeF.wid n.acl ≤ 3 * AeF.cost n.acl := AeF.wid_cost _
  have h2 : AeF.wid n.dflt ≤ 3 * AeF.cost n.dflt := AeF.wid_cost _
  omega
theorem wid_cost (n : L) : wid n ≤ 3 * cost n := by
  unfold cost wid
  have h0 : NiF.wid n.blocks ≤ 3 * NiF.cost n.blocks := NiF.wid_cost _
  have h1 : AeF.wid n.acl ≤ 3 * AeF.cost n.acl := AeF.wid_cost _
  have h2 : AeF.wid n.dflt ≤ 3 * AeF.cost n.dflt := AeF.wid_cost _
  omega
set_option maxRecDepth 100000 in
/-- Cells that read as data of the type hold a value. -/
theorem in_cells {H : Type} {enc : TypeId × Value → H} {W : World} {fuel : Nat} {cs : List Value} {x : DataW H × List MemPlace} (hf : DataW.trod enc Tryz.prog W 0 (fun _ => true) true fuel 111 cs = some x) :
    ∃ (n : L) (r0 r1 r2 : Value), cs = [.int .i64 n.kind, .int .i64 n.mode, .int .i64 n.uid, .int .i64 n.gid, .int .i64 n.links, .int .i64 n.size, .int .i64 n.tick, r0, r1, r2] ∧ Lim n ∧ NiF.Holds W r0 n.blocks ∧ AeF.Holds W r1 n.acl ∧ AeF.Holds W r2 n.dflt := by
  obtain ⟨xs, fu, _, rfl, hl, hlen, hfs⟩ := DataW.trod_struct Tryz.underlying111 hf
  rw [show Tryz.prog.cellsOf 111 = 10 from by kernel_rfl] at hl
  obtain ⟨c0, c1, c2, c3, c4, c5, c6, c7, c8, c9, rfl⟩ : ∃ c0 c1 c2 c3 c4 c5 c6 c7 c8 c9, cs = [c0, c1, c2, c3, c4, c5, c6, c7, c8, c9] := by
    match cs, hl with
    | [c0, c1, c2, c3, c4, c5, c6, c7, c8, c9], _ => exact ⟨_, _, _, _, _, _, _, _, _, _, rfl⟩
  obtain ⟨z0, z1, z2, z3, z4, z5, z6, z7, z8, z9, rfl⟩ : ∃ z0 z1 z2 z3 z4 z5 z6 z7 z8 z9, xs = [z0, z1, z2, z3, z4, z5, z6, z7, z8, z9] := by
    match xs, hlen with
    | [c0, c1, c2, c3, c4, c5, c6, c7, c8, c9], _ => exact ⟨_, _, _, _, _, _, _, _, _, _, rfl⟩
  have hc_7 : Tryz.prog.cellsOf 49 = 1 := by kernel_rfl
  have hc_8 : Tryz.prog.cellsOf 109 = 1 := by kernel_rfl
  have hc_0 : Tryz.prog.cellsOf 3 = 1 := by kernel_rfl
  have e0 : DataW.trod enc Tryz.prog W 0 (fun _ => true) true fu 3 [c0] = some z0 := by simpa [hc_0] using hfs 0 _ rfl
  have e1 : DataW.trod enc Tryz.prog W 0 (fun _ => true) true fu 3 [c1] = some z1 := by simpa [hc_0] using hfs 1 _ rfl
  have e2 : DataW.trod enc Tryz.prog W 0 (fun _ => true) true fu 3 [c2] = some z2 := by simpa [hc_0] using hfs 2 _ rfl
  have e3 : DataW.trod enc Tryz.prog W 0 (fun _ => true) true fu 3 [c3] = some z3 := by simpa [hc_0] using hfs 3 _ rfl
  have e4 : DataW.trod enc Tryz.prog W 0 (fun _ => true) true fu 3 [c4] = some z4 := by simpa [hc_0] using hfs 4 _ rfl
  have e5 : DataW.trod enc Tryz.prog W 0 (fun _ => true) true fu 3 [c5] = some z5 := by simpa [hc_0] using hfs 5 _ rfl
  have e6 : DataW.trod enc Tryz.prog W 0 (fun _ => true) true fu 3 [c6] = some z6 := by simpa [hc_0] using hfs 6 _ rfl
  have e7 : DataW.trod enc Tryz.prog W 0 (fun _ => true) true fu 49 [c7] = some z7 := by simpa [hc_7] using hfs 7 _ rfl
  have e8 : DataW.trod enc Tryz.prog W 0 (fun _ => true) true fu 109 [c8] = some z8 := by simpa [hc_8] using hfs 8 _ rfl
  have e9 : DataW.trod enc Tryz.prog W 0 (fun _ => true) true fu 109 [c9] = some z9 := by simpa [hc_8] using hfs 9 _ rfl
  obtain ⟨i0, hi0, _, m0⟩ := DataW.trod_int Tryz.underlying3 e0
  obtain rfl : c0 = .int .i64 i0 := by simpa using hi0
  obtain ⟨i1, hi1, _, m1⟩ := DataW.trod_int Tryz.underlying3 e1
  obtain rfl : c1 = .int .i64 i1 := by simpa using hi1
  obtain ⟨i2, hi2, _, m2⟩ := DataW.trod_int Tryz.underlying3 e2
  obtain rfl : c2 = .int .i64 i2 := by simpa using hi2
  obtain ⟨i3, hi3, _, m3⟩ := DataW.trod_int Tryz.underlying3 e3
  obtain rfl : c3 = .int .i64 i3 := by simpa using hi3
  obtain ⟨i4, hi4, _, m4⟩ := DataW.trod_int Tryz.underlying3 e4
  obtain rfl : c4 = .int .i64 i4 := by simpa using hi4
  obtain ⟨i5, hi5, _, m5⟩ := DataW.trod_int Tryz.underlying3 e5
  obtain rfl : c5 = .int .i64 i5 := by simpa using hi5
  obtain ⟨i6, hi6, _, m6⟩ := DataW.trod_int Tryz.underlying3 e6
  obtain rfl : c6 = .int .i64 i6 := by simpa using hi6
  obtain ⟨l7, m7, h7⟩ := NiF.in_cell e7
  obtain ⟨l8, m8, h8⟩ := AeF.in_cell e8
  obtain ⟨l9, m9, h9⟩ := AeF.in_cell e9
  exact ⟨⟨i0, i1, i2, i3, i4, i5, i6, l7, l8, l9⟩, c7, c8, c9, rfl, ⟨rg_of m0, rg_of m1, rg_of m2, rg_of m3, rg_of m4, rg_of m5, rg_of m6, m7, m8, m9⟩, h7, h8, h9⟩
set_option maxRecDepth 100000 in
/-- What an argument of that type offers. -/
theorem in_any {H : Type} {enc : TypeId × Value → H} {W : World} {b0 : Nat} {v : Value} {x : DataW H} {p : List MemPlace} (hv : Value.okWide Tryz.prog W .any b0 111 v) (h : DataW.Trod enc Tryz.prog W 0 (fun _ => true) true 111 v x p) :
    ∃ n : L, Lim n ∧ Holds W v n := by
  obtain ⟨cs, rfl, hsz⟩ := okWide_struct Tryz.underlying111 hv
  obtain ⟨fuel, hf⟩ := h
  obtain ⟨n, r0, r1, r2, hcs, hl, hr⟩ := in_cells hf
  have : cs = #[.int .i64 n.kind, .int .i64 n.mode, .int .i64 n.uid, .int .i64 n.gid, .int .i64 n.links, .int .i64 n.size, .int .i64 n.tick, r0, r1, r2] := Array.toList_inj.1 (by simpa [Value.cells] using hcs)
  subst this
  exact ⟨n, hl, r0, r1, r2, rfl, hr⟩
end Go.Proofs.YthppbcnejapbiaaGreatDoor.In

-- YthppbcnejapbiaaGreatDoorIF
/- The uniform face of a slice of Inodes: what it holds, owns, costs; its size, a copy, comparing two that read alike, marking one that the call owns, asking for the marks; what an argument of that type offers. Conditions: as each theorem types them. -/
namespace Go.Proofs.YthppbcnejapbiaaGreatDoor.IF
open Go.ChangeShapes Go.WideShapes Go.ChangeAt Go.RowKit Go.Deep
open Foot Bx
open Strs (ret_int grow_trans below_of_drew)
set_option linter.unusedVariables false

abbrev L := List In.L
def z0 : In.L := InoV.zero
/-- The cells of one at an address. -/
def Cell (w : World) (b o : Nat) (n : In.L) (r0 r1 r2 : Value) : Prop := w.cell? ⟨b, o, none⟩ = some (.int .i64 n.kind) ∧ w.cell? ⟨b, o + 1, none⟩ = some (.int .i64 n.mode) ∧ w.cell? ⟨b, o + 2, none⟩ = some (.int .i64 n.uid) ∧ w.cell? ⟨b, o + 3, none⟩ = some (.int .i64 n.gid) ∧ w.cell? ⟨b, o + 4, none⟩ = some (.int .i64 n.links) ∧ w.cell? ⟨b, o + 5, none⟩ = some (.int .i64 n.size) ∧ w.cell? ⟨b, o + 6, none⟩ = some (.int .i64 n.tick) ∧ w.cell? ⟨b, o + 7, none⟩ = some (r0) ∧ w.cell? ⟨b, o + 8, none⟩ = some (r1) ∧ w.cell? ⟨b, o + 9, none⟩ = some (r2)
def Parts (w : World) (n : In.L) (r0 r1 r2 : Value) : Prop := NiF.Holds w r0 n.blocks ∧ AeF.Holds w r1 n.acl ∧ AeF.Holds w r2 n.dflt
theorem parts_below {w w' : World} {n : In.L} {r0 r1 r2 : Value} (h : Parts w n r0 r1 r2) (hb : Below w.heap.size w w') : Parts w' n r0 r1 r2 := by
  obtain ⟨h0, h1, h2⟩ := h
  exact ⟨NiF.holds_below h0 hb, AeF.holds_below h1 hb, AeF.holds_below h2 hb⟩
theorem parts_holds {w : World} {n : In.L} {r0 r1 r2 : Value} (h : Parts w n r0 r1 r2) : In.Holds w (.agg #[.int .i64 n.kind, .int .i64 n.mode, .int .i64 n.uid, .int .i64 n.gid, .int .i64 n.links, .int .i64 n.size, .int .i64 n.tick, r0, r1, r2]) n := by
  obtain ⟨h0, h1, h2⟩ := h
  exact ⟨r0, r1, r2, rfl, h0, h1, h2⟩
/-- A slice value, no longer than its capacity, whose elements hold the list. -/
def Holds (w : World) (v : Value) (l : L) : Prop := ∃ (a : Option Addr) (cap : Nat), v = .slice a l.length cap ∧ l.length ≤ cap ∧ ∀ i, i < l.length → ∃ b o, a = some ⟨b, o, none⟩ ∧ b < w.heap.size ∧ ∃ r0 r1 r2 : Value, Cell w b (o + i * 10) (l.getD i z0) r0 r1 r2 ∧ Parts w (l.getD i z0) r0 r1 r2
theorem Cell.below {w w' : World} {b o : Nat} {n : In.L} {r0 r1 r2 : Value} (h : Cell w b o n r0 r1 r2) (hlt : b < w.heap.size) (hb : Below w.heap.size w w') : Cell w' b o n r0 r1 r2 := by
  unfold Cell at h ⊢
  rw [hb.cell (p := ⟨b, o, none⟩) hlt, hb.cell (p := ⟨b, o + 1, none⟩) hlt, hb.cell (p := ⟨b, o + 2, none⟩) hlt, hb.cell (p := ⟨b, o + 3, none⟩) hlt, hb.cell (p := ⟨b, o + 4, none⟩) hlt, hb.cell (p := ⟨b, o + 5, none⟩) hlt, hb.cell (p := ⟨b, o + 6, none⟩) hlt, hb.cell (p := ⟨b, o + 7, none⟩) hlt, hb.cell (p := ⟨b, o + 8, none⟩) hlt, hb.cell (p := ⟨b, o + 9, none⟩) hlt]
  exact h
theorem holds_below {w w' : World} {v : Value} {l : L} (h : Holds w v l) (hb : Below w.heap.size w w') : Holds w' v l := by
  obtain ⟨a, c, rfl, hle, hc⟩ := h
  refine ⟨a, c, rfl, hle, fun i hi => ?_⟩
  obtain ⟨b, o, rfl, hlt, r0, r1, r2, hC, hP⟩ := hc i hi
  exact ⟨b, o, rfl, Nat.lt_of_lt_of_le hlt hb.size, r0, r1, r2, hC.below hlt hb, parts_below hP hb⟩
theorem form {w : World} {v : Value} {l : L} (h : Holds w v l) : ∃ a c, v = .slice a l.length c := by
  obtain ⟨a, c, rfl, _⟩ := h
  exact ⟨a, c, rfl⟩
/-- At an index within its length. -/
def AtL (w : World) (a : Option Addr) (l : L) : Prop := ∀ i, i < l.length → ∃ b o, a = some ⟨b, o, none⟩ ∧ b < w.heap.size ∧ ∃ r0 r1 r2 : Value, Cell w b (o + i * 10) (l.getD i z0) r0 r1 r2 ∧ Parts w (l.getD i z0) r0 r1 r2
theorem atL {w : World} {v : Value} {l : L} (h : Holds w v l) : ∃ a cap, v = .slice a l.length cap ∧ l.length ≤ cap ∧ AtL w a l := h
theorem AtL.below {w w' : World} {a : Option Addr} {l : L} (h : AtL w a l) (hb : Below w.heap.size w w') : AtL w' a l := by
  intro i hi
  obtain ⟨b, o, rfl, hlt, r0, r1, r2, hC, hP⟩ := h i hi
  exact ⟨b, o, rfl, Nat.lt_of_lt_of_le hlt hb.size, r0, r1, r2, hC.below hlt hb, parts_below hP hb⟩

/-! What the call owns. -/
/-- An element: what it is, its value, the blocks of its slices. -/
abbrev El := In.L × Value × List Nat
def vcells : Value → List Value
  | .agg cs => cs.toList
  | v => [v]
def cells (es : List El) : List Value := es.flatMap fun e => vcells e.2.1
def ns (es : List El) : L := es.map (·.1)
def fps (es : List El) : List Nat := es.flatMap (·.2.2)
def Own (w : World) (base : Nat) (v : Value) (l : L) (S : List Nat) : Prop := ∃ es : List El, ns es = l ∧ w.ownsRow base 89 10 v l.length (cells es) ∧ S = fpR v ++ fps es ∧ S.Nodup ∧ ∀ e ∈ es, In.Own w base e.2.1 e.1 e.2.2
theorem ns_length (es : List El) : (ns es).length = es.length := by simp [ns]
theorem cells_app (es fs : List El) : cells (es ++ fs) = cells es ++ cells fs := by simp [cells]
theorem fps_app (es fs : List El) : fps (es ++ fs) = fps es ++ fps fs := by simp [fps]
theorem mem_fps {es : List El} {e : El} (h : e ∈ es) {x : Nat} (hx : x ∈ e.2.2) : x ∈ fps es := List.mem_flatMap.2 ⟨e, h, hx⟩
theorem vlen {w : World} {base : Nat} {v : Value} {n : In.L} {S : List Nat} (h : In.Own w base v n S) : (vcells v).length = 10 := by
  obtain ⟨r0, r1, r2, rfl, _⟩ := In.own_holds h
  rfl
theorem flat_len {α β : Type} (f : α → List β) (k : Nat) : ∀ es : List α, (∀ e ∈ es, (f e).length = k) → (es.flatMap f).length = es.length * k
  | [], _ => by simp
  | a :: r, h => by
    rw [List.flatMap_cons, List.length_append, h a (by simp), flat_len f k r (fun e he => h e (by simp [he])), List.length_cons, Nat.succ_mul]
    omega
theorem flat_at {α β : Type} (f : α → List β) (k : Nat) : ∀ es : List α, (∀ e ∈ es, (f e).length = k) → ∀ (i : Nat) (hi : i < es.length) (j : Nat), j < k → (es.flatMap f)[i * k + j]? = (f es[i])[j]?
  | [], _, i, hi, _, _ => by simp at hi
  | a :: r, h, 0, _, j, hj => by
    rw [List.flatMap_cons, Nat.zero_mul, Nat.zero_add, List.getElem?_append_left (by rw [h a (by simp)]; exact hj)]
    rfl
  | a :: r, h, i + 1, hi, j, hj => by
    have hk := h a (by simp)
    rw [List.flatMap_cons, List.getElem?_append_right (by rw [hk, Nat.succ_mul]; omega), hk, show (i + 1) * k + j - k = i * k + j from by rw [Nat.succ_mul]; omega]
    exact flat_at f k r (fun e he => h e (by simp [he])) i (by simpa using hi) j hj
theorem cells_len {w : World} {base : Nat} {es : List El} (h : ∀ e ∈ es, In.Own w base e.2.1 e.1 e.2.2) : (cells es).length = es.length * 10 := flat_len _ 10 es fun e he => vlen (h e he)
/-- A row of elements, read. -/
theorem holds_row {w : World} {base : Nat} {v : Value} {es : List El} (hrow : w.ownsRow base 89 10 v (ns es).length (cells es)) (hel : ∀ e ∈ es, In.Own w base e.2.1 e.1 e.2.2) : Holds w v (ns es) := by
  have hl := ns_length es
  rcases hrow.2 with ⟨rfl, h0⟩ | ⟨g, cap, cur, rfl, hb, hg, hn', _, _, htake⟩
  · have : es = [] := List.eq_nil_of_length_eq_zero (by omega)
    subst this
    exact ⟨none, 0, rfl, Nat.le_refl _, fun i hi => by simp [ns] at hi⟩
  · refine ⟨some ⟨g, 0, none⟩, cap, rfl, hn', fun i hi => ?_⟩
    have hie : i < es.length := by omega
    have hm := hel es[i] (List.getElem_mem hie)
    have hx : (ns es).getD i z0 = es[i].1 := by
      rw [List.getD_eq_getElem?_getD, ns, List.getElem?_map, List.getElem?_eq_getElem hie]; rfl
    obtain ⟨r0, r1, r2, hv, h0, h1, h2⟩ := In.own_holds hm
    have hat : ∀ j, j < 10 → w.cell? ⟨g, 0 + i * 10 + j, none⟩ = (vcells es[i].2.1)[j]? := fun j hj => by
      rw [Nat.zero_add, hrow.cellAt _ (by rw [hl]; have := Nat.mul_le_mul_right 10 (show i + 1 ≤ es.length by omega); rw [Nat.succ_mul] at this; omega)]
      exact flat_at (fun e : El => vcells e.2.1) 10 es (fun e he => vlen (hel e he)) i hie j hj
    rw [hv] at hat
    rw [hx]
    exact ⟨g, 0, rfl, (Array.getElem?_eq_some_iff.1 hg).1, r0, r1, r2, ⟨hat 0 (by omega), hat 1 (by omega), hat 2 (by omega), hat 3 (by omega), hat 4 (by omega), hat 5 (by omega), hat 6 (by omega), hat 7 (by omega), hat 8 (by omega), hat 9 (by omega)⟩, ⟨h0, h1, h2⟩⟩
section
variable {w w' : World} {base : Nat} {v : Value} {l : L} {S T : List Nat}
theorem own_holds (h : Own w base v l S) : Holds w v l := by
  obtain ⟨es, rfl, hrow, rfl, hnd, hel⟩ := h
  exact holds_row hrow hel
theorem own_chg (h : Own w base v l S) (hc : Chg w w' T) (ha : Apart S T) : Own w' base v l S := by
  obtain ⟨es, rfl, hrow, rfl, hnd, hel⟩ := h
  obtain ⟨h1, h2⟩ := apart_app.1 ha
  exact ⟨es, rfl, row_chg hrow hc h1, rfl, hnd, fun e he => In.own_chg (hel e he) hc fun x hx => h2 x (mem_fps he hx)⟩
theorem own_below (h : Own w base v l S) (hb : Below w.heap.size w w') : Own w' base v l S := own_chg h (Chg.of_below hb (Nat.le_refl _) []) (fun k _ hh => by cases hh)
theorem own_mono {base' : Nat} (h : Own w base v l S) (hb : base' ≤ base) : Own w base' v l S := by
  obtain ⟨es, rfl, hrow, rfl, hnd, hel⟩ := h
  exact ⟨es, rfl, row_mono hrow hb, rfl, hnd, fun e he => In.own_mono (hel e he) hb⟩
theorem fps_lies {es : List El} (hel : ∀ e ∈ es, In.Own w base e.2.1 e.1 e.2.2) : Lies (fps es) base w.heap.size := fun x hx => by
  obtain ⟨e, he, hx⟩ := List.mem_flatMap.1 hx
  exact In.own_lies (hel e he) x hx
theorem own_lies (h : Own w base v l S) : Lies S base w.heap.size := by
  obtain ⟨es, rfl, hrow, rfl, hnd, hel⟩ := h
  exact (row_lies hrow).app (fps_lies hel)
theorem own_nodup (h : Own w base v l S) : S.Nodup := by
  obtain ⟨es, rfl, hrow, rfl, hnd, hel⟩ := h
  exact hnd
theorem own_set (h : Own w base v l S) {a : Addr} (ha : a.block < base) (u : Value) : Own (w.setCell a u) base v l S := by
  obtain ⟨es, rfl, hrow, rfl, hnd, hel⟩ := h
  exact ⟨es, rfl, ownsRow_setCell_below hrow ha u, rfl, hnd, fun e he => In.own_set (hel e he) ha u⟩
theorem own_form (h : Own w base v l S) : ∃ a c, v = .slice a l.length c := form (own_holds h)
end
def csum (l : L) : Nat := (l.map In.cost).sum
def cost (l : L) : Nat := l.length + csum l
def Lim (l : L) : Prop := l.length ≤ maxLen ∧ ∀ x ∈ l, In.Lim x
theorem csum_snoc (l : L) (i : Nat) (h : i < l.length) : csum (l.take (i + 1)) = csum (l.take i) + In.cost (l.getD i z0) := by
  unfold csum
  rw [List.take_succ_eq_append_getElem h, List.map_append, List.sum_append]
  simp [List.getD, List.getElem?_eq_getElem h]
theorem csum_le (l : L) (i : Nat) : csum (l.take i) ≤ csum l := by
  have : csum l = csum (l.take i) + csum (l.drop i) := by
    unfold csum
    rw [← List.sum_append, ← List.map_append, List.take_append_drop]
  omega
theorem mem_getD {l : L} {i : Nat} (h : i < l.length) : l.getD i z0 ∈ l := by
  rw [List.getD_eq_getElem?_getD, List.getElem?_eq_getElem h]
  exact List.getElem_mem h
theorem cost_mem {l : L} {x : In.L} (h : x ∈ l) : In.cost x ≤ csum l := by
  unfold csum
  induction l with
  | nil => cases h
  | cons a r ih =>
    rw [List.map_cons, List.sum_cons]
    rcases List.mem_cons.1 h with rfl | h
    · omega
    · have := ih h; omega
theorem cost_at {l : L} {i : Nat} (h : i < l.length) : In.cost (l.getD i z0) ≤ csum l := cost_mem (mem_getD h)


set_option maxRecDepth 100000 in
set_option maxHeartbeats 1600000 in
theorem sz_any (w : World) (v : Value) (l : L) (left : Nat) (hleft : left ≤ 1073741824) (hl : Lim l) (h : Holds w v l) :
    Calls Tryz.prog 42 #[v, .int .i64 left] w fun e w' => e = .returned (.int .i64 (costOf (cost l) left)) ∧ Below w.heap.size w w' := by
  obtain ⟨a, cap, rfl, hle, hc⟩ := atL h
  have hlen := hl.1
  unfold maxLen at hlen
  by_cases hlt0 : left < l.length
  · have HR := Lib.hid (show costOf (cost l) left = -1 from cost_neg (by unfold cost; omega))
    clear hc hl h
    generalize l.length = M at hlt0 hlen hle ⊢
    go_enter Tryz.func42, Tryz.ntmps42
    go_wp2
    go_ret
    exact ⟨ret_int HR.out.symm, Below.refl _ _⟩
  · have HC := Lib.hid hc
    have HLM := Lib.hid hl.2
    have HCS := Lib.hid (csum_snoc l)
    have HCL := Lib.hid (csum_le l)
    have HCD := Lib.hid (show cost l = l.length + csum l from rfl)
    obtain ⟨M, hM⟩ : ∃ M, M = l.length := ⟨_, rfl⟩
    rw [← hM] at hlt0 hlen hle HCD ⊢
    have HM := Lib.hid hM
    clear hM hc hl h
    go_enter Tryz.func42, Tryz.ntmps42
    go_wp2
    go_loopw [1, 5] (fun lv iv wr => ∃ i r : Nat, i ≤ M ∧ iv = .int .i64 i ∧ lv = .int .i64 r ∧ r + M + csum (l.take i) = left ∧ Below w.heap.size w wr) (fun _ iv _ => M - (intOf iv).toNat)
    case atStart => exact ⟨0, left - M, Nat.zero_le _, rfl, by go_num, by simp [csum]; omega, Below.refl _ _⟩
    case round =>
      obtain ⟨i, r, hi, rfl, rfl, hr, hbel⟩ := hrel
      have HQ := Lib.hid hr
      have HB := Lib.hid hbel
      have hrl : r ≤ 1073741824 := by omega
      clear hr hbel
      by_cases hlt : i < M
      · have hlx : i < l.length := by rw [← HM.out]; exact hlt
        obtain ⟨b, o, rfl, hb, r0, r1, r2, hC, hP⟩ := HC.out i hlx
        have HP := Lib.hid (parts_holds (parts_below hP HB.out))
        obtain ⟨h0, h1, h2⟩ := hP
        obtain ⟨a0, d0, rfl⟩ := NiF.form h0
        obtain ⟨a1, d1, rfl⟩ := AeF.form h1
        obtain ⟨a2, d2, rfl⟩ := AeF.form h2
        obtain ⟨g0, g1, g2, g3, g4, g5, g6, g7, g8, g9⟩ := hC.below hb HB.out
        clear hC h0 h1 h2
        have HLX := Lib.hid (HLM.out _ (mem_getD hlx))
        have ht := Lib.hid (HCS.out i hlx)
        have HTS := Lib.hid (HCL.out (i + 1))
        generalize l.getD i z0 = x at g0 g1 g2 g3 g4 g5 g6 g7 g8 g9 HP HLX ht
        by_cases hq : In.cost x ≤ r
        · obtain ⟨s, hs⟩ : ∃ s, s = r - In.cost x := ⟨_, rfl⟩
          have HZ := Lib.hid (show costOf (In.cost x) r = (s : Int) by rw [hs]; exact cost_pos hq)
          have HN := Lib.hid (show s + M + csum (l.take (i + 1)) = left by have := ht.out; have := HQ.out; omega)
          have hsl : s ≤ 1073741824 := by omega
          clear hs hq
          go_wp2_with fail
          refine (In.sz_any _ _ x r (by omega) HLX.out HP.out).mono ?_
          rintro e w1 ⟨rfl, hb1⟩
          rw [HZ.out]
          replace HB := Lib.hid (HB.out.trans (hb1.mono HB.out.size))
          clear hb1 g0 g1 g2 g3 g4 g5 g6 g7 g8 g9
          go_wp2
          go_roundw
          case rel => exact ⟨i + 1, s, by omega, by go_num, rfl, HN.out, HB.out⟩
          case measure => simp [intOf]; omega
        · have HZ := Lib.hid (show costOf (In.cost x) r = -1 from cost_neg hq)
          have HN := Lib.hid (show costOf (cost l) left = -1 from cost_neg (by rw [HCD.out]; have := ht.out; have := HTS.out; have := HQ.out; omega))
          clear hq
          go_wp2_with fail
          refine (In.sz_any _ _ x r (by omega) HLX.out HP.out).mono ?_
          rintro e w1 ⟨rfl, hb1⟩
          rw [HZ.out]
          replace HB := Lib.hid (HB.out.trans (hb1.mono HB.out.size))
          clear hb1 g0 g1 g2 g3 g4 g5 g6 g7 g8 g9
          go_wp2
          go_ret
          exact ⟨ret_int HN.out.symm, HB.out⟩
      · have HN := Lib.hid (show costOf (cost l) left = r by
          have h1 := HQ.out
          rw [List.take_of_length_le (by rw [← HM.out]; omega)] at h1
          rw [cost_pos (by rw [HCD.out]; omega), HCD.out]
          omega)
        go_wp2
        go_ret
        exact ⟨ret_int HN.out.symm, HB.out⟩

/-- Cells stored one behind another. -/
def setSeq (l : List Value) (o : Nat) : List Value → List Value
  | [] => l
  | u :: r => setSeq (l.set o u) (o + 1) r
theorem setSeq_take (us : List Value) : ∀ (l : List Value) (o : Nat), o + us.length ≤ l.length → (setSeq l o us).take (o + us.length) = l.take o ++ us := by
  induction us with
  | nil => intro l o _; simp [setSeq]
  | cons u r ih =>
    intro l o h
    rw [List.length_cons] at h
    rw [setSeq, List.length_cons, show o + (r.length + 1) = (o + 1) + r.length from by omega, ih _ _ (by rw [List.length_set]; omega), List.take_succ_eq_append_getElem (by rw [List.length_set]; omega), List.take_set_of_le (Nat.le_refl _)]
    simp
theorem setSeq_drop (us : List Value) : ∀ (l : List Value) (o : Nat), (setSeq l o us).drop (o + us.length) = l.drop (o + us.length) := by
  induction us with
  | nil => intro l o; rfl
  | cons u r ih =>
    intro l o
    rw [setSeq, List.length_cons, show o + (r.length + 1) = (o + 1) + r.length from by omega, ih, List.drop_set_of_lt (by omega)]
theorem set_mid (A B C us : List Value) (h : us.length = B.length) : setSeq (A ++ B ++ C) A.length us = A ++ us ++ C := by
  have h1 := setSeq_take us (A ++ B ++ C) A.length (by simp only [List.length_append]; omega)
  have h2 := setSeq_drop us (A ++ B ++ C) A.length
  rw [← List.take_append_drop (A.length + us.length) (setSeq (A ++ B ++ C) A.length us), h1, h2, List.append_assoc A B C, List.take_left' rfl, ← List.append_assoc A B C, List.drop_left' (by rw [List.length_append]; omega)]
theorem take_set (l : List Value) (i : Nat) (u0 u1 u2 u3 u4 u5 u6 u7 u8 u9 : Value) (h : i * 10 + 10 ≤ l.length) : (((((((((((l.set (i * 10) (u0)).set (i * 10 + 1) (u1)).set (i * 10 + 2) (u2)).set (i * 10 + 3) (u3)).set (i * 10 + 4) (u4)).set (i * 10 + 5) (u5)).set (i * 10 + 6) (u6)).set (i * 10 + 7) (u7)).set (i * 10 + 8) (u8)).set (i * 10 + 9) (u9))).take ((i + 1) * 10) = l.take (i * 10) ++ [u0, u1, u2, u3, u4, u5, u6, u7, u8, u9] := by
  rw [show (i + 1) * 10 = i * 10 + 10 from by omega]
  exact setSeq_take [u0, u1, u2, u3, u4, u5, u6, u7, u8, u9] l (i * 10) h
theorem info : (Tryz.prog.info? 89).map (fun i => (i.zero, i.size, i.bytes)) = some (some (.agg #[.int .i64 0, .int .i64 0, .int .i64 0, .int .i64 0, .int .i64 0, .int .i64 0, .int .i64 0, .slice none 0 0, .slice none 0 0, .slice none 0 0]), 10, 128) := by kernel_rfl


set_option maxRecDepth 100000 in
set_option maxHeartbeats 6400000 in
/-- A copy, in memory of the call's own. -/
theorem to_any (w : World) (v : Value) (l : L) (hc : cost l ≤ 1073741824) (h : Holds w v l) :
    Calls Tryz.prog 47 #[v] w fun e w' => ∃ v' S, e = .returned v' ∧ Own w' w.heap.size v' l S ∧ Below w.heap.size w w' := by
  obtain ⟨i0, hi, hz0, hz1, hz2⟩ := info_parts info
  obtain ⟨a, cap, rfl, hle, hat⟩ := atL h
  have HC := Lib.hid hat
  have hlen : l.length ≤ 1073741824 := Nat.le_trans (Nat.le_add_right _ _) hc
  have HCA := Lib.hid (fun i (hi : i < l.length) => Nat.le_trans (cost_at hi) (Nat.le_trans (Nat.le_add_left _ l.length) hc))
  obtain ⟨M, hM⟩ : ∃ M, M = l.length := ⟨_, rfl⟩
  rw [← hM] at hlen hle ⊢
  have HM := Lib.hid hM
  clear hM hat h hc
  have hro : i0.bytes * M ≤ 281474976710656 := by rw [hz2]; omega
  have HRO := Lib.hid hro
  have HBY := Lib.hid hz2
  clear hro hz2
  go_enter Tryz.func47, Tryz.ntmps47
  go_wp2_with (at_make; refine wpList_make_full _ rfl _ _ 31 rfl w.heap.size 89 i0 (.agg #[.int .i64 0, .int .i64 0, .int .i64 0, .int .i64 0, .int .i64 0, .int .i64 0, .int .i64 0, .slice none 0 0, .slice none 0 0, .slice none 0 0]) 10 Tryz.underlying31 hi hz0 hz1 .i64 .i64 _ _ M rfl rfl rfl rfl ?c1 ?c2 ?c3 ?_)
  case c1 => exact HRO.out
  case c2 => unfold maxLen; omega
  case c3 => exact Nat.le_refl _
  intro w1 hown1 hg1
  have HO1 := Lib.hid hown1
  have HB1 := Lib.hid (show Below w.heap.size w w1 from (Below.refl _ _).grown hg1 (Nat.le_refl _) (fun k hk => by cases hk))
  have hs1 : w.heap.size + 1 ≤ w1.heap.size := by
    rcases hown1.2 with ⟨hh, _⟩ | ⟨g, c', cur, hh, _, hg, _⟩
    · cases hh
    · simp only [Value.slice.injEq, Option.some.injEq, Addr.mk.injEq, and_true, true_and] at hh
      obtain ⟨rfl, _⟩ := hh
      exact (Array.getElem?_eq_some_iff.1 hg).1
  clear hown1 hg1
  go_wp2
  go_loopw [4] (fun iv wr => ∃ (i : Nat) (es : List El) (lst : List Value), i ≤ M ∧ iv = .int .i64 i ∧ es.length = i ∧ ns es = l.take i ∧ wr.ownsRow w.heap.size 89 10 (.slice (some ⟨w.heap.size, 0, none⟩) M M) M lst ∧ lst.take (i * 10) = cells es ∧ (∀ e ∈ es, In.Own wr (w.heap.size + 1) e.2.1 e.1 e.2.2) ∧ (fps es).Nodup ∧ w.heap.size + 1 ≤ wr.heap.size ∧ Below w.heap.size w wr) (fun iv _ => M - (intOf iv).toNat)
  case atStart => exact ⟨0, [], _, Nat.zero_le _, rfl, rfl, by simp [ns], HO1.out, by simp [cells], (fun e he => by cases he), by simp [fps], hs1, HB1.out⟩
  case round =>
    obtain ⟨i, es, lst, hi, rfl, hel, hns, hown, htake, hes, hnd, hsz, hbel⟩ := hrel
    have HEL := Lib.hid hel
    have HNS := Lib.hid hns
    have HO := Lib.hid hown
    have HT := Lib.hid htake
    have HES := Lib.hid hes
    have HND := Lib.hid hnd
    have HB := Lib.hid hbel
    clear hel hns hown htake hes hnd hbel HO1 HB1 hs1
    by_cases hlt : i < M
    · have hlx : i < l.length := by rw [← HM.out]; exact hlt
      have HTK := Lib.hid (show l.take (i + 1) = l.take i ++ [l.getD i z0] from by rw [List.take_succ_eq_append_getElem hlx]; simp [List.getD, List.getElem?_eq_getElem hlx])
      have hll : i * 10 + 10 ≤ lst.length := by have := HO.out.1; have := Nat.mul_le_mul_right 10 (show i + 1 ≤ M by omega); rw [Nat.succ_mul] at this; omega
      obtain ⟨b, o, rfl, hb, r0, r1, r2, hC, hP⟩ := HC.out i hlx
      have HP := Lib.hid (parts_holds (parts_below hP HB.out))
      obtain ⟨h0, h1, h2⟩ := hP
      obtain ⟨a0, d0, rfl⟩ := NiF.form h0
      obtain ⟨a1, d1, rfl⟩ := AeF.form h1
      obtain ⟨a2, d2, rfl⟩ := AeF.form h2
      obtain ⟨g0, g1, g2, g3, g4, g5, g6, g7, g8, g9⟩ := hC.below hb HB.out
      clear hC h0 h1 h2
      have hcx := HCA.out i hlx
      generalize l.getD i z0 = x at g0 g1 g2 g3 g4 g5 g6 g7 g8 g9 HP hcx HTK
      go_wp2_with fail
      refine (In.to_any _ _ x (by omega) HP.out).mono ?_
      rintro e w2 ⟨y, Sy, rfl, hoy, hb2⟩
      have hly := In.own_lies hoy
      have hndy := In.own_nodup hoy
      have hs2 := hb2.size
      have HB2 := Lib.hid (HB.out.trans (hb2.mono HB.out.size))
      have hown := Strs.own_below HO.out hb2
      obtain ⟨r0, r1, r2, S0, S1, S2, rfl, hSy, hndS, ho0, ho1, ho2⟩ := hoy
      obtain ⟨b0, e0, rfl⟩ := NiF.own_form ho0
      obtain ⟨b1, e1, rfl⟩ := AeF.own_form ho1
      obtain ⟨b2, e2, rfl⟩ := AeF.own_form ho2
      have hoy2 : In.Own w2 wr.heap.size (.agg #[.int .i64 x.kind, .int .i64 x.mode, .int .i64 x.uid, .int .i64 x.gid, .int .i64 x.links, .int .i64 x.size, .int .i64 x.tick, .slice b0 x.blocks.length e0, .slice b1 x.acl.length e1, .slice b2 x.dflt.length e2]) x Sy := ⟨_, _, _, _, _, _, rfl, hSy, hndS, ho0, ho1, ho2⟩
      have hc0 := hown.cellAt (i * 10) (by have := HO.out.1; omega)
      rw [List.getElem?_eq_getElem (show i * 10 < lst.length by omega)] at hc0
      have hf0 := hown.frozenAt (i * 10)
      have hc1 := hown.cellAt (i * 10 + 1) (by have := HO.out.1; omega)
      rw [List.getElem?_eq_getElem (show i * 10 + 1 < lst.length by omega)] at hc1
      have hf1 := hown.frozenAt (i * 10 + 1)
      have hc2 := hown.cellAt (i * 10 + 2) (by have := HO.out.1; omega)
      rw [List.getElem?_eq_getElem (show i * 10 + 2 < lst.length by omega)] at hc2
      have hf2 := hown.frozenAt (i * 10 + 2)
      have hc3 := hown.cellAt (i * 10 + 3) (by have := HO.out.1; omega)
      rw [List.getElem?_eq_getElem (show i * 10 + 3 < lst.length by omega)] at hc3
      have hf3 := hown.frozenAt (i * 10 + 3)
      have hc4 := hown.cellAt (i * 10 + 4) (by have := HO.out.1; omega)
      rw [List.getElem?_eq_getElem (show i * 10 + 4 < lst.length by omega)] at hc4
      have hf4 := hown.frozenAt (i * 10 + 4)
      have hc5 := hown.cellAt (i * 10 + 5) (by have := HO.out.1; omega)
      rw [List.getElem?_eq_getElem (show i * 10 + 5 < lst.length by omega)] at hc5
      have hf5 := hown.frozenAt (i * 10 + 5)
      have hc6 := hown.cellAt (i * 10 + 6) (by have := HO.out.1; omega)
      rw [List.getElem?_eq_getElem (show i * 10 + 6 < lst.length by omega)] at hc6
      have hf6 := hown.frozenAt (i * 10 + 6)
      have hc7 := hown.cellAt (i * 10 + 7) (by have := HO.out.1; omega)
      rw [List.getElem?_eq_getElem (show i * 10 + 7 < lst.length by omega)] at hc7
      have hf7 := hown.frozenAt (i * 10 + 7)
      have hc8 := hown.cellAt (i * 10 + 8) (by have := HO.out.1; omega)
      rw [List.getElem?_eq_getElem (show i * 10 + 8 < lst.length by omega)] at hc8
      have hf8 := hown.frozenAt (i * 10 + 8)
      have hc9 := hown.cellAt (i * 10 + 9) (by have := HO.out.1; omega)
      rw [List.getElem?_eq_getElem (show i * 10 + 9 < lst.length by omega)] at hc9
      have hf9 := hown.frozenAt (i * 10 + 9)
      have hst := ((((((((((hown.stored (i * 10) (.int .i64 x.kind)).1.stored (i * 10 + 1) (.int .i64 x.mode)).1.stored (i * 10 + 2) (.int .i64 x.uid)).1.stored (i * 10 + 3) (.int .i64 x.gid)).1.stored (i * 10 + 4) (.int .i64 x.links)).1.stored (i * 10 + 5) (.int .i64 x.size)).1.stored (i * 10 + 6) (.int .i64 x.tick)).1.stored (i * 10 + 7) (.slice b0 x.blocks.length e0)).1.stored (i * 10 + 8) (.slice b1 x.acl.length e1)).1.stored (i * 10 + 9) (.slice b2 x.dflt.length e2))
      have hts := take_set lst i (.int .i64 x.kind) (.int .i64 x.mode) (.int .i64 x.uid) (.int .i64 x.gid) (.int .i64 x.links) (.int .i64 x.size) (.int .i64 x.tick) (.slice b0 x.blocks.length e0) (.slice b1 x.acl.length e1) (.slice b2 x.dflt.length e2) hll
      rw [HT.out] at hts
      have HST := Lib.hid hst.1
      have HBF := Lib.hid (show Below w.heap.size w ((((((((((w2.setCell ⟨w.heap.size, i * 10, none⟩ (.int .i64 x.kind)).setCell ⟨w.heap.size, i * 10 + 1, none⟩ (.int .i64 x.mode)).setCell ⟨w.heap.size, i * 10 + 2, none⟩ (.int .i64 x.uid)).setCell ⟨w.heap.size, i * 10 + 3, none⟩ (.int .i64 x.gid)).setCell ⟨w.heap.size, i * 10 + 4, none⟩ (.int .i64 x.links)).setCell ⟨w.heap.size, i * 10 + 5, none⟩ (.int .i64 x.size)).setCell ⟨w.heap.size, i * 10 + 6, none⟩ (.int .i64 x.tick)).setCell ⟨w.heap.size, i * 10 + 7, none⟩ (.slice b0 x.blocks.length e0)).setCell ⟨w.heap.size, i * 10 + 8, none⟩ (.slice b1 x.acl.length e1)).setCell ⟨w.heap.size, i * 10 + 9, none⟩ (.slice b2 x.dflt.length e2)) from ((((((((((HB2.out.setCell (Nat.le_refl _) _).setCell (Nat.le_refl _) _).setCell (Nat.le_refl _) _).setCell (Nat.le_refl _) _).setCell (Nat.le_refl _) _).setCell (Nat.le_refl _) _).setCell (Nat.le_refl _) _).setCell (Nat.le_refl _) _).setCell (Nat.le_refl _) _).setCell (Nat.le_refl _) _))
      have HEF := Lib.hid (show ∀ e ∈ es ++ [((x, .agg #[.int .i64 x.kind, .int .i64 x.mode, .int .i64 x.uid, .int .i64 x.gid, .int .i64 x.links, .int .i64 x.size, .int .i64 x.tick, .slice b0 x.blocks.length e0, .slice b1 x.acl.length e1, .slice b2 x.dflt.length e2], Sy) : El)], In.Own ((((((((((w2.setCell ⟨w.heap.size, i * 10, none⟩ (.int .i64 x.kind)).setCell ⟨w.heap.size, i * 10 + 1, none⟩ (.int .i64 x.mode)).setCell ⟨w.heap.size, i * 10 + 2, none⟩ (.int .i64 x.uid)).setCell ⟨w.heap.size, i * 10 + 3, none⟩ (.int .i64 x.gid)).setCell ⟨w.heap.size, i * 10 + 4, none⟩ (.int .i64 x.links)).setCell ⟨w.heap.size, i * 10 + 5, none⟩ (.int .i64 x.size)).setCell ⟨w.heap.size, i * 10 + 6, none⟩ (.int .i64 x.tick)).setCell ⟨w.heap.size, i * 10 + 7, none⟩ (.slice b0 x.blocks.length e0)).setCell ⟨w.heap.size, i * 10 + 8, none⟩ (.slice b1 x.acl.length e1)).setCell ⟨w.heap.size, i * 10 + 9, none⟩ (.slice b2 x.dflt.length e2)) (w.heap.size + 1) e.2.1 e.1 e.2.2 from fun e he => by
        rcases List.mem_append.1 he with he | he
        · have := In.own_below (HES.out e he) hb2
          exact (In.own_set (In.own_set (In.own_set (In.own_set (In.own_set (In.own_set (In.own_set (In.own_set (In.own_set (In.own_set this (a := ⟨w.heap.size, i * 10, none⟩) (by first | (simp; done) | (simp; omega)) (.int .i64 x.kind)) (a := ⟨w.heap.size, i * 10 + 1, none⟩) (by first | (simp; done) | (simp; omega)) (.int .i64 x.mode)) (a := ⟨w.heap.size, i * 10 + 2, none⟩) (by first | (simp; done) | (simp; omega)) (.int .i64 x.uid)) (a := ⟨w.heap.size, i * 10 + 3, none⟩) (by first | (simp; done) | (simp; omega)) (.int .i64 x.gid)) (a := ⟨w.heap.size, i * 10 + 4, none⟩) (by first | (simp; done) | (simp; omega)) (.int .i64 x.links)) (a := ⟨w.heap.size, i * 10 + 5, none⟩) (by first | (simp; done) | (simp; omega)) (.int .i64 x.size)) (a := ⟨w.heap.size, i * 10 + 6, none⟩) (by first | (simp; done) | (simp; omega)) (.int .i64 x.tick)) (a := ⟨w.heap.size, i * 10 + 7, none⟩) (by first | (simp; done) | (simp; omega)) (.slice b0 x.blocks.length e0)) (a := ⟨w.heap.size, i * 10 + 8, none⟩) (by first | (simp; done) | (simp; omega)) (.slice b1 x.acl.length e1)) (a := ⟨w.heap.size, i * 10 + 9, none⟩) (by first | (simp; done) | (simp; omega)) (.slice b2 x.dflt.length e2))
        · rw [List.mem_singleton] at he
          subst he
          exact In.own_mono ((In.own_set (In.own_set (In.own_set (In.own_set (In.own_set (In.own_set (In.own_set (In.own_set (In.own_set (In.own_set hoy2 (a := ⟨w.heap.size, i * 10, none⟩) (by first | (simp; done) | (simp; omega)) (.int .i64 x.kind)) (a := ⟨w.heap.size, i * 10 + 1, none⟩) (by first | (simp; done) | (simp; omega)) (.int .i64 x.mode)) (a := ⟨w.heap.size, i * 10 + 2, none⟩) (by first | (simp; done) | (simp; omega)) (.int .i64 x.uid)) (a := ⟨w.heap.size, i * 10 + 3, none⟩) (by first | (simp; done) | (simp; omega)) (.int .i64 x.gid)) (a := ⟨w.heap.size, i * 10 + 4, none⟩) (by first | (simp; done) | (simp; omega)) (.int .i64 x.links)) (a := ⟨w.heap.size, i * 10 + 5, none⟩) (by first | (simp; done) | (simp; omega)) (.int .i64 x.size)) (a := ⟨w.heap.size, i * 10 + 6, none⟩) (by first | (simp; done) | (simp; omega)) (.int .i64 x.tick)) (a := ⟨w.heap.size, i * 10 + 7, none⟩) (by first | (simp; done) | (simp; omega)) (.slice b0 x.blocks.length e0)) (a := ⟨w.heap.size, i * 10 + 8, none⟩) (by first | (simp; done) | (simp; omega)) (.slice b1 x.acl.length e1)) (a := ⟨w.heap.size, i * 10 + 9, none⟩) (by first | (simp; done) | (simp; omega)) (.slice b2 x.dflt.length e2))) hsz)
      have HTF := Lib.hid (show (((((((((((lst.set (i * 10) (.int .i64 x.kind)).set (i * 10 + 1) (.int .i64 x.mode)).set (i * 10 + 2) (.int .i64 x.uid)).set (i * 10 + 3) (.int .i64 x.gid)).set (i * 10 + 4) (.int .i64 x.links)).set (i * 10 + 5) (.int .i64 x.size)).set (i * 10 + 6) (.int .i64 x.tick)).set (i * 10 + 7) (.slice b0 x.blocks.length e0)).set (i * 10 + 8) (.slice b1 x.acl.length e1)).set (i * 10 + 9) (.slice b2 x.dflt.length e2))).take ((i + 1) * 10) = cells (es ++ [((x, .agg #[.int .i64 x.kind, .int .i64 x.mode, .int .i64 x.uid, .int .i64 x.gid, .int .i64 x.links, .int .i64 x.size, .int .i64 x.tick, .slice b0 x.blocks.length e0, .slice b1 x.acl.length e1, .slice b2 x.dflt.length e2], Sy) : El)]) from hts.trans (by rw [cells_app]; rfl))
      have HNF := Lib.hid (show ns (es ++ [((x, .agg #[.int .i64 x.kind, .int .i64 x.mode, .int .i64 x.uid, .int .i64 x.gid, .int .i64 x.links, .int .i64 x.size, .int .i64 x.tick, .slice b0 x.blocks.length e0, .slice b1 x.acl.length e1, .slice b2 x.dflt.length e2], Sy) : El)]) = l.take (i + 1) from by rw [HTK.out, ← HNS.out]; simp [ns])
      have HDF := Lib.hid (show (fps (es ++ [((x, .agg #[.int .i64 x.kind, .int .i64 x.mode, .int .i64 x.uid, .int .i64 x.gid, .int .i64 x.links, .int .i64 x.size, .int .i64 x.tick, .slice b0 x.blocks.length e0, .slice b1 x.acl.length e1, .slice b2 x.dflt.length e2], Sy) : El)])).Nodup from by
        rw [fps_app]
        refine nodup_app HND.out (by simpa [fps] using hndy) ?_
        have h1 := fps_lies HES.out
        intro z hz hz2
        have h2 : z ∈ Sy := by simpa [fps] using hz2
        have := h1 z hz
        have := hly z h2
        omega)
      have hsF : w.heap.size + 1 ≤ w2.heap.size := by omega
      clear hst hts hown g0 g1 g2 g3 g4 g5 g6 g7 g8 g9 hb2 hoy2 ho0 ho1 ho2 hly hndy hSy hndS
      generalize lst[i * 10] = y0 at hc0
      generalize lst[i * 10 + 1] = y1 at hc1
      generalize lst[i * 10 + 2] = y2 at hc2
      generalize lst[i * 10 + 3] = y3 at hc3
      generalize lst[i * 10 + 4] = y4 at hc4
      generalize lst[i * 10 + 5] = y5 at hc5
      generalize lst[i * 10 + 6] = y6 at hc6
      generalize lst[i * 10 + 7] = y7 at hc7
      generalize lst[i * 10 + 8] = y8 at hc8
      generalize lst[i * 10 + 9] = y9 at hc9
      go_wp2
      go_roundw
      case rel => exact ⟨i + 1, _, _, by omega, by go_num, by simp [HEL.out], HNF.out, HST.out, HTF.out, HEF.out, HDF.out, by simp; omega, HBF.out⟩
      case measure => simp [intOf]; omega
    · obtain rfl : i = M := by omega
      go_wp2
      go_ret
      have hnl : ns es = l := by rw [HNS.out, List.take_of_length_le (by rw [← HM.out]; exact Nat.le_refl _)]
      have hcl : lst = cells es := by rw [← HT.out, List.take_of_length_le (by rw [HO.out.1]; exact Nat.le_refl _)]
      refine ⟨_, _, rfl, ⟨es, hnl, ?_, rfl, ?_, fun e he => In.own_mono (HES.out e he) (by omega)⟩, HB.out⟩
      · rw [← HM.out, ← hcl]; exact HO.out
      · refine nodup_app (fpR_nodup _) HND.out fun x hx hx2 => ?_
        have h1 := fps_lies HES.out x hx2
        simp [fpR, Value.ownBlock] at hx
        omega


set_option maxRecDepth 100000 in
set_option maxHeartbeats 6400000 in
theorem eq_any (w : World) (va vb : Value) (l : L) (hc : cost l ≤ 1073741824) (h : Holds w va l) (h' : Holds w vb l) :
    Calls Tryz.prog 52 #[va, vb] w fun e w' => e = .returned (.bool true) ∧ Below w.heap.size w w' := by
  obtain ⟨a1, c1, rfl, hle1, hat1⟩ := atL h
  obtain ⟨a2, c2, rfl, hle2, hat2⟩ := atL h'
  have HC1 := Lib.hid hat1
  have HC2 := Lib.hid hat2
  have hlen : l.length ≤ 1073741824 := Nat.le_trans (Nat.le_add_right _ _) hc
  have HCA := Lib.hid (fun i (hi : i < l.length) => Nat.le_trans (cost_at hi) (Nat.le_trans (Nat.le_add_left _ l.length) hc))
  obtain ⟨M, hM⟩ : ∃ M, M = l.length := ⟨_, rfl⟩
  rw [← hM] at hlen hle1 hle2 ⊢
  have HM := Lib.hid hM
  clear hM hat1 hat2 h h' hc
  go_enter Tryz.func52, Tryz.ntmps52
  go_wp2
  go_loopw [5] (fun iv wr => ∃ i : Nat, i ≤ M ∧ iv = .int .i64 i ∧ Below w.heap.size w wr) (fun iv _ => M - (intOf iv).toNat)
  case atStart => exact ⟨0, Nat.zero_le _, rfl, Below.refl _ _⟩
  case round =>
    obtain ⟨i, hi, rfl, hbel⟩ := hrel
    have HB := Lib.hid hbel
    have hsz := hbel.size
    clear hbel
    by_cases hlt : i < M
    · have hlx : i < l.length := by rw [← HM.out]; exact hlt
      have hcx := HCA.out i hlx
      obtain ⟨b1, o1, rfl, hb1, r0, r1, r2, hC, hP⟩ := HC1.out i hlx
      have HP := Lib.hid (parts_holds (parts_below hP HB.out))
      obtain ⟨h0, h1, h2⟩ := hP
      obtain ⟨pa0, pd0, rfl⟩ := NiF.form h0
      obtain ⟨pa1, pd1, rfl⟩ := AeF.form h1
      obtain ⟨pa2, pd2, rfl⟩ := AeF.form h2
      obtain ⟨g0, g1, g2, g3, g4, g5, g6, g7, g8, g9⟩ := hC.below hb1 HB.out
      clear hC h0 h1 h2
      obtain ⟨b2, o2, rfl, hb2, r0, r1, r2, hC, hP⟩ := HC2.out i hlx
      have HQ := Lib.hid (parts_holds (parts_below hP HB.out))
      obtain ⟨h0, h1, h2⟩ := hP
      obtain ⟨qa0, qd0, rfl⟩ := NiF.form h0
      obtain ⟨qa1, qd1, rfl⟩ := AeF.form h1
      obtain ⟨qa2, qd2, rfl⟩ := AeF.form h2
      obtain ⟨k0, k1, k2, k3, k4, k5, k6, k7, k8, k9⟩ := hC.below hb2 HB.out
      clear hC h0 h1 h2
      generalize l.getD i z0 = x at g0 k0 g1 k1 g2 k2 g3 k3 g4 k4 g5 k5 g6 k6 g7 k7 g8 k8 g9 k9 HP HQ hcx
      have HD1 := Lib.hid (show In.Holds wr.drew _ x from HP.out)
      have HD2 := Lib.hid (show In.Holds wr.drew _ x from HQ.out)
      go_wp2
      go_region_held3 (fun w' => w'.cell? ⟨b1, o1 + i * 10, none⟩ = some (.int .i64 x.kind) ∧ w'.cell? ⟨b1, o1 + i * 10 + 1, none⟩ = some (.int .i64 x.mode) ∧ w'.cell? ⟨b1, o1 + i * 10 + 2, none⟩ = some (.int .i64 x.uid) ∧ w'.cell? ⟨b1, o1 + i * 10 + 3, none⟩ = some (.int .i64 x.gid) ∧ w'.cell? ⟨b1, o1 + i * 10 + 4, none⟩ = some (.int .i64 x.links) ∧ w'.cell? ⟨b1, o1 + i * 10 + 5, none⟩ = some (.int .i64 x.size) ∧ w'.cell? ⟨b1, o1 + i * 10 + 6, none⟩ = some (.int .i64 x.tick) ∧ w'.cell? ⟨b1, o1 + i * 10 + 7, none⟩ = some (.slice pa0 x.blocks.length pd0) ∧ w'.cell? ⟨b1, o1 + i * 10 + 8, none⟩ = some (.slice pa1 x.acl.length pd1) ∧ w'.cell? ⟨b1, o1 + i * 10 + 9, none⟩ = some (.slice pa2 x.dflt.length pd2) ∧ w'.cell? ⟨b2, o2 + i * 10, none⟩ = some (.int .i64 x.kind) ∧ w'.cell? ⟨b2, o2 + i * 10 + 1, none⟩ = some (.int .i64 x.mode) ∧ w'.cell? ⟨b2, o2 + i * 10 + 2, none⟩ = some (.int .i64 x.uid) ∧ w'.cell? ⟨b2, o2 + i * 10 + 3, none⟩ = some (.int .i64 x.gid) ∧ w'.cell? ⟨b2, o2 + i * 10 + 4, none⟩ = some (.int .i64 x.links) ∧ w'.cell? ⟨b2, o2 + i * 10 + 5, none⟩ = some (.int .i64 x.size) ∧ w'.cell? ⟨b2, o2 + i * 10 + 6, none⟩ = some (.int .i64 x.tick) ∧ w'.cell? ⟨b2, o2 + i * 10 + 7, none⟩ = some (.slice qa0 x.blocks.length qd0) ∧ w'.cell? ⟨b2, o2 + i * 10 + 8, none⟩ = some (.slice qa1 x.acl.length qd1) ∧ w'.cell? ⟨b2, o2 + i * 10 + 9, none⟩ = some (.slice qa2 x.dflt.length qd2)) (go_keep)
        (first | (go_at_call 100; with_reducible refine (In.eq_any _ _ _ x (by omega) HD1.out HD2.out).mono ?_; rintro e w1 ⟨rfl, hbq⟩; have qp0 := (hbq.cell (p := ⟨b1, o1 + i * 10, none⟩) (by simp; omega)); have qp1 := (hbq.cell (p := ⟨b1, o1 + i * 10 + 1, none⟩) (by simp; omega)); have qp2 := (hbq.cell (p := ⟨b1, o1 + i * 10 + 2, none⟩) (by simp; omega)); have qp3 := (hbq.cell (p := ⟨b1, o1 + i * 10 + 3, none⟩) (by simp; omega)); have qp4 := (hbq.cell (p := ⟨b1, o1 + i * 10 + 4, none⟩) (by simp; omega)); have qp5 := (hbq.cell (p := ⟨b1, o1 + i * 10 + 5, none⟩) (by simp; omega)); have qp6 := (hbq.cell (p := ⟨b1, o1 + i * 10 + 6, none⟩) (by simp; omega)); have qp7 := (hbq.cell (p := ⟨b1, o1 + i * 10 + 7, none⟩) (by simp; omega)); have qp8 := (hbq.cell (p := ⟨b1, o1 + i * 10 + 8, none⟩) (by simp; omega)); have qp9 := (hbq.cell (p := ⟨b1, o1 + i * 10 + 9, none⟩) (by simp; omega)); have qq0 := (hbq.cell (p := ⟨b2, o2 + i * 10, none⟩) (by simp; omega)); have qq1 := (hbq.cell (p := ⟨b2, o2 + i * 10 + 1, none⟩) (by simp; omega)); have qq2 := (hbq.cell (p := ⟨b2, o2 + i * 10 + 2, none⟩) (by simp; omega)); have qq3 := (hbq.cell (p := ⟨b2, o2 + i * 10 + 3, none⟩) (by simp; omega)); have qq4 := (hbq.cell (p := ⟨b2, o2 + i * 10 + 4, none⟩) (by simp; omega)); have qq5 := (hbq.cell (p := ⟨b2, o2 + i * 10 + 5, none⟩) (by simp; omega)); have qq6 := (hbq.cell (p := ⟨b2, o2 + i * 10 + 6, none⟩) (by simp; omega)); have qq7 := (hbq.cell (p := ⟨b2, o2 + i * 10 + 7, none⟩) (by simp; omega)); have qq8 := (hbq.cell (p := ⟨b2, o2 + i * 10 + 8, none⟩) (by simp; omega)); have qq9 := (hbq.cell (p := ⟨b2, o2 + i * 10 + 9, none⟩) (by simp; omega))))
      go_wp2
      go_roundw
      case rel => exact ⟨i + 1, by omega, by go_num, HB.out.trans (below_of_drew hbq hsz)⟩
      case measure => simp [intOf]; omega
    · go_wp2
      go_ret
      exact ⟨rfl, HB.out⟩


def marksE (k : Nat) (n : In.L) : In.L := { n with kind := ((k : Nat) : Int), mode := ((k + 1 : Nat) : Int), uid := ((k + 2 : Nat) : Int), gid := ((k + 3 : Nat) : Int), links := ((k + 4 : Nat) : Int), size := ((k + 5 : Nat) : Int), tick := ((k + 6 : Nat) : Int), blocks := NiF.marks (k + 7) n.blocks, acl := AeF.marks (k + 7 + NiF.wid n.blocks) n.acl, dflt := AeF.marks (k + 7 + NiF.wid n.blocks + AeF.wid n.acl) n.dflt }
def widE (n : In.L) : Nat := 7 + NiF.wid n.blocks + AeF.wid n.acl + AeF.wid n.dflt
def marks : Nat → L → L
  | _, [] => []
  | k, x :: r => marksE k x :: marks (k + widE x) r
def wid (l : L) : Nat := (l.map widE).sum
theorem wid_cons (x : In.L) (r : L) : wid (x :: r) = widE x + wid r := by simp [wid]
theorem wid_app (a b : L) : wid (a ++ b) = wid a + wid b := by simp [wid]
theorem wid_snoc (l : L) (i : Nat) (h : i < l.length) : wid (l.take (i + 1)) = wid (l.take i) + widE (l.getD i z0) := by
  rw [List.take_succ_eq_append_getElem h, wid_app]
  simp [wid, List.getD, List.getElem?_eq_getElem h]
theorem wid_take_le (l : L) (i : Nat) : wid (l.take i) ≤ wid l := by
  have : wid l = wid (l.take i) + wid (l.drop i) := by rw [← wid_app, List.take_append_drop]
  omega
theorem widE_cost (n : In.L) : widE n ≤ 10 * (1 + In.cost n) := by
  unfold widE In.cost
  have h0 : NiF.wid n.blocks ≤ 3 * NiF.cost n.blocks := NiF.wid_cost _
  have h1 : AeF.wid n.acl ≤ 3 * AeF.cost n.acl := AeF.wid_cost _
  have h2 : AeF.wid n.dflt ≤ 3 * AeF.cost n.dflt := AeF.wid_cost _
  omega
theorem wid_cost (l : L) : wid l ≤ 10 * cost l := by
  induction l with
  | nil => simp [wid]
  | cons x r ih =>
    have h1 := widE_cost x
    have h2 : cost (x :: r) = 1 + In.cost x + cost r := by unfold cost csum; simp; omega
    rw [wid_cons, h2]
    omega
theorem wid_le {l : L} (h : cost l ≤ 1048576) : 1 + wid l ≤ 1073741824 := by have := wid_cost l; omega
theorem marks_length : ∀ (k : Nat) (l : L), (marks k l).length = l.length
  | _, [] => rfl
  | k, x :: r => by rw [marks, List.length_cons, List.length_cons, marks_length]
theorem marks_app : ∀ (k : Nat) (a b : L), marks k (a ++ b) = marks k a ++ marks (k + wid a) b
  | k, [], b => by simp [marks, wid]
  | k, x :: r, b => by
    rw [List.cons_append, marks, marks, List.cons_append, marks_app, wid_cons, Nat.add_assoc]
theorem marks_snoc (k : Nat) (l : L) (i : Nat) (h : i < l.length) : marks k (l.take (i + 1)) = marks k (l.take i) ++ [marksE (k + wid (l.take i)) (l.getD i z0)] := by
  rw [List.take_succ_eq_append_getElem h, marks_app]
  simp [marks, List.getD, List.getElem?_eq_getElem h]
theorem marks_getD (k : Nat) (l : L) (i : Nat) (h : i < l.length) : (marks k l).getD i z0 = marksE (k + wid (l.take i)) (l.getD i z0) := by
  have e : l = l.take i ++ (l.getD i z0 :: l.drop (i + 1)) := by
    rw [List.getD_eq_getElem?_getD, List.getElem?_eq_getElem h]
    simp
  have hl : (marks k (l.take i)).length = i := by rw [marks_length, List.length_take]; omega
  conv => lhs; rw [e]
  rw [marks_app, marks, List.getD_eq_getElem?_getD, List.getElem?_append_right (by omega), hl, Nat.sub_self]
  rfl
theorem apart_one {S : List Nat} {g : Nat} (h : g ∉ S) : Apart S [g] := fun z hz hz2 => by
  rw [List.mem_singleton] at hz2
  subst hz2
  exact h hz
/-- One element, in the middle of the list, has turned. -/
theorem own_mid {w w' : World} {base g : Nat} {done rest : List El} {e e' : El} {S : List Nat} (hS : S = fpR (.slice (some ⟨g, 0, none⟩) 0 0) ++ fps (done ++ e :: rest)) (hnd : S.Nodup) (hel : ∀ x ∈ done ++ e :: rest, In.Own w base x.2.1 x.1 x.2.2) (hc : Chg w w' (g :: e.2.2)) (he' : In.Own w' base e'.2.1 e'.1 e'.2.2) : ∀ x ∈ done ++ e' :: rest, In.Own w' base x.2.1 x.1 x.2.2 := by
  subst hS
  have hfp : fpR (.slice (some ⟨g, 0, none⟩) 0 0) = [g] := rfl
  rw [hfp, fps_app, show fps (e :: rest) = e.2.2 ++ fps rest from by simp [fps]] at hnd
  obtain ⟨_, h2, h3⟩ := nodup_parts hnd
  obtain ⟨_, h5, h6⟩ := nodup_parts h2
  obtain ⟨_, _, h9⟩ := nodup_parts h5
  have key : ∀ x : El, x ∈ done ∨ x ∈ rest → Apart x.2.2 (g :: e.2.2) := by
    intro x hx z hz hz2
    rcases List.mem_cons.1 hz2 with rfl | hz2
    · refine h3 z (by simp) ?_
      rcases hx with hx | hx
      · exact List.mem_append.2 (.inl (mem_fps hx hz))
      · exact List.mem_append.2 (.inr (List.mem_append.2 (.inr (mem_fps hx hz))))
    · rcases hx with hx | hx
      · exact h6 z (mem_fps hx hz) (List.mem_append.2 (.inl hz2))
      · exact h9 z hz2 (mem_fps hx hz)
  intro x hx
  rcases List.mem_append.1 hx with hx | hx
  · exact In.own_chg (hel x (List.mem_append.2 (.inl hx))) hc (key x (.inl hx))
  · rcases List.mem_cons.1 hx with rfl | hx
    · exact he'
    · exact In.own_chg (hel x (List.mem_append.2 (.inr (List.mem_cons.2 (.inr hx))))) hc (key x (.inr hx))

set_option maxRecDepth 100000 in
set_option maxHeartbeats 1000000 in
theorem mark_any (w : World) (base : Nat) (v : Value) (l : L) (S : List Nat) (k : Nat) (hk : 1 ≤ k) (hn : k + wid l ≤ 1073741824) (h : Own w base v l S) :
    Calls Tryz.prog 58 #[v, .int .i64 k] w fun e w' => e = .returned (.int .i64 (k + wid l : Nat)) ∧ Own w' base v (marks k l) S ∧ Chg w w' S := by
  obtain ⟨es, hns, hrow, hS, hnd, hel⟩ := h
  unfold Own
  rw [marks_length]
  have hesl : es.length = l.length := by rw [← hns, ns_length]
  have HWT := Lib.hid (wid_take_le l)
  have HWS := Lib.hid (wid_snoc l)
  have HMS := Lib.hid (marks_snoc k l)
  obtain ⟨M, hM⟩ : ∃ M, M = l.length := ⟨_, rfl⟩
  rw [← hM] at hrow hesl ⊢
  have hMl : M ≤ 1073741824 := by
    have : l.length ≤ wid l := by
      clear hM hns HWT HWS HMS hn
      induction l with
      | nil => simp
      | cons x r ih => rw [wid_cons, List.length_cons]; unfold widE; omega
    omega
  have HM := Lib.hid hM
  have HESL := Lib.hid hesl
  have HNS := Lib.hid hns
  clear hM hns hesl
  obtain ⟨N, hN⟩ : ∃ N, N = wid l := ⟨_, rfl⟩
  rw [← hN] at hn HWT ⊢
  have HN := Lib.hid hN
  clear hN
  by_cases h0 : M = 0
  · subst h0
    obtain rfl : es = [] := List.eq_nil_of_length_eq_zero HESL.out
    obtain rfl : l = [] := List.eq_nil_of_length_eq_zero HM.out.symm
    have hN0 : N = 0 := HN.out
    subst hN0
    have HO := Lib.hid hrow
    have HS := Lib.hid hS
    have HND := Lib.hid hnd
    obtain ⟨a, cap, rfl⟩ := Dk.slice_of hrow
    clear hrow hS hnd hel
    go_enter Tryz.func58, Tryz.ntmps58
    go_wp2
    refine wp_loop_rounds 1 ?_
    rw [rounds_succ]
    go_wp2
    go_ret
    exact ⟨by simp, ⟨[], rfl, HO.out, HS.out, HND.out, fun e he => by cases he⟩, Chg.refl _ _⟩
  · obtain ⟨g, cap, rfl, hbg⟩ : ∃ g cap, v = .slice (some ⟨g, 0, none⟩) M cap ∧ g < w.heap.size := by
      rcases hrow.2 with ⟨_, hz⟩ | ⟨g, cap, cur, rfl, _, hg, _⟩
      · exact absurd hz h0
      · exact ⟨g, cap, rfl, (Array.getElem?_eq_some_iff.1 hg).1⟩
    have HS := Lib.hid (show S = fpR (.slice (some ⟨g, 0, none⟩) 0 0) ++ fps es from hS)
    have HND := Lib.hid hnd
    have HO := Lib.hid hrow
    have HEL := Lib.hid hel
    clear hS hnd hrow hel h0
    go_enter Tryz.func58, Tryz.ntmps58
    go_wp2
    go_loopw [1, 5] (fun kv iv wr => ∃ (i : Nat) (done rest : List El), i ≤ M ∧ iv = .int .i64 i ∧ kv = .int .i64 ((k + wid (l.take i) : Nat)) ∧ done.length = i ∧ rest = es.drop i ∧ ns done = marks k (l.take i) ∧ fps done = fps (es.take i) ∧ wr.ownsRow base 89 10 (.slice (some ⟨g, 0, none⟩) M cap) M (cells (done ++ rest)) ∧ (∀ e ∈ done ++ rest, In.Own wr base e.2.1 e.1 e.2.2) ∧ Chg w wr S) (fun _ iv _ => M - (intOf iv).toNat)
    case atStart => exact ⟨0, [], es, Nat.zero_le _, rfl, by simp [wid], rfl, rfl, rfl, rfl, HO.out, HEL.out, Chg.refl _ _⟩
    case round =>
      obtain ⟨i, done, rest, hi, rfl, rfl, hdl, hrest, hnsd, hfpd, hrow, hel, hchg⟩ := hrel
      have HDL := Lib.hid hdl
      have HREST := Lib.hid hrest
      have HNSD := Lib.hid hnsd
      have HFPD := Lib.hid hfpd
      have HROW := Lib.hid hrow
      have HE := Lib.hid hel
      have HCH := Lib.hid hchg
      clear hdl hrest hnsd hfpd hrow hel hchg HO HEL
      by_cases hlt : i < M
      · have hlx : i < l.length := by rw [← HM.out]; exact hlt
        have hle : i < es.length := by rw [HESL.out]; exact hlt
        obtain ⟨e0, hr2⟩ : ∃ e0, rest = e0 :: es.drop (i + 1) ∧ e0 = es[i] := ⟨es[i], by rw [HREST.out, List.drop_eq_getElem_cons hle], rfl⟩
        obtain ⟨rfl, he0⟩ := hr2
        have hxe : l.getD i z0 = e0.1 := by
          rw [he0, ← HNS.out, List.getD_eq_getElem?_getD, ns, List.getElem?_map, List.getElem?_eq_getElem hle]; rfl
        have HTK := Lib.hid (show es.take (i + 1) = es.take i ++ [e0] from by rw [List.take_succ_eq_append_getElem hle, he0])
        have hws := HWS.out i hlx
        have hms := HMS.out i hlx
        have hwt := HWT.out (i + 1)
        rw [hxe] at hws hms
        obtain ⟨n0, y0, S00⟩ := e0
        have hme := HE.out (n0, y0, S00) (by simp)
        obtain ⟨r0, r1, r2, S0, S1, S2, hy, hSS, hndS, ho0, ho1, ho2⟩ := hme
        dsimp only at hy hSS hndS ho0 ho1 ho2 hws hms
        obtain ⟨a0, d0, rfl⟩ := NiF.own_form ho0
        obtain ⟨a1, d1, rfl⟩ := AeF.own_form ho1
        obtain ⟨a2, d2, rfl⟩ := AeF.own_form ho2
        subst hy
        obtain ⟨K, hK⟩ : ∃ K, K = k + wid (l.take i) := ⟨_, rfl⟩
        rw [← hK] at hms ⊢
        have HK := Lib.hid (show k + wid (l.take (i + 1)) = K + widE n0 by omega)
        have HKE := Lib.hid hK
        have hKl : K + widE n0 ≤ 1073741824 := by omega
        unfold widE at hKl
        have hK1 : 1 ≤ K := by omega
        have HMS2 := Lib.hid hms
        have HXE := Lib.hid hxe
        have HHE := Lib.hid he0
        have HSS := Lib.hid hSS
        have HNDS := Lib.hid hndS
        rw [hSS] at hndS
        have HND3 := Lib.hid hndS
        clear hws hms hwt hK hxe he0 hSS hndS
        have hcd : (cells done).length = i * 10 := by rw [cells_len (w := wr) (base := base) (fun e he => HE.out e (List.mem_append.2 (.inl he))), HDL.out]
        have hsp : cells (done ++ (n0, .agg #[.int .i64 n0.kind, .int .i64 n0.mode, .int .i64 n0.uid, .int .i64 n0.gid, .int .i64 n0.links, .int .i64 n0.size, .int .i64 n0.tick, .slice a0 n0.blocks.length d0, .slice a1 n0.acl.length d1, .slice a2 n0.dflt.length d2], S00) :: es.drop (i + 1)) = cells done ++ ([.int .i64 n0.kind, .int .i64 n0.mode, .int .i64 n0.uid, .int .i64 n0.gid, .int .i64 n0.links, .int .i64 n0.size, .int .i64 n0.tick, .slice a0 n0.blocks.length d0, .slice a1 n0.acl.length d1, .slice a2 n0.dflt.length d2] : List Value) ++ cells (es.drop (i + 1)) := by
          rw [cells_app, List.append_assoc]; rfl
        have hrow := HROW.out
        rw [hsp] at hrow
        have hlenr := hrow.1
        have hlr : i * 10 + 10 ≤ M * 10 := by have := Nat.mul_le_mul_right 10 (show i + 1 ≤ M by omega); rw [Nat.succ_mul] at this; omega
        have HSP := Lib.hid (show ((((((((cells done ++ ([.int .i64 n0.kind, .int .i64 n0.mode, .int .i64 n0.uid, .int .i64 n0.gid, .int .i64 n0.links, .int .i64 n0.size, .int .i64 n0.tick, .slice a0 n0.blocks.length d0, .slice a1 n0.acl.length d1, .slice a2 n0.dflt.length d2] : List Value) ++ cells (es.drop (i + 1))).set (i * 10) (.int .i64 (K : Int))).set (i * 10 + 1) (.int .i64 ((K : Int) + 1))).set (i * 10 + 2) (.int .i64 ((K : Int) + 2))).set (i * 10 + 3) (.int .i64 ((K : Int) + 3))).set (i * 10 + 4) (.int .i64 ((K : Int) + 4))).set (i * 10 + 5) (.int .i64 ((K : Int) + 5))).set (i * 10 + 6) (.int .i64 ((K : Int) + 6))) = cells (done ++ (marksE K n0, .agg #[.int .i64 (K : Int), .int .i64 ((K : Int) + 1), .int .i64 ((K : Int) + 2), .int .i64 ((K : Int) + 3), .int .i64 ((K : Int) + 4), .int .i64 ((K : Int) + 5), .int .i64 ((K : Int) + 6), .slice a0 n0.blocks.length d0, .slice a1 n0.acl.length d1, .slice a2 n0.dflt.length d2], S00) :: es.drop (i + 1)) from by
          have h1 := set_mid (cells done) [.int .i64 n0.kind, .int .i64 n0.mode, .int .i64 n0.uid, .int .i64 n0.gid, .int .i64 n0.links, .int .i64 n0.size, .int .i64 n0.tick] (([.slice a0 n0.blocks.length d0, .slice a1 n0.acl.length d1, .slice a2 n0.dflt.length d2] : List Value) ++ cells (es.drop (i + 1))) [.int .i64 (K : Int), .int .i64 ((K : Int) + 1), .int .i64 ((K : Int) + 2), .int .i64 ((K : Int) + 3), .int .i64 ((K : Int) + 4), .int .i64 ((K : Int) + 5), .int .i64 ((K : Int) + 6)] rfl
          rw [hcd] at h1
          rw [cells_app, show cells done ++ ([.int .i64 n0.kind, .int .i64 n0.mode, .int .i64 n0.uid, .int .i64 n0.gid, .int .i64 n0.links, .int .i64 n0.size, .int .i64 n0.tick, .slice a0 n0.blocks.length d0, .slice a1 n0.acl.length d1, .slice a2 n0.dflt.length d2] : List Value) ++ cells (es.drop (i + 1)) = cells done ++ ([.int .i64 n0.kind, .int .i64 n0.mode, .int .i64 n0.uid, .int .i64 n0.gid, .int .i64 n0.links, .int .i64 n0.size, .int .i64 n0.tick] : List Value) ++ (([.slice a0 n0.blocks.length d0, .slice a1 n0.acl.length d1, .slice a2 n0.dflt.length d2] : List Value) ++ cells (es.drop (i + 1))) from by simp only [List.append_assoc, List.cons_append, List.nil_append]]
          refine h1.trans ?_
          rw [List.append_assoc]; rfl)
        generalize hLS : (cells done ++ ([.int .i64 n0.kind, .int .i64 n0.mode, .int .i64 n0.uid, .int .i64 n0.gid, .int .i64 n0.links, .int .i64 n0.size, .int .i64 n0.tick, .slice a0 n0.blocks.length d0, .slice a1 n0.acl.length d1, .slice a2 n0.dflt.length d2] : List Value) ++ cells (es.drop (i + 1))) = ls at hrow hlenr HSP
        have HROW2 := Lib.hid hrow
        have HGR := Lib.hid (World.grownBy.refl wr (some g))
        have HLEN := Lib.hid hlenr
        have HCD := Lib.hid hcd
        clear hrow hlenr hcd
        have HSD := Lib.hid (show fps es = fps (done ++ (n0, .agg #[.int .i64 n0.kind, .int .i64 n0.mode, .int .i64 n0.uid, .int .i64 n0.gid, .int .i64 n0.links, .int .i64 n0.size, .int .i64 n0.tick, .slice a0 n0.blocks.length d0, .slice a1 n0.acl.length d1, .slice a2 n0.dflt.length d2], S00) :: es.drop (i + 1)) from by rw [fps_app, HFPD.out, ← fps_app, HHE.out, ← List.drop_eq_getElem_cons hle, List.take_append_drop])
        have hfull := HND.out
        rw [HS.out, HSD.out] at hfull
        have HFULL := Lib.hid hfull
        have hgS : g ∉ S00 := by
          intro hh
          rw [fps_app] at hfull
          exact (nodup_parts hfull).2.2 g (by simp [fpR, Value.ownBlock]) (List.mem_append.2 (.inr (by simp [fps, hh])))
        have hSsub : ∀ z ∈ g :: S00, z ∈ S := by
          intro z hz
          rw [HS.out]
          rcases List.mem_cons.1 hz with rfl | hz
          · simp [fpR, Value.ownBlock]
          · exact List.mem_append.2 (.inr (mem_fps (e := (n0, .agg #[.int .i64 n0.kind, .int .i64 n0.mode, .int .i64 n0.uid, .int .i64 n0.gid, .int .i64 n0.links, .int .i64 n0.size, .int .i64 n0.tick, .slice a0 n0.blocks.length d0, .slice a1 n0.acl.length d1, .slice a2 n0.dflt.length d2], S00)) (by rw [HHE.out]; exact List.getElem_mem hle) hz))
        have HSUB := Lib.hid hSsub
        rw [HSS.out] at hgS
        simp only [List.mem_append, not_or] at hgS
        have HGS := Lib.hid hgS
        clear hfull hSsub hgS hLS hsp
        have hc0 := HROW2.out.cellAt (i * 10) (by omega)
        obtain ⟨y0, hy0⟩ : ∃ y, ls[i * 10]? = some y := ⟨_, List.getElem?_eq_getElem (by have := HLEN.out; omega)⟩
        rw [hy0] at hc0
        have hf0 := HROW2.out.frozenAt (i * 10)
        clear hy0
        have hc1 := HROW2.out.cellAt (i * 10 + 1) (by omega)
        obtain ⟨y1, hy1⟩ : ∃ y, ls[i * 10 + 1]? = some y := ⟨_, List.getElem?_eq_getElem (by have := HLEN.out; omega)⟩
        rw [hy1] at hc1
        have hf1 := HROW2.out.frozenAt (i * 10 + 1)
        clear hy1
        have hc2 := HROW2.out.cellAt (i * 10 + 2) (by omega)
        obtain ⟨y2, hy2⟩ : ∃ y, ls[i * 10 + 2]? = some y := ⟨_, List.getElem?_eq_getElem (by have := HLEN.out; omega)⟩
        rw [hy2] at hc2
        have hf2 := HROW2.out.frozenAt (i * 10 + 2)
        clear hy2
        have hc3 := HROW2.out.cellAt (i * 10 + 3) (by omega)
        obtain ⟨y3, hy3⟩ : ∃ y, ls[i * 10 + 3]? = some y := ⟨_, List.getElem?_eq_getElem (by have := HLEN.out; omega)⟩
        rw [hy3] at hc3
        have hf3 := HROW2.out.frozenAt (i * 10 + 3)
        clear hy3
        have hc4 := HROW2.out.cellAt (i * 10 + 4) (by omega)
        obtain ⟨y4, hy4⟩ : ∃ y, ls[i * 10 + 4]? = some y := ⟨_, List.getElem?_eq_getElem (by have := HLEN.out; omega)⟩
        rw [hy4] at hc4
        have hf4 := HROW2.out.frozenAt (i * 10 + 4)
        clear hy4
        have hc5 := HROW2.out.cellAt (i * 10 + 5) (by omega)
        obtain ⟨y5, hy5⟩ : ∃ y, ls[i * 10 + 5]? = some y := ⟨_, List.getElem?_eq_getElem (by have := HLEN.out; omega)⟩
        rw [hy5] at hc5
        have hf5 := HROW2.out.frozenAt (i * 10 + 5)
        clear hy5
        have hc6 := HROW2.out.cellAt (i * 10 + 6) (by omega)
        obtain ⟨y6, hy6⟩ : ∃ y, ls[i * 10 + 6]? = some y := ⟨_, List.getElem?_eq_getElem (by have := HLEN.out; omega)⟩
        rw [hy6] at hc6
        have hf6 := HROW2.out.frozenAt (i * 10 + 6)
        clear hy6
        have hr0 := HROW.out.cellAt (i * 10 + 7) (by omega)
        rw [cells_app, List.getElem?_append_right (by have := HCD.out; omega), HCD.out, show i * 10 + 7 - i * 10 = 7 from by omega] at hr0
        replace hr0 : wr.cell? ⟨g, i * 10 + 7, none⟩ = some (.slice a0 n0.blocks.length d0) := hr0
        have hst0 := HROW2.out.stored (i * 10) (.int .i64 (K : Int))
        have hst1 := hst0.1.stored (i * 10 + 1) (.int .i64 ((K : Int) + 1))
        have hst2 := hst1.1.stored (i * 10 + 2) (.int .i64 ((K : Int) + 2))
        have hst3 := hst2.1.stored (i * 10 + 3) (.int .i64 ((K : Int) + 3))
        have hst4 := hst3.1.stored (i * 10 + 4) (.int .i64 ((K : Int) + 4))
        have hst5 := hst4.1.stored (i * 10 + 5) (.int .i64 ((K : Int) + 5))
        have hst6 := hst5.1.stored (i * 10 + 6) (.int .i64 ((K : Int) + 6))
        replace HGR := Lib.hid (grow_trans (grow_trans (grow_trans (grow_trans (grow_trans (grow_trans hst0.2 hst1.2) hst2.2) hst3.2) hst4.2) hst5.2) hst6.2)
        have hlast := hst6.1
        rw [HSP.out] at hlast
        have HL7 := Lib.hid hlast
        have hr1 := HL7.out.cellAt (i * 10 + 8) (by omega)
        rw [cells_app, List.getElem?_append_right (by have := HCD.out; omega), HCD.out, show i * 10 + 8 - i * 10 = 8 from by omega] at hr1
        replace hr1 : (((((((wr.setCell ⟨g, i * 10, none⟩ (.int .i64 (K : Int))).setCell ⟨g, i * 10 + 1, none⟩ (.int .i64 ((K : Int) + 1))).setCell ⟨g, i * 10 + 2, none⟩ (.int .i64 ((K : Int) + 2))).setCell ⟨g, i * 10 + 3, none⟩ (.int .i64 ((K : Int) + 3))).setCell ⟨g, i * 10 + 4, none⟩ (.int .i64 ((K : Int) + 4))).setCell ⟨g, i * 10 + 5, none⟩ (.int .i64 ((K : Int) + 5))).setCell ⟨g, i * 10 + 6, none⟩ (.int .i64 ((K : Int) + 6))).cell? ⟨g, i * 10 + 8, none⟩ = some (.slice a1 n0.acl.length d1) := hr1
        have HR1 := Lib.hid hr1
        clear hr1
        have hr2 := HL7.out.cellAt (i * 10 + 9) (by omega)
        rw [cells_app, List.getElem?_append_right (by have := HCD.out; omega), HCD.out, show i * 10 + 9 - i * 10 = 9 from by omega] at hr2
        replace hr2 : (((((((wr.setCell ⟨g, i * 10, none⟩ (.int .i64 (K : Int))).setCell ⟨g, i * 10 + 1, none⟩ (.int .i64 ((K : Int) + 1))).setCell ⟨g, i * 10 + 2, none⟩ (.int .i64 ((K : Int) + 2))).setCell ⟨g, i * 10 + 3, none⟩ (.int .i64 ((K : Int) + 3))).setCell ⟨g, i * 10 + 4, none⟩ (.int .i64 ((K : Int) + 4))).setCell ⟨g, i * 10 + 5, none⟩ (.int .i64 ((K : Int) + 5))).setCell ⟨g, i * 10 + 6, none⟩ (.int .i64 ((K : Int) + 6))).cell? ⟨g, i * 10 + 9, none⟩ = some (.slice a2 n0.dflt.length d2) := hr2
        have HR2 := Lib.hid hr2
        clear hr2
        clear HROW2 hlast hst0 hst1 hst2 hst3 hst4 hst5 hst6
        go_wp2_with fail
        rw [show ((K : Int) + 1 + 1) = (K : Int) + 2 from by omega]
        rw [show ((K : Int) + 2 + 1) = (K : Int) + 3 from by omega]
        rw [show ((K : Int) + 3 + 1) = (K : Int) + 4 from by omega]
        rw [show ((K : Int) + 4 + 1) = (K : Int) + 5 from by omega]
        rw [show ((K : Int) + 5 + 1) = (K : Int) + 6 from by omega]
        rw [show ((K : Int) + 6 + 1) = (K : Int) + 7 from by omega]
        clear hc0 hf0 hc1 hf1 hc2 hf2 hc3 hf3 hc4 hf4 hc5 hf5 hc6 hf6 hr0
        generalize (((((((wr.setCell ⟨g, i * 10, none⟩ (.int .i64 (K : Int))).setCell ⟨g, i * 10 + 1, none⟩ (.int .i64 ((K : Int) + 1))).setCell ⟨g, i * 10 + 2, none⟩ (.int .i64 ((K : Int) + 2))).setCell ⟨g, i * 10 + 3, none⟩ (.int .i64 ((K : Int) + 3))).setCell ⟨g, i * 10 + 4, none⟩ (.int .i64 ((K : Int) + 4))).setCell ⟨g, i * 10 + 5, none⟩ (.int .i64 ((K : Int) + 5))).setCell ⟨g, i * 10 + 6, none⟩ (.int .i64 ((K : Int) + 6))) = w0 at HL7 HGR HR1 HR2 ⊢
        have hr1 := HR1.out
        clear HR1
        have hr2 := HR2.out
        clear HR2
        have hch7 := Chg.of_grown HGR.out
        have HO0 := Lib.hid (NiF.own_chg ho0 hch7 (apart_one HGS.out.1.1))
        have HO1 := Lib.hid (AeF.own_chg ho1 hch7 (apart_one HGS.out.1.2))
        have HO2 := Lib.hid (AeF.own_chg ho2 hch7 (apart_one HGS.out.2))
        clear ho0 ho1 ho2
        have HCT := Lib.hid (show Chg wr w0 (g :: S00) from hch7.more (fun z hz => by simpa using Or.inl (by simpa using hz)))
        clear hch7 HGR
        first | rw [show ((K : Int) + 7) = ((K + 7 : Nat) : Int) from by omega] | skip
        refine (NiF.mark_any _ base _ n0.blocks S0 (K + 7) (by omega) (by omega) HO0.out).mono ?_
        rintro e w1 ⟨rfl, hown, hc⟩
        replace HO1 := Lib.hid (AeF.own_chg HO1.out hc ((nodup_parts (nodup_parts HND3.out).1).2.2).symm)
        replace HO2 := Lib.hid (AeF.own_chg HO2.out hc ((apart_app.1 (nodup_parts HND3.out).2.2).1).symm)
        replace HO0 := Lib.hid hown
        have hrw := row_chg HL7.out hc (Apart.symm (apart_one HGS.out.1.1))
        replace HL7 := Lib.hid hrw
        clear hrw
        replace HCT := Lib.hid (HCT.out.trans (hc.more (fun z hz => List.mem_cons.2 (.inr (by rw [HSS.out]; simp [hz])))))
        replace hr1 : w1.cell? ⟨g, i * 10 + 8, none⟩ = some (.slice a1 n0.acl.length d1) := by
          rw [hc.cell (p := ⟨g, i * 10 + 8, none⟩) (Dk.cell_block hr1) HGS.out.1.1]; exact hr1
        replace hr2 : w1.cell? ⟨g, i * 10 + 9, none⟩ = some (.slice a2 n0.dflt.length d2) := by
          rw [hc.cell (p := ⟨g, i * 10 + 9, none⟩) (Dk.cell_block hr2) HGS.out.1.1]; exact hr2
        clear hown hc
        go_wp2_with fail
        skip
        refine (AeF.mark_any _ base _ n0.acl S1 (K + 7 + NiF.wid n0.blocks) (by omega) (by omega) HO1.out).mono ?_
        rintro e w2 ⟨rfl, hown, hc⟩
        replace HO0 := Lib.hid (NiF.own_chg HO0.out hc (nodup_parts (nodup_parts HND3.out).1).2.2)
        replace HO2 := Lib.hid (AeF.own_chg HO2.out hc ((apart_app.1 (nodup_parts HND3.out).2.2).2).symm)
        replace HO1 := Lib.hid hown
        have hrw := row_chg HL7.out hc (Apart.symm (apart_one HGS.out.1.2))
        replace HL7 := Lib.hid hrw
        clear hrw
        replace HCT := Lib.hid (HCT.out.trans (hc.more (fun z hz => List.mem_cons.2 (.inr (by rw [HSS.out]; simp [hz])))))
        replace hr2 : w2.cell? ⟨g, i * 10 + 9, none⟩ = some (.slice a2 n0.dflt.length d2) := by
          rw [hc.cell (p := ⟨g, i * 10 + 9, none⟩) (Dk.cell_block hr2) HGS.out.1.2]; exact hr2
        clear hown hc
        go_wp2_with fail
        skip
        refine (AeF.mark_any _ base _ n0.dflt S2 (K + 7 + NiF.wid n0.blocks + AeF.wid n0.acl) (by omega) (by omega) HO2.out).mono ?_
        rintro e w3 ⟨rfl, hown, hc⟩
        replace HO0 := Lib.hid (NiF.own_chg HO0.out hc (apart_app.1 (nodup_parts HND3.out).2.2).1)
        replace HO1 := Lib.hid (AeF.own_chg HO1.out hc (apart_app.1 (nodup_parts HND3.out).2.2).2)
        replace HO2 := Lib.hid hown
        have hrw := row_chg HL7.out hc (Apart.symm (apart_one HGS.out.2))
        replace HL7 := Lib.hid hrw
        clear hrw
        replace HCT := Lib.hid (HCT.out.trans (hc.more (fun z hz => List.mem_cons.2 (.inr (by rw [HSS.out]; simp [hz])))))
        clear hown hc
        have HEN := Lib.hid (own_mid (S := S) (e := (n0, .agg #[.int .i64 n0.kind, .int .i64 n0.mode, .int .i64 n0.uid, .int .i64 n0.gid, .int .i64 n0.links, .int .i64 n0.size, .int .i64 n0.tick, .slice a0 n0.blocks.length d0, .slice a1 n0.acl.length d1, .slice a2 n0.dflt.length d2], S00)) (e' := (marksE K n0, .agg #[.int .i64 (K : Int), .int .i64 ((K : Int) + 1), .int .i64 ((K : Int) + 2), .int .i64 ((K : Int) + 3), .int .i64 ((K : Int) + 4), .int .i64 ((K : Int) + 5), .int .i64 ((K : Int) + 6), .slice a0 n0.blocks.length d0, .slice a1 n0.acl.length d1, .slice a2 n0.dflt.length d2], S00)) (by rw [HS.out, HSD.out]) HND.out HE.out HCT.out ⟨_, _, _, S0, S1, S2, rfl, HSS.out, HNDS.out, HO0.out, HO1.out, HO2.out⟩)
        go_wp2
        go_roundw
        case rel => exact ⟨i + 1, done ++ [(marksE K n0, .agg #[.int .i64 (K : Int), .int .i64 ((K : Int) + 1), .int .i64 ((K : Int) + 2), .int .i64 ((K : Int) + 3), .int .i64 ((K : Int) + 4), .int .i64 ((K : Int) + 5), .int .i64 ((K : Int) + 6), .slice a0 n0.blocks.length d0, .slice a1 n0.acl.length d1, .slice a2 n0.dflt.length d2], S00)], es.drop (i + 1), by omega, by go_num, by rw [HK.out]; unfold widE; go_num, by simp [HDL.out], rfl, by rw [HMS2.out, ← HNSD.out]; simp [ns], by rw [HTK.out, fps_app, fps_app, HFPD.out]; rfl, by rw [List.append_assoc]; exact HL7.out, by rw [List.append_assoc]; exact HEN.out, HCH.out.trans (HCT.out.more HSUB.out)⟩
        case measure => simp [intOf]; omega
      · obtain rfl : i = M := by omega
        have hr0 : rest = [] := by rw [HREST.out, List.drop_of_length_le (by rw [HESL.out]; exact Nat.le_refl _)]
        subst hr0
        have htk : l.take i = l := List.take_of_length_le (by rw [← HM.out]; exact Nat.le_refl _)
        have hte : es.take i = es := List.take_of_length_le (by rw [HESL.out]; exact Nat.le_refl _)
        have HA := Lib.hid (show wid (l.take i) = N by rw [htk, HN.out])
        have HF := Lib.hid (show ns done = marks k l by rw [HNSD.out, htk])
        have HG := Lib.hid (show fps done = fps es by rw [HFPD.out, hte])
        clear htk hte
        go_wp2
        go_ret
        have h1 := HROW.out
        have h2 := HE.out
        rw [List.append_nil] at h1 h2
        exact ⟨ret_int (by rw [HA.out]), ⟨done, HF.out, h1, by rw [HS.out, HG.out]; rfl, HND.out, h2⟩, HCH.out⟩


set_option maxRecDepth 100000 in
set_option maxHeartbeats 6400000 in
/-- The marks are found. -/
theorem held_any (w : World) (v : Value) (l : L) (k : Nat) (hk : 1 ≤ k) (hn : k + wid l ≤ 1073741824) (h : Holds w v (marks k l)) :
    Calls Tryz.prog 68 #[v, .int .i64 k] w fun e w' => e = .returned (.int .i64 (k + wid l : Nat)) ∧ Below w.heap.size w w' := by
  obtain ⟨a, cap, rfl, hle, hat⟩ := atL h
  rw [marks_length] at hle ⊢
  have hat2 : ∀ i, i < l.length → ∃ b o, a = some ⟨b, o, none⟩ ∧ b < w.heap.size ∧ ∃ r0 r1 r2 : Value, Cell w b (o + i * 10) (marksE (k + wid (l.take i)) (l.getD i z0)) r0 r1 r2 ∧ Parts w (marksE (k + wid (l.take i)) (l.getD i z0)) r0 r1 r2 := fun i hi => by
    have := hat i (by rw [marks_length]; exact hi)
    rw [marks_getD k l i hi] at this
    exact this
  have HC := Lib.hid hat2
  have HWT := Lib.hid (wid_take_le l)
  have HWS := Lib.hid (wid_snoc l)
  have hMl : l.length ≤ 1073741824 := by
    have : l.length ≤ wid l := by
      clear hn hat hat2 HC HWT HWS h hle
      induction l with
      | nil => simp
      | cons x r ih => rw [wid_cons, List.length_cons]; unfold widE; omega
    omega
  obtain ⟨M, hM⟩ : ∃ M, M = l.length := ⟨_, rfl⟩
  rw [← hM] at hle hMl ⊢
  have HM := Lib.hid hM
  obtain ⟨N, hN⟩ : ∃ N, N = wid l := ⟨_, rfl⟩
  rw [← hN] at hn HWT ⊢
  have HN := Lib.hid hN
  clear hN hM hat hat2 h
  go_enter Tryz.func68, Tryz.ntmps68
  go_wp2
  go_loopw [1, 5] (fun kv iv wr => ∃ i : Nat, i ≤ M ∧ iv = .int .i64 i ∧ kv = .int .i64 ((k + wid (l.take i) : Nat)) ∧ Below w.heap.size w wr) (fun _ iv _ => M - (intOf iv).toNat)
  case atStart => exact ⟨0, Nat.zero_le _, rfl, by simp [wid], Below.refl _ _⟩
  case round =>
    obtain ⟨i, hi, rfl, rfl, hbel⟩ := hrel
    have HB := Lib.hid hbel
    clear hbel
    by_cases hlt : i < M
    · have hlx : i < l.length := by rw [← HM.out]; exact hlt
      obtain ⟨b, o, rfl, hb, r0, r1, r2, hC, hP⟩ := HC.out i hlx
      obtain ⟨h0, h1, h2⟩ := parts_below hP HB.out
      obtain ⟨g0, g1, g2, g3, g4, g5, g6, g7, g8, g9⟩ := hC.below hb HB.out
      clear hC hP
      have hws := HWS.out i hlx
      have hwt := HWT.out (i + 1)
      generalize l.getD i z0 = n0 at g0 g1 g2 g3 g4 g5 g6 g7 g8 g9 h0 h1 h2 hws
      obtain ⟨K, hK⟩ : ∃ K, K = k + wid (l.take i) := ⟨_, rfl⟩
      rw [← hK] at g0 g1 g2 g3 g4 g5 g6 h0 h1 h2 ⊢
      have HK := Lib.hid (show k + wid (l.take (i + 1)) = K + widE n0 by omega)
      have hKl : K + widE n0 ≤ 1073741824 := by omega
      unfold widE at hKl
      have hK1 : 1 ≤ K := by omega
      clear hws hwt hK
      dsimp only [marksE] at g0 g1 g2 g3 g4 g5 g6 g7 g8 g9 h0 h1 h2
      rw [show ((K + 1 : Nat) : Int) = (K : Int) + 1 from by omega] at g1
      rw [show ((K + 2 : Nat) : Int) = (K : Int) + 2 from by omega] at g2
      rw [show ((K + 3 : Nat) : Int) = (K : Int) + 3 from by omega] at g3
      rw [show ((K + 4 : Nat) : Int) = (K : Int) + 4 from by omega] at g4
      rw [show ((K + 5 : Nat) : Int) = (K : Int) + 5 from by omega] at g5
      rw [show ((K + 6 : Nat) : Int) = (K : Int) + 6 from by omega] at g6
      obtain ⟨a0, d0, rfl⟩ := NiF.form h0
      have H0 := Lib.hid h0
      obtain ⟨a1, d1, rfl⟩ := AeF.form h1
      have H1 := Lib.hid h1
      obtain ⟨a2, d2, rfl⟩ := AeF.form h2
      have H2 := Lib.hid h2
      clear h0 h1 h2
      go_wp2_with fail
      first | rw [show ((K : Int) + 7) = ((K + 7 : Nat) : Int) from by omega] | skip
      refine (NiF.held_any _ _ n0.blocks (K + 7) (by omega) (by omega) H0.out).mono ?_
      rintro e w1 ⟨rfl, hbq⟩
      have HT := Lib.hid hbq
      replace HB := Lib.hid (HB.out.trans (hbq.mono HB.out.size))
      have p08 := hbq.cell (p := ⟨b, o + i * 10 + 8, none⟩) (Dk.cell_block g8)
      rw [g8] at p08
      have p09 := hbq.cell (p := ⟨b, o + i * 10 + 9, none⟩) (Dk.cell_block g9)
      rw [g9] at p09
      clear hbq
      go_wp2_with fail
      refine (AeF.held_any _ _ n0.acl (K + 7 + NiF.wid n0.blocks) (by omega) (by omega) (AeF.holds_below H1.out HT.out)).mono ?_
      rintro e w2 ⟨rfl, hbq⟩
      replace HT := Lib.hid (HT.out.trans (hbq.mono HT.out.size))
      replace HB := Lib.hid (HB.out.trans (hbq.mono HB.out.size))
      have p19 := hbq.cell (p := ⟨b, o + i * 10 + 9, none⟩) (Dk.cell_block p09)
      rw [p09] at p19
      clear hbq
      go_wp2_with fail
      refine (AeF.held_any _ _ n0.dflt (K + 7 + NiF.wid n0.blocks + AeF.wid n0.acl) (by omega) (by omega) (AeF.holds_below H2.out HT.out)).mono ?_
      rintro e w3 ⟨rfl, hbq⟩
      replace HT := Lib.hid (HT.out.trans (hbq.mono HT.out.size))
      replace HB := Lib.hid (HB.out.trans (hbq.mono HB.out.size))
      clear hbq
      go_wp2
      go_roundw
      case rel => exact ⟨i + 1, by omega, by go_num, by rw [HK.out]; unfold widE; go_num, HB.out⟩
      case measure => simp [intOf]; omega
    · obtain rfl : i = M := by omega
      have HA := Lib.hid (show wid (l.take i) = N by rw [List.take_of_length_le (by rw [← HM.out]; exact Nat.le_refl _), HN.out])
      go_wp2
      go_ret
      exact ⟨ret_int (by rw [HA.out]), HB.out⟩

set_option maxRecDepth 100000 in
/-- What cells that read as a list of the type hold. -/
theorem in_cell {H : Type} {enc : TypeId × Value → H} {W : World} {fuel : Nat} {v : Value} {x : DataW H × List MemPlace} (hf : DataW.trod enc Tryz.prog W 0 (fun _ => true) true fuel 23 [v] = some x) :
    ∃ l : L, Lim l ∧ Holds W v l := by
  rcases open_slice Tryz.underlying23 hf with ⟨hcs, _⟩ | ⟨a, l, c, mm, n, D, Pl, hcs, _, hl, hm, hmm, _, hi⟩
  · simp at hcs
    subst hcs
    exact ⟨[], ⟨Nat.zero_le _, fun x hx => by cases hx⟩, none, 0, rfl, Nat.le_refl _, fun i hi => by simp at hi⟩
  · simp at hcs
    subst hcs
    have hmc : mm = c := by simpa using hmm
    subst hmc
    have hel : ∀ i, i < l → ∃ (y : In.L) (r0 r1 r2 : Value), (W.cell? (a.add (i * 10)) = some (.int .i64 y.kind) ∧ W.cell? (a.add (i * 10 + 1)) = some (.int .i64 y.mode) ∧ W.cell? (a.add (i * 10 + 2)) = some (.int .i64 y.uid) ∧ W.cell? (a.add (i * 10 + 3)) = some (.int .i64 y.gid) ∧ W.cell? (a.add (i * 10 + 4)) = some (.int .i64 y.links) ∧ W.cell? (a.add (i * 10 + 5)) = some (.int .i64 y.size) ∧ W.cell? (a.add (i * 10 + 6)) = some (.int .i64 y.tick) ∧ W.cell? (a.add (i * 10 + 7)) = some (r0) ∧ W.cell? (a.add (i * 10 + 8)) = some (r1) ∧ W.cell? (a.add (i * 10 + 9)) = some (r2)) ∧ In.Lim y ∧ Parts W y r0 r1 r2 := by
      intro i hil
      obtain ⟨cs', hc, ht⟩ := hi i (by omega)
      rw [show Tryz.prog.cellsOf 111 = 10 from by kernel_rfl] at hc
      obtain ⟨_, hcl, hat⟩ := World.cells?_some hc
      obtain ⟨y, r0, r1, r2, rfl, hlim, hps⟩ := In.in_cells ht
      refine ⟨y, r0, r1, r2, ⟨?_, ?_, ?_, ?_, ?_, ?_, ?_, ?_, ?_, ?_⟩, hlim, hps⟩
      · have := hat 0 (by omega)
        rw [Addr.add_add] at this
        exact this
      · have := hat 1 (by omega)
        rw [Addr.add_add] at this
        exact this
      · have := hat 2 (by omega)
        rw [Addr.add_add] at this
        exact this
      · have := hat 3 (by omega)
        rw [Addr.add_add] at this
        exact this
      · have := hat 4 (by omega)
        rw [Addr.add_add] at this
        exact this
      · have := hat 5 (by omega)
        rw [Addr.add_add] at this
        exact this
      · have := hat 6 (by omega)
        rw [Addr.add_add] at this
        exact this
      · have := hat 7 (by omega)
        rw [Addr.add_add] at this
        exact this
      · have := hat 8 (by omega)
        rw [Addr.add_add] at this
        exact this
      · have := hat 9 (by omega)
        rw [Addr.add_add] at this
        exact this
    by_cases hl0 : l = 0
    · subst hl0
      exact ⟨[], ⟨Nat.zero_le _, fun x hx => by cases hx⟩, some a, mm, rfl, Nat.zero_le _, fun i hi => by simp at hi⟩
    obtain ⟨y, _, _, _, ⟨he0, _⟩, _⟩ := hel 0 (by omega)
    have hspot : a.spot = none := by simpa [Addr.add] using World.cell?_spot he0
    have hblk : a.block < W.heap.size := by simpa [Addr.add] using Dk.cell_block he0
    obtain ⟨bk, off, spot⟩ := a
    simp only at hspot hblk
    subst hspot
    obtain ⟨f, hfs⟩ := Classical.skolem.1 (show ∀ i, ∃ y : In.L, i < l → ∃ (r0 r1 r2 : Value), (W.cell? (Addr.add ⟨bk, off, none⟩ (i * 10)) = some (.int .i64 y.kind) ∧ W.cell? (Addr.add ⟨bk, off, none⟩ (i * 10 + 1)) = some (.int .i64 y.mode) ∧ W.cell? (Addr.add ⟨bk, off, none⟩ (i * 10 + 2)) = some (.int .i64 y.uid) ∧ W.cell? (Addr.add ⟨bk, off, none⟩ (i * 10 + 3)) = some (.int .i64 y.gid) ∧ W.cell? (Addr.add ⟨bk, off, none⟩ (i * 10 + 4)) = some (.int .i64 y.links) ∧ W.cell? (Addr.add ⟨bk, off, none⟩ (i * 10 + 5)) = some (.int .i64 y.size) ∧ W.cell? (Addr.add ⟨bk, off, none⟩ (i * 10 + 6)) = some (.int .i64 y.tick) ∧ W.cell? (Addr.add ⟨bk, off, none⟩ (i * 10 + 7)) = some (r0) ∧ W.cell? (Addr.add ⟨bk, off, none⟩ (i * 10 + 8)) = some (r1) ∧ W.cell? (Addr.add ⟨bk, off, none⟩ (i * 10 + 9)) = some (r2)) ∧ In.Lim y ∧ Parts W y r0 r1 r2 from fun i => by
      by_cases hil : i < l
      · obtain ⟨y, hy⟩ := hel i hil
        exact ⟨y, fun _ => hy⟩
      · exact ⟨z0, fun h => absurd h hil⟩)
    have hlen : ((List.range l).map f).length = l := by simp
    refine ⟨(List.range l).map f, ⟨show _ ≤ maxLen by rw [hlen]; omega, fun x hx => by
      obtain ⟨i, hi1, rfl⟩ := List.mem_map.1 hx
      obtain ⟨_, _, _, _, hlim, _⟩ := hfs i (List.mem_range.1 hi1)
      exact hlim⟩, some ⟨bk, off, none⟩, mm, by rw [hlen], by rw [hlen]; exact hl, fun j hj => ⟨bk, off, rfl, hblk, ?_⟩⟩
    rw [hlen] at hj
    obtain ⟨r0, r1, r2, hq, _, hp⟩ := hfs j hj
    simp only [Addr.add_lit] at hq
    have e : ((List.range l).map f).getD j z0 = f j := by
      rw [List.getD_eq_getElem?_getD, List.getElem?_map, List.getElem?_range hj]; rfl
    rw [e]
    exact ⟨r0, r1, r2, hq, hp⟩
set_option maxRecDepth 100000 in
theorem in_any {H : Type} {enc : TypeId × Value → H} {W : World} {b0 : Nat} {v : Value} {x : DataW H} {p : List MemPlace} (hv : Value.okWide Tryz.prog W .any b0 23 v) (h : DataW.Trod enc Tryz.prog W 0 (fun _ => true) true 23 v x p) :
    ∃ l : L, Lim l ∧ Holds W v l := by
  obtain ⟨a1, l0, c0, rfl⟩ := okWide_slice Tryz.underlying23 hv
  obtain ⟨fuel, hf⟩ := h
  exact in_cell hf
end Go.Proofs.YthppbcnejapbiaaGreatDoor.IF

-- YthppbcnejapbiaaGreatDoorFsF
/- The uniform face of a value of type FS: what it holds, owns, costs; its size, a copy, comparing two that read alike, marking one that the call owns, asking for the marks; what an argument of that type holds. Conditions: as each theorem types them. -/
namespace Go.Proofs.YthppbcnejapbiaaGreatDoor.FsF
open Go.ChangeShapes Go.WideShapes Go.ChangeAt Go.RowKit Go.Deep
open Foot Bx
open Strs (ret_int)
set_option linter.unusedVariables false

abbrev L := FsV.F
/-- The value, its fields in their cells. -/
def agg (n : L) (r0 r1 r2 : Value) : Value := .agg #[.int .i64 n.tick, r0, r1, r2]
def Holds (w : World) (v : Value) (n : L) : Prop := ∃ r0 r1 r2 : Value, v = .agg #[.int .i64 n.tick, r0, r1, r2] ∧ QF.Holds w r0 n.quotas ∧ IF.Holds w r1 n.inodes ∧ SF.Holds w r2 n.data
theorem holds_below {w w' : World} {v : Value} {n : L} (h : Holds w v n) (hb : Below w.heap.size w w') : Holds w' v n := by
  obtain ⟨r0, r1, r2, e, h0, h1, h2⟩ := h
  exact ⟨r0, r1, r2, e, QF.holds_below h0 hb, IF.holds_below h1 hb, SF.holds_below h2 hb⟩
/-- Its cells. -/
theorem form {w : World} {v : Value} {n : L} (h : Holds w v n) : ∃ (c0 : Int) (c1a : Option Addr) (c1n c1c : Nat) (c2a : Option Addr) (c2n c2c : Nat) (c3a : Option Addr) (c3n c3c : Nat), v = .agg #[.int .i64 c0, .slice c1a c1n c1c, .slice c2a c2n c2c, .slice c3a c3n c3c] := by
  obtain ⟨r0, r1, r2, rfl, h0, h1, h2⟩ := h
  obtain ⟨a0, d0, rfl⟩ := QF.form h0
  obtain ⟨a1, d1, rfl⟩ := IF.form h1
  obtain ⟨a2, d2, rfl⟩ := SF.form h2
  exact ⟨_, _, _, _, _, _, _, _, _, _, rfl⟩
/-- The call owns the value's slices: their blocks, in order, are S. -/
def Own (w : World) (base : Nat) (v : Value) (n : L) (S : List Nat) : Prop := ∃ (r0 r1 r2 : Value) (S0 S1 S2 : List Nat), v = .agg #[.int .i64 n.tick, r0, r1, r2] ∧ S = S0 ++ S1 ++ S2 ∧ S.Nodup ∧ QF.Own w base r0 n.quotas S0 ∧ IF.Own w base r1 n.inodes S1 ∧ SF.Own w base r2 n.data S2
section
variable {w w' : World} {base : Nat} {v : Value} {n : L} {S T : List Nat}
theorem own_holds (h : Own w base v n S) : Holds w v n := by
  obtain ⟨r0, r1, r2, S0, S1, S2, rfl, rfl, hnd, h0, h1, h2⟩ := h
  exact ⟨r0, r1, r2, rfl, QF.own_holds h0, IF.own_holds h1, SF.own_holds h2⟩
theorem own_chg (h : Own w base v n S) (hc : Chg w w' T) (ha : Apart S T) : Own w' base v n S := by
  obtain ⟨r0, r1, r2, S0, S1, S2, rfl, rfl, hnd, h0, h1, h2⟩ := h
  simp only [apart_app] at ha
  exact ⟨r0, r1, r2, S0, S1, S2, rfl, rfl, hnd, QF.own_chg h0 hc ha.1.1, IF.own_chg h1 hc ha.1.2, SF.own_chg h2 hc ha.2⟩
theorem own_below (h : Own w base v n S) (hb : Below w.heap.size w w') : Own w' base v n S := own_chg h (Chg.of_below hb (Nat.le_refl _) []) (fun k _ hh => by cases hh)
theorem own_mono {base' : Nat} (h : Own w base v n S) (hb : base' ≤ base) : Own w base' v n S := by
  obtain ⟨r0, r1, r2, S0, S1, S2, rfl, rfl, hnd, h0, h1, h2⟩ := h
  exact ⟨r0, r1, r2, S0, S1, S2, rfl, rfl, hnd, QF.own_mono h0 hb, IF.own_mono h1 hb, SF.own_mono h2 hb⟩
theorem own_lies (h : Own w base v n S) : Lies S base w.heap.size := by
  obtain ⟨r0, r1, r2, S0, S1, S2, rfl, rfl, hnd, h0, h1, h2⟩ := h
  exact (((QF.own_lies h0).app (IF.own_lies h1)).app (SF.own_lies h2))
theorem own_nodup (h : Own w base v n S) : S.Nodup := by
  obtain ⟨r0, r1, r2, S0, S1, S2, rfl, rfl, hnd, h0, h1, h2⟩ := h
  exact hnd
theorem own_set (h : Own w base v n S) {a : Addr} (ha : a.block < base) (u : Value) : Own (w.setCell a u) base v n S := by
  obtain ⟨r0, r1, r2, S0, S1, S2, rfl, rfl, hnd, h0, h1, h2⟩ := h
  exact ⟨r0, r1, r2, S0, S1, S2, rfl, rfl, hnd, QF.own_set h0 ha u, IF.own_set h1 ha u, SF.own_set h2 ha u⟩
end
theorem own_form {w : World} {base : Nat} {v : Value} {n : L} {S : List Nat} (h : Own w base v n S) : ∃ (c0 : Int) (c1a : Option Addr) (c1n c1c : Nat) (c2a : Option Addr) (c2n c2c : Nat) (c3a : Option Addr) (c3n c3c : Nat), v = .agg #[.int .i64 c0, .slice c1a c1n c1c, .slice c2a c2n c2c, .slice c3a c3n c3c] := form (own_holds h)
/-- Its numbers are ints of 64 bits, its slices no longer than memory. -/
structure Lim (n : L) : Prop where
  tick : Rg n.tick
  quotas : QF.Lim n.quotas
  inodes : IF.Lim n.inodes
  data : SF.Lim n.data
def cost (n : L) : Nat := QF.cost n.quotas + IF.cost n.inodes + SF.cost n.data
theorem le_quotas (n : L) : QF.cost n.quotas ≤ cost n := by unfold cost; omega
theorem le_inodes (n : L) : IF.cost n.inodes ≤ cost n := by unfold cost; omega
theorem le_data (n : L) : SF.cost n.data ≤ cost n := by unfold cost; omega

set_option maxRecDepth 100000 in
set_option maxHeartbeats 1600000 in
theorem sz_any (w : World) (v : Value) (n : L) (left : Nat) (hleft : left ≤ 1073741824) (hl : Lim n) (h : Holds w v n) :
    Calls Tryz.prog 12 #[v, .int .i64 left] w fun e w' => e = .returned (.int .i64 (costOf (cost n) left)) ∧ Below w.heap.size w w' := by
  obtain ⟨r0, r1, r2, rfl, g0, g1, g2⟩ := h
  have H0 := Lib.hid g0
  have H1 := Lib.hid g1
  have H2 := Lib.hid g2
  have HL := Lib.hid hl
  have HC := Lib.hid (show cost n = QF.cost n.quotas + IF.cost n.inodes + SF.cost n.data from rfl)
  have HB := Lib.hid ((Below.refl w.heap.size w).alloc (Nat.le_refl _) (.cells #[.int .i64 n.tick, r0, r1, r2] 26))
  have HX := Lib.hid (new w #[.int .i64 n.tick, r0, r1, r2] 26)
  clear g0 g1 g2 hl
  by_cases hc0 : QF.cost n.quotas ≤ left
  · obtain ⟨q0, hq0⟩ : ∃ x, x = left - QF.cost n.quotas := ⟨_, rfl⟩
    have HZ0 := Lib.hid (show costOf (QF.cost n.quotas) left = (q0 : Int) by rw [hq0]; exact cost_pos hc0)
    have hle0 : q0 ≤ 1073741824 := by omega
    by_cases hc1 : IF.cost n.inodes ≤ q0
    · obtain ⟨q1, hq1⟩ : ∃ x, x = q0 - IF.cost n.inodes := ⟨_, rfl⟩
      have HZ1 := Lib.hid (show costOf (IF.cost n.inodes) q0 = (q1 : Int) by rw [hq1]; exact cost_pos hc1)
      have hle1 : q1 ≤ 1073741824 := by omega
      by_cases hc2 : SF.cost n.data ≤ q1
      · obtain ⟨q2, hq2⟩ : ∃ x, x = q1 - SF.cost n.data := ⟨_, rfl⟩
        have HZ2 := Lib.hid (show costOf (SF.cost n.data) q1 = (q2 : Int) by rw [hq2]; exact cost_pos hc2)
        have hle2 : q2 ≤ 1073741824 := by omega
        have HV := Lib.hid (show costOf (cost n) left = (q2 : Int) by rw [cost_pos (by rw [HC.out]; omega), HC.out]; omega)
        clear hc0 hq0 hc1 hq1 hc2 hq2
        go_enter Tryz.func12, Tryz.ntmps12
        go_wp2_with fail
        refine (QF.sz_any _ r0 n.quotas left (by omega) HL.out.quotas (QF.holds_below H0.out HB.out)).mono ?_
        rintro e w1 ⟨rfl, hb⟩
        rw [HZ0.out]
        have HXN := Lib.hid (HX.out.all hb)
        replace HB := Lib.hid (HB.out.trans (hb.mono HB.out.size))
        clear hb HX
        have HX := HXN
        clear HXN
        have c0 := HX.out.cell 2
        simp only [List.getElem?_toArray, List.getElem?_cons_succ, List.getElem?_cons_zero] at c0
        go_wp2_with fail
        refine (IF.sz_any _ r1 n.inodes q0 (by omega) HL.out.inodes (IF.holds_below H1.out HB.out)).mono ?_
        rintro e w1 ⟨rfl, hb⟩
        rw [HZ1.out]
        have HXN := Lib.hid (HX.out.all hb)
        replace HB := Lib.hid (HB.out.trans (hb.mono HB.out.size))
        clear hb HX
        have HX := HXN
        clear HXN
        have c1 := HX.out.cell 3
        simp only [List.getElem?_toArray, List.getElem?_cons_succ, List.getElem?_cons_zero] at c1
        go_wp2_with fail
        refine (SF.sz_any _ r2 n.data q1 (by omega) HL.out.data (SF.holds_below H2.out HB.out)).mono ?_
        rintro e w1 ⟨rfl, hb⟩
        rw [HZ2.out]
        have HXN := Lib.hid (HX.out.all hb)
        replace HB := Lib.hid (HB.out.trans (hb.mono HB.out.size))
        clear hb HX
        have HX := HXN
        clear HXN
        go_wp2
        go_ret
        exact ⟨ret_int (by rw [HV.out]), HB.out⟩
      · have HZ2 := Lib.hid (cost_neg hc2)
        have HV := Lib.hid (show costOf (cost n) left = -1 from cost_neg (by rw [HC.out]; omega))
        clear hc0 hc1 hc2 hq0 hq1
        go_enter Tryz.func12, Tryz.ntmps12
        go_wp2_with fail
        refine (QF.sz_any _ r0 n.quotas left (by omega) HL.out.quotas (QF.holds_below H0.out HB.out)).mono ?_
        rintro e w1 ⟨rfl, hb⟩
        rw [HZ0.out]
        have HXN := Lib.hid (HX.out.all hb)
        replace HB := Lib.hid (HB.out.trans (hb.mono HB.out.size))
        clear hb HX
        have HX := HXN
        clear HXN
        have c0 := HX.out.cell 2
        simp only [List.getElem?_toArray, List.getElem?_cons_succ, List.getElem?_cons_zero] at c0
        go_wp2_with fail
        refine (IF.sz_any _ r1 n.inodes q0 (by omega) HL.out.inodes (IF.holds_below H1.out HB.out)).mono ?_
        rintro e w1 ⟨rfl, hb⟩
        rw [HZ1.out]
        have HXN := Lib.hid (HX.out.all hb)
        replace HB := Lib.hid (HB.out.trans (hb.mono HB.out.size))
        clear hb HX
        have HX := HXN
        clear HXN
        have c1 := HX.out.cell 3
        simp only [List.getElem?_toArray, List.getElem?_cons_succ, List.getElem?_cons_zero] at c1
        go_wp2_with fail
        refine (SF.sz_any _ r2 n.data q1 (by omega) HL.out.data (SF.holds_below H2.out HB.out)).mono ?_
        rintro e w1 ⟨rfl, hb⟩
        rw [HZ2.out]
        have HXN := Lib.hid (HX.out.all hb)
        replace HB := Lib.hid (HB.out.trans (hb.mono HB.out.size))
        clear hb HX
        have HX := HXN
        clear HXN
        go_wp2
        go_ret
        exact ⟨ret_int (by rw [HV.out]), HB.out⟩
    · have HZ1 := Lib.hid (cost_neg hc1)
      have HV := Lib.hid (show costOf (cost n) left = -1 from cost_neg (by rw [HC.out]; omega))
      clear hc0 hc1 hq0
      go_enter Tryz.func12, Tryz.ntmps12
      go_wp2_with fail
      refine (QF.sz_any _ r0 n.quotas left (by omega) HL.out.quotas (QF.holds_below H0.out HB.out)).mono ?_
      rintro e w1 ⟨rfl, hb⟩
      rw [HZ0.out]
      have HXN := Lib.hid (HX.out.all hb)
      replace HB := Lib.hid (HB.out.trans (hb.mono HB.out.size))
      clear hb HX
      have HX := HXN
      clear HXN
      have c0 := HX.out.cell 2
      simp only [List.getElem?_toArray, List.getElem?_cons_succ, List.getElem?_cons_zero] at c0
      go_wp2_with fail
      refine (IF.sz_any _ r1 n.inodes q0 (by omega) HL.out.inodes (IF.holds_below H1.out HB.out)).mono ?_
      rintro e w1 ⟨rfl, hb⟩
      rw [HZ1.out]
      have HXN := Lib.hid (HX.out.all hb)
      replace HB := Lib.hid (HB.out.trans (hb.mono HB.out.size))
      clear hb HX
      have HX := HXN
      clear HXN
      go_wp2
      go_ret
      exact ⟨ret_int (by rw [HV.out]), HB.out⟩
  · have HZ0 := Lib.hid (cost_neg hc0)
    have HV := Lib.hid (show costOf (cost n) left = -1 from cost_neg (by rw [HC.out]; omega))
    clear hc0
    go_enter Tryz.func12, Tryz.ntmps12
    go_wp2_with fail
    refine (QF.sz_any _ r0 n.quotas left (by omega) HL.out.quotas (QF.holds_below H0.out HB.out)).mono ?_
    rintro e w1 ⟨rfl, hb⟩
    rw [HZ0.out]
    have HXN := Lib.hid (HX.out.all hb)
    replace HB := Lib.hid (HB.out.trans (hb.mono HB.out.size))
    clear hb HX
    have HX := HXN
    clear HXN
    go_wp2
    go_ret
    exact ⟨ret_int (by rw [HV.out]), HB.out⟩

set_option maxRecDepth 100000 in
set_option maxHeartbeats 1600000 in
/-- A copy, in memory of the call's own. -/
theorem to_any (w : World) (v : Value) (n : L) (hc : cost n ≤ 1073741824) (h : Holds w v n) :
    Calls Tryz.prog 14 #[v] w fun e w' => ∃ v' S, e = .returned v' ∧ Own w' w.heap.size v' n S ∧ Below w.heap.size w w' := by
  obtain ⟨r0, r1, r2, rfl, g0, g1, g2⟩ := h
  have H0 := Lib.hid g0
  have H1 := Lib.hid g1
  have H2 := Lib.hid g2
  have hcc : QF.cost n.quotas + IF.cost n.inodes + SF.cost n.data ≤ 1073741824 := hc
  clear g0 g1 g2 hc
  go_enter Tryz.func14, Tryz.ntmps14
  go_wp2_with fail
  have hb0 := (((Below.refl w.heap.size w).alloc (Nat.le_refl _) (.cells #[.int .i64 n.tick, r0, r1, r2] 26)).alloc (by simp) (.cells #[.int .i64 0, .slice none 0 0, .slice none 0 0, .slice none 0 0] 33)).alloc (by simp; omega) (.cells #[.int .i64 n.tick, .slice none 0 0, .slice none 0 0, .slice none 0 0] 33)
  have hA := ((new w #[.int .i64 n.tick, r0, r1, r2] 26).alloc (.cells #[.int .i64 0, .slice none 0 0, .slice none 0 0, .slice none 0 0] 33)).alloc (.cells #[.int .i64 n.tick, .slice none 0 0, .slice none 0 0, .slice none 0 0] 33)
  have hR := (new_at (w.alloc (.cells #[.int .i64 n.tick, r0, r1, r2] 26)) #[.int .i64 0, .slice none 0 0, .slice none 0 0, .slice none 0 0] 33 (w.heap.size + 1) (by simp)).alloc (.cells #[.int .i64 n.tick, .slice none 0 0, .slice none 0 0, .slice none 0 0] 33)
  have hO := new_at ((w.alloc (.cells #[.int .i64 n.tick, r0, r1, r2] 26)).alloc (.cells #[.int .i64 0, .slice none 0 0, .slice none 0 0, .slice none 0 0] 33)) #[.int .i64 n.tick, .slice none 0 0, .slice none 0 0, .slice none 0 0] 33 (w.heap.size + 1 + 1) (by simp)
  generalize hW0 : ((w.alloc (.cells #[.int .i64 n.tick, r0, r1, r2] 26)).alloc (.cells #[.int .i64 0, .slice none 0 0, .slice none 0 0, .slice none 0 0] 33)).alloc (.cells #[.int .i64 n.tick, .slice none 0 0, .slice none 0 0, .slice none 0 0] 33) = w0 at hb0 hA hR hO ⊢
  have hsz : w0.heap.size = w.heap.size + 1 + 1 + 1 := by rw [← hW0]; simp
  have hs0 := Nat.le_of_eq hsz.symm
  clear hW0 hsz
  have HB := Lib.hid hb0
  have HA := Lib.hid hA
  have HR := Lib.hid hR
  have HQ := Lib.hid hO
  clear hb0 hA hR hO
  refine (QF.to_any _ r0 n.quotas (by omega) (QF.holds_below H0.out HB.out)).mono ?_
  rintro e w1 ⟨y0, S0, rfl, hown, hb⟩
  obtain ⟨a0, d0, rfl⟩ := QF.own_form hown
  have hs1 := hb.size
  replace HA := Lib.hid (HA.out.all hb)
  replace HR := Lib.hid (HR.out.all hb)
  replace HQ := Lib.hid (HQ.out.all hb)
  replace HB := Lib.hid (HB.out.trans (hb.mono HB.out.size))
  have hlow0 := QF.own_lies hown
  have HO0 := Lib.hid hown
  have HL0 := Lib.hid hlow0
  clear hown hb hlow0
  have hq0 : w1.cell? ⟨w.heap.size + 1 + 1, 1, none⟩ = some (.slice none 0 0) := HQ.out.cell 1
  have hf0 := HQ.out.free 1
  have hB2 := HB.out.setCell (p := ⟨w.heap.size + 1 + 1, 1, none⟩) (by simp; omega) (.slice a0 n.quotas.length d0)
  have hA2 := HA.out.far (p := ⟨w.heap.size + 1 + 1, 1, none⟩) (by simp; omega) (.slice a0 n.quotas.length d0)
  have hR2 := HR.out.far (p := ⟨w.heap.size + 1 + 1, 1, none⟩) (by simp) (.slice a0 n.quotas.length d0)
  have hQ2 : Bk _ _ #[.int .i64 n.tick, .slice a0 n.quotas.length d0, .slice none 0 0, .slice none 0 0] _ := HQ.out.put 1 (.slice a0 n.quotas.length d0)
  have hO20 := QF.own_set HO0.out (a := ⟨w.heap.size + 1 + 1, 1, none⟩) (by simp; omega) (.slice a0 n.quotas.length d0)
  have hn0 := hA2.cell 2
  simp only [List.getElem?_toArray, List.getElem?_cons_succ, List.getElem?_cons_zero] at hn0
  replace HB := Lib.hid hB2
  replace HA := Lib.hid hA2
  replace HR := Lib.hid hR2
  replace HQ := Lib.hid hQ2
  replace HO0 := Lib.hid hO20
  clear hB2 hA2 hR2 hQ2 hO20
  go_wp2_with fail
  clear hq0 hf0 hn0
  refine (IF.to_any _ r1 n.inodes (by omega) (IF.holds_below H1.out HB.out)).mono ?_
  rintro e w2 ⟨y1, S1, rfl, hown, hb⟩
  obtain ⟨a1, d1, rfl⟩ := IF.own_form hown
  have hs2 := hb.size
  simp only [World.size_setCell] at hs2
  replace HA := Lib.hid (HA.out.all hb)
  replace HR := Lib.hid (HR.out.all hb)
  replace HQ := Lib.hid (HQ.out.all hb)
  replace HB := Lib.hid (HB.out.trans (hb.mono HB.out.size))
  replace HO0 := Lib.hid (QF.own_below HO0.out hb)
  have hlow1 := IF.own_lies hown
  simp only [World.size_setCell] at hown hlow1
  have HO1 := Lib.hid hown
  have HL1 := Lib.hid hlow1
  clear hown hb hlow1
  have hq1 : w2.cell? ⟨w.heap.size + 1 + 1, 2, none⟩ = some (.slice none 0 0) := HQ.out.cell 2
  have hf1 := HQ.out.free 2
  have hB2 := HB.out.setCell (p := ⟨w.heap.size + 1 + 1, 2, none⟩) (by simp; omega) (.slice a1 n.inodes.length d1)
  have hA2 := HA.out.far (p := ⟨w.heap.size + 1 + 1, 2, none⟩) (by simp; omega) (.slice a1 n.inodes.length d1)
  have hR2 := HR.out.far (p := ⟨w.heap.size + 1 + 1, 2, none⟩) (by simp) (.slice a1 n.inodes.length d1)
  have hQ2 : Bk _ _ #[.int .i64 n.tick, .slice a0 n.quotas.length d0, .slice a1 n.inodes.length d1, .slice none 0 0] _ := HQ.out.put 2 (.slice a1 n.inodes.length d1)
  have hO20 := QF.own_set HO0.out (a := ⟨w.heap.size + 1 + 1, 2, none⟩) (by simp; omega) (.slice a1 n.inodes.length d1)
  have hO21 := IF.own_set HO1.out (a := ⟨w.heap.size + 1 + 1, 2, none⟩) (by simp; omega) (.slice a1 n.inodes.length d1)
  have hn1 := hA2.cell 3
  simp only [List.getElem?_toArray, List.getElem?_cons_succ, List.getElem?_cons_zero] at hn1
  replace HB := Lib.hid hB2
  replace HA := Lib.hid hA2
  replace HR := Lib.hid hR2
  replace HQ := Lib.hid hQ2
  replace HO0 := Lib.hid hO20
  replace HO1 := Lib.hid hO21
  clear hB2 hA2 hR2 hQ2 hO20 hO21
  go_wp2_with fail
  clear hq1 hf1 hn1
  refine (SF.to_any _ r2 n.data (by omega) (SF.holds_below H2.out HB.out)).mono ?_
  rintro e w3 ⟨y2, S2, rfl, hown, hb⟩
  obtain ⟨a2, d2, rfl⟩ := SF.own_form hown
  have hs3 := hb.size
  simp only [World.size_setCell] at hs3
  replace HA := Lib.hid (HA.out.all hb)
  replace HR := Lib.hid (HR.out.all hb)
  replace HQ := Lib.hid (HQ.out.all hb)
  replace HB := Lib.hid (HB.out.trans (hb.mono HB.out.size))
  replace HO0 := Lib.hid (QF.own_below HO0.out hb)
  replace HO1 := Lib.hid (IF.own_below HO1.out hb)
  have hlow2 := SF.own_lies hown
  simp only [World.size_setCell] at hown hlow2
  have HO2 := Lib.hid hown
  have HL2 := Lib.hid hlow2
  clear hown hb hlow2
  have hq2 : w3.cell? ⟨w.heap.size + 1 + 1, 3, none⟩ = some (.slice none 0 0) := HQ.out.cell 3
  have hf2 := HQ.out.free 3
  have rz := HR.out.cell
  have rc0 := rz 0
  have rf0 := HR.out.free 0
  have qc0 := HQ.out.cell 0
  have rc1 := rz 1
  have rf1 := HR.out.free 1
  have qc1 := HQ.out.cell 1
  have rc2 := rz 2
  have rf2 := HR.out.free 2
  have qc2 := HQ.out.cell 2
  have rc3 := rz 3
  have rf3 := HR.out.free 3
  clear rz
  dsimp at rc0 rc1 rc2 rc3 qc0 qc1 qc2
  go_wp2_with fail
  have hF0 := HR.out.far (p := ⟨w.heap.size + 1 + 1, 3, none⟩) (by simp) (.slice a2 n.data.length d2)
  have hF1 : Bk _ _ #[.int .i64 n.tick, .slice none 0 0, .slice none 0 0, .slice none 0 0] _ := hF0.put 0 (.int .i64 n.tick)
  clear hF0
  have hF2 : Bk _ _ #[.int .i64 n.tick, .slice a0 n.quotas.length d0, .slice none 0 0, .slice none 0 0] _ := hF1.put 1 (.slice a0 n.quotas.length d0)
  clear hF1
  have hF3 : Bk _ _ #[.int .i64 n.tick, .slice a0 n.quotas.length d0, .slice a1 n.inodes.length d1, .slice none 0 0] _ := hF2.put 2 (.slice a1 n.inodes.length d1)
  clear hF2
  have hF4 : Bk _ _ #[.int .i64 n.tick, .slice a0 n.quotas.length d0, .slice a1 n.inodes.length d1, .slice a2 n.data.length d2] _ := hF3.put 3 (.slice a2 n.data.length d2)
  clear hF3
  have hF := hF4
  clear hF4
  have hB4 := (((((HB.out.setCell (p := ⟨w.heap.size + 1 + 1, 3, none⟩) (by first | (simp; done) | (simp; omega)) (.slice a2 n.data.length d2)).setCell (p := ⟨w.heap.size + 1, 0, none⟩) (by first | (simp; done) | (simp; omega)) (.int .i64 n.tick)).setCell (p := ⟨w.heap.size + 1, 1, none⟩) (by first | (simp; done) | (simp; omega)) (.slice a0 n.quotas.length d0)).setCell (p := ⟨w.heap.size + 1, 2, none⟩) (by first | (simp; done) | (simp; omega)) (.slice a1 n.inodes.length d1)).setCell (p := ⟨w.heap.size + 1, 3, none⟩) (by first | (simp; done) | (simp; omega)) (.slice a2 n.data.length d2))
  have hO40 := (QF.own_set (QF.own_set (QF.own_set (QF.own_set (QF.own_set HO0.out (a := ⟨w.heap.size + 1 + 1, 3, none⟩) (by first | (simp; done) | (simp; omega)) (.slice a2 n.data.length d2)) (a := ⟨w.heap.size + 1, 0, none⟩) (by first | (simp; done) | (simp; omega)) (.int .i64 n.tick)) (a := ⟨w.heap.size + 1, 1, none⟩) (by first | (simp; done) | (simp; omega)) (.slice a0 n.quotas.length d0)) (a := ⟨w.heap.size + 1, 2, none⟩) (by first | (simp; done) | (simp; omega)) (.slice a1 n.inodes.length d1)) (a := ⟨w.heap.size + 1, 3, none⟩) (by first | (simp; done) | (simp; omega)) (.slice a2 n.data.length d2))
  have hO41 := (IF.own_set (IF.own_set (IF.own_set (IF.own_set (IF.own_set HO1.out (a := ⟨w.heap.size + 1 + 1, 3, none⟩) (by first | (simp; done) | (simp; omega)) (.slice a2 n.data.length d2)) (a := ⟨w.heap.size + 1, 0, none⟩) (by first | (simp; done) | (simp; omega)) (.int .i64 n.tick)) (a := ⟨w.heap.size + 1, 1, none⟩) (by first | (simp; done) | (simp; omega)) (.slice a0 n.quotas.length d0)) (a := ⟨w.heap.size + 1, 2, none⟩) (by first | (simp; done) | (simp; omega)) (.slice a1 n.inodes.length d1)) (a := ⟨w.heap.size + 1, 3, none⟩) (by first | (simp; done) | (simp; omega)) (.slice a2 n.data.length d2))
  have hO42 := (SF.own_set (SF.own_set (SF.own_set (SF.own_set (SF.own_set HO2.out (a := ⟨w.heap.size + 1 + 1, 3, none⟩) (by first | (simp; done) | (simp; omega)) (.slice a2 n.data.length d2)) (a := ⟨w.heap.size + 1, 0, none⟩) (by first | (simp; done) | (simp; omega)) (.int .i64 n.tick)) (a := ⟨w.heap.size + 1, 1, none⟩) (by first | (simp; done) | (simp; omega)) (.slice a0 n.quotas.length d0)) (a := ⟨w.heap.size + 1, 2, none⟩) (by first | (simp; done) | (simp; omega)) (.slice a1 n.inodes.length d1)) (a := ⟨w.heap.size + 1, 3, none⟩) (by first | (simp; done) | (simp; omega)) (.slice a2 n.data.length d2))
  generalize (((((w3.setCell ⟨w.heap.size + 1 + 1, 3, none⟩ (.slice a2 n.data.length d2)).setCell ⟨w.heap.size + 1, 0, none⟩ (.int .i64 n.tick)).setCell ⟨w.heap.size + 1, 1, none⟩ (.slice a0 n.quotas.length d0)).setCell ⟨w.heap.size + 1, 2, none⟩ (.slice a1 n.inodes.length d1)).setCell ⟨w.heap.size + 1, 3, none⟩ (.slice a2 n.data.length d2)) = w9 at hF hB4 hO40 hO41 hO42 ⊢
  have fc0 : w9.cell? ⟨w.heap.size + 1, 0, none⟩ = some (.int .i64 n.tick) := hF.cell 0
  have fc1 : w9.cell? ⟨w.heap.size + 1, 1, none⟩ = some (.slice a0 n.quotas.length d0) := hF.cell 1
  have fc2 : w9.cell? ⟨w.heap.size + 1, 2, none⟩ = some (.slice a1 n.inodes.length d1) := hF.cell 2
  have fc3 : w9.cell? ⟨w.heap.size + 1, 3, none⟩ = some (.slice a2 n.data.length d2) := hF.cell 3
  have hnd : (S0 ++ S1 ++ S2).Nodup := (nodup_app (nodup_app (QF.own_nodup hO40) (IF.own_nodup hO41) (Lies.apart HL0.out HL1.out (by omega))) (SF.own_nodup hO42) (apart_app.2 ⟨(Lies.apart HL0.out HL2.out (by omega)), Lies.apart HL1.out HL2.out (by omega)⟩))
  exact bodyPost_ret (v := .agg #[.int .i64 n.tick, (.slice a0 n.quotas.length d0), (.slice a1 n.inodes.length d1), (.slice a2 n.data.length d2)]) (by simp [results, Tryz.results14, go_sem, fc0, fc1, fc2, fc3]) rfl ⟨_, _, rfl, ⟨_, _, _, S0, S1, S2, rfl, rfl, hnd, QF.own_mono hO40 (by omega), IF.own_mono hO41 (by omega), SF.own_mono hO42 (by omega)⟩, hB4⟩

set_option maxRecDepth 100000 in
set_option maxHeartbeats 1600000 in
theorem eq_any (w : World) (va vb : Value) (n : L) (hc : cost n ≤ 1073741824) (h : Holds w va n) (h' : Holds w vb n) :
    Calls Tryz.prog 16 #[va, vb] w fun e w' => e = .returned (.bool true) ∧ Below w.heap.size w w' := by
  obtain ⟨x0, x1, x2, rfl, g0, g1, g2⟩ := h
  obtain ⟨y0, y1, y2, rfl, k0, k1, k2⟩ := h'
  have H0 := Lib.hid g0
  have K0 := Lib.hid k0
  have H1 := Lib.hid g1
  have K1 := Lib.hid k1
  have H2 := Lib.hid g2
  have K2 := Lib.hid k2
  have hcc : QF.cost n.quotas + IF.cost n.inodes + SF.cost n.data ≤ 1073741824 := hc
  clear g0 k0 g1 k1 g2 k2 hc
  have HB := Lib.hid (((Below.refl w.heap.size w).alloc (Nat.le_refl _) (.cells #[.int .i64 n.tick, x0, x1, x2] 33)).alloc (by simp) (.cells #[.int .i64 n.tick, y0, y1, y2] 33))
  have HX := Lib.hid ((new w #[.int .i64 n.tick, x0, x1, x2] 33).alloc (.cells #[.int .i64 n.tick, y0, y1, y2] 33))
  have HY := Lib.hid (new_at (w.alloc (.cells #[.int .i64 n.tick, x0, x1, x2] 33)) #[.int .i64 n.tick, y0, y1, y2] 33 (w.heap.size + 1) (by simp))
  go_enter Tryz.func16, Tryz.ntmps16
  go_wp2_with fail
  refine (QF.eq_any _ x0 y0 n.quotas (by omega) (QF.holds_below H0.out HB.out) (QF.holds_below K0.out HB.out)).mono ?_
  rintro e w1 ⟨rfl, hb⟩
  replace HX := Lib.hid (HX.out.all hb)
  replace HY := Lib.hid (HY.out.all hb)
  replace HB := Lib.hid (HB.out.trans (hb.mono HB.out.size))
  clear hb
  have cx02 := HX.out.cell 2
  have cy02 := HY.out.cell 2
  have cx03 := HX.out.cell 3
  have cy03 := HY.out.cell 3
  dsimp at cx02 cy02 cx03 cy03
  go_wp2_with fail
  refine (IF.eq_any _ x1 y1 n.inodes (by omega) (IF.holds_below H1.out HB.out) (IF.holds_below K1.out HB.out)).mono ?_
  rintro e w2 ⟨rfl, hb⟩
  replace HX := Lib.hid (HX.out.all hb)
  replace HY := Lib.hid (HY.out.all hb)
  replace HB := Lib.hid (HB.out.trans (hb.mono HB.out.size))
  clear hb
  have cx13 := HX.out.cell 3
  have cy13 := HY.out.cell 3
  dsimp at cx13 cy13
  go_wp2_with fail
  refine (SF.eq_any _ x2 y2 n.data (by omega) (SF.holds_below H2.out HB.out) (SF.holds_below K2.out HB.out)).mono ?_
  rintro e w3 ⟨rfl, hb⟩
  replace HX := Lib.hid (HX.out.all hb)
  replace HY := Lib.hid (HY.out.all hb)
  replace HB := Lib.hid (HB.out.trans (hb.mono HB.out.size))
  clear hb
  go_wp2
  go_ret
  exact ⟨rfl, HB.out⟩

def marks (k : Nat) (n : L) : L := { n with quotas := QF.marks (k) n.quotas, inodes := IF.marks (k + QF.wid n.quotas) n.inodes, data := SF.marks (k + QF.wid n.quotas + IF.wid n.inodes) n.data }
def wid (n : L) : Nat := QF.wid n.quotas + IF.wid n.inodes + SF.wid n.data
theorem wid_le {n : L} (h : cost n ≤ 1048576) : 1 + wid n ≤ 1073741824 := by
  unfold cost at h
  unfold wid
  have h0 : QF.wid n.quotas ≤ 3 * QF.cost n.quotas := QF.wid_cost _
  have h1 : IF.wid n.inodes ≤ 10 * IF.cost n.inodes := IF.wid_cost _
  have h2 : SF.wid n.data ≤ 3 * SF.cost n.data := SF.wid_cost _
  omega
theorem wid_cost (n : L) : wid n ≤ 10 * cost n := by
  unfold cost wid
  have h0 : QF.wid n.quotas ≤ 3 * QF.cost n.quotas := QF.wid_cost _
  have h1 : IF.wid n.inodes ≤ 10 * IF.cost n.inodes := IF.wid_cost _
  have h2 : SF.wid n.data ≤ 3 * SF.cost n.data := SF.wid_cost _
  omega
set_option maxRecDepth 100000 in
set_option maxHeartbeats 1600000 in
theorem mark_any (w : World) (base : Nat) (v : Value) (n : L) (S : List Nat) (k : Nat) (hk : 1 ≤ k) (hn : k + wid n ≤ 1073741824) (h : Own w base v n S) :
    Calls Tryz.prog 20 #[v, .int .i64 k] w fun e w' => e = .returned (.int .i64 (k + wid n : Nat)) ∧ Own w' base v (marks k n) S ∧ Chg w w' S := by
  have hlies := own_lies h
  obtain ⟨r0, r1, r2, S0, S1, S2, rfl, rfl, hnd, h0, h1, h2⟩ := h
  unfold wid at hn
  have HB0 := (Below.refl w.heap.size w).alloc (Nat.le_refl _) (.cells #[.int .i64 n.tick, r0, r1, r2] 33)
  have HC := Lib.hid (Chg.of_below HB0 (Nat.le_refl _) (S0 ++ S1 ++ S2))
  have HX := Lib.hid (new w #[.int .i64 n.tick, r0, r1, r2] 33)
  have hxn : w.heap.size ∉ S0 ++ S1 ++ S2 := fun hh => by have := (hlies _ hh).2; omega
  simp only [List.mem_append, not_or] at hxn
  have HXN := Lib.hid hxn
  have HND := Lib.hid hnd
  have HO0 := Lib.hid (QF.own_below h0 HB0)
  have HO1 := Lib.hid (IF.own_below h1 HB0)
  have HO2 := Lib.hid (SF.own_below h2 HB0)
  clear hlies hxn hnd HB0 h0 h1 h2
  go_enter Tryz.func20, Tryz.ntmps20
  go_wp2_with fail
  refine (QF.mark_any _ base r0 n.quotas S0 (k) (by omega) (by omega) HO0.out).mono ?_
  rintro e w1 ⟨rfl, hown, hc⟩
  replace HX := Lib.hid (show Bk w1 w.heap.size _ _ from (hc.block w.heap.size HX.out.lt HXN.out.1.1).trans HX.out)
  replace HO1 := Lib.hid (IF.own_chg HO1.out hc ((nodup_parts (nodup_parts HND.out).1).2.2).symm)
  replace HO2 := Lib.hid (SF.own_chg HO2.out hc ((apart_app.1 (nodup_parts HND.out).2.2).1).symm)
  replace HO0 := Lib.hid hown
  replace HC := Lib.hid (HC.out.trans (hc.more (fun b hb => by simp [hb])))
  clear hown hc
  have c0 := HX.out.cell 2
  simp only [List.getElem?_toArray, List.getElem?_cons_succ, List.getElem?_cons_zero] at c0
  go_wp2_with fail
  try rw [show (((k : Nat) : Int) + (QF.wid n.quotas : Int)) = ((k + QF.wid n.quotas : Nat) : Int) from by omega]
  refine (IF.mark_any _ base r1 n.inodes S1 (k + QF.wid n.quotas) (by omega) (by omega) HO1.out).mono ?_
  rintro e w2 ⟨rfl, hown, hc⟩
  replace HX := Lib.hid (show Bk w2 w.heap.size _ _ from (hc.block w.heap.size HX.out.lt HXN.out.1.2).trans HX.out)
  replace HO0 := Lib.hid (QF.own_chg HO0.out hc (nodup_parts (nodup_parts HND.out).1).2.2)
  replace HO2 := Lib.hid (SF.own_chg HO2.out hc ((apart_app.1 (nodup_parts HND.out).2.2).2).symm)
  replace HO1 := Lib.hid hown
  replace HC := Lib.hid (HC.out.trans (hc.more (fun b hb => by simp [hb])))
  clear hown hc
  have c1 := HX.out.cell 3
  simp only [List.getElem?_toArray, List.getElem?_cons_succ, List.getElem?_cons_zero] at c1
  go_wp2_with fail
  try rw [show (((k + QF.wid n.quotas : Nat) : Int) + (IF.wid n.inodes : Int)) = ((k + QF.wid n.quotas + IF.wid n.inodes : Nat) : Int) from by omega]
  refine (SF.mark_any _ base r2 n.data S2 (k + QF.wid n.quotas + IF.wid n.inodes) (by omega) (by omega) HO2.out).mono ?_
  rintro e w3 ⟨rfl, hown, hc⟩
  replace HX := Lib.hid (show Bk w3 w.heap.size _ _ from (hc.block w.heap.size HX.out.lt HXN.out.2).trans HX.out)
  replace HO0 := Lib.hid (QF.own_chg HO0.out hc (apart_app.1 (nodup_parts HND.out).2.2).1)
  replace HO1 := Lib.hid (IF.own_chg HO1.out hc (apart_app.1 (nodup_parts HND.out).2.2).2)
  replace HO2 := Lib.hid hown
  replace HC := Lib.hid (HC.out.trans (hc.more (fun b hb => by simp [hb])))
  clear hown hc
  go_wp2
  go_ret
  exact ⟨ret_int (by unfold wid; omega), ⟨r0, r1, r2, S0, S1, S2, rfl, rfl, HND.out, HO0.out, HO1.out, HO2.out⟩, HC.out⟩

set_option maxRecDepth 100000 in
set_option maxHeartbeats 1600000 in
/-- The marks are found. -/
theorem held_any (w : World) (v : Value) (n : L) (k : Nat) (hk : 1 ≤ k) (hn : k + wid n ≤ 1073741824) (h : Holds w v (marks k n)) :
    Calls Tryz.prog 25 #[v, .int .i64 k] w fun e w' => e = .returned (.int .i64 (k + wid n : Nat)) ∧ Below w.heap.size w w' := by
  obtain ⟨r0, r1, r2, rfl, g0, g1, g2⟩ := h
  dsimp only [marks] at g0 g1 g2 ⊢
  have H0 := Lib.hid g0
  have H1 := Lib.hid g1
  have H2 := Lib.hid g2
  unfold wid at hn
  have HB := Lib.hid ((Below.refl w.heap.size w).alloc (Nat.le_refl _) (.cells #[.int .i64 n.tick, r0, r1, r2] 33))
  have HX := Lib.hid (new w #[.int .i64 n.tick, r0, r1, r2] 33)
  clear g0 g1 g2
  go_enter Tryz.func25, Tryz.ntmps25
  go_wp2_with fail
  refine (QF.held_any _ r0 n.quotas (k) (by omega) (by omega) (QF.holds_below H0.out HB.out)).mono ?_
  rintro e w1 ⟨rfl, hb⟩
  replace HX := Lib.hid (HX.out.all hb)
  replace HB := Lib.hid (HB.out.trans (hb.mono HB.out.size))
  clear hb
  have c0 := HX.out.cell 2
  simp only [List.getElem?_toArray, List.getElem?_cons_succ, List.getElem?_cons_zero] at c0
  go_wp2_with fail
  try rw [show (((k : Nat) : Int) + (QF.wid n.quotas : Int)) = ((k + QF.wid n.quotas : Nat) : Int) from by omega]
  refine (IF.held_any _ r1 n.inodes (k + QF.wid n.quotas) (by omega) (by omega) (IF.holds_below H1.out HB.out)).mono ?_
  rintro e w2 ⟨rfl, hb⟩
  replace HX := Lib.hid (HX.out.all hb)
  replace HB := Lib.hid (HB.out.trans (hb.mono HB.out.size))
  clear hb
  have c1 := HX.out.cell 3
  simp only [List.getElem?_toArray, List.getElem?_cons_succ, List.getElem?_cons_zero] at c1
  go_wp2_with fail
  try rw [show (((k + QF.wid n.quotas : Nat) : Int) + (IF.wid n.inodes : Int)) = ((k + QF.wid n.quotas + IF.wid n.inodes : Nat) : Int) from by omega]
  refine (SF.held_any _ r2 n.data (k + QF.wid n.quotas + IF.wid n.inodes) (by omega) (by omega) (SF.holds_below H2.out HB.out)).mono ?_
  rintro e w3 ⟨rfl, hb⟩
  replace HX := Lib.hid (HX.out.all hb)
  replace HB := Lib.hid (HB.out.trans (hb.mono HB.out.size))
  clear hb
  go_wp2
  go_ret
  exact ⟨ret_int (by unfold wid; omega), HB.out⟩

set_option maxRecDepth 100000 in
/-- Cells that read as data of the type hold a value. -/
theorem in_cells {H : Type} {enc : TypeId × Value → H} {W : World} {fuel : Nat} {cs : List Value} {x : DataW H × List MemPlace} (hf : DataW.trod enc Tryz.prog W 0 (fun _ => true) true fuel 26 cs = some x) :
    ∃ (n : L) (r0 r1 r2 : Value), cs = [.int .i64 n.tick, r0, r1, r2] ∧ Lim n ∧ QF.Holds W r0 n.quotas ∧ IF.Holds W r1 n.inodes ∧ SF.Holds W r2 n.data := by
  obtain ⟨xs, fu, _, rfl, hl, hlen, hfs⟩ := DataW.trod_struct Tryz.underlying26 hf
  rw [show Tryz.prog.cellsOf 26 = 4 from by kernel_rfl] at hl
  obtain ⟨c0, c1, c2, c3, rfl⟩ : ∃ c0 c1 c2 c3, cs = [c0, c1, c2, c3] := by
    match cs, hl with
    | [c0, c1, c2, c3], _ => exact ⟨_, _, _, _, rfl⟩
  obtain ⟨z0, z1, z2, z3, rfl⟩ : ∃ z0 z1 z2 z3, xs = [z0, z1, z2, z3] := by
    match xs, hlen with
    | [c0, c1, c2, c3], _ => exact ⟨_, _, _, _, rfl⟩
  have hc_2 : Tryz.prog.cellsOf 23 = 1 := by kernel_rfl
  have hc_1 : Tryz.prog.cellsOf 22 = 1 := by kernel_rfl
  have hc_3 : Tryz.prog.cellsOf 24 = 1 := by kernel_rfl
  have hc_0 : Tryz.prog.cellsOf 3 = 1 := by kernel_rfl
  have e0 : DataW.trod enc Tryz.prog W 0 (fun _ => true) true fu 3 [c0] = some z0 := by simpa [hc_0] using hfs 0 _ rfl
  have e1 : DataW.trod enc Tryz.prog W 0 (fun _ => true) true fu 22 [c1] = some z1 := by simpa [hc_1] using hfs 1 _ rfl
  have e2 : DataW.trod enc Tryz.prog W 0 (fun _ => true) true fu 23 [c2] = some z2 := by simpa [hc_2] using hfs 2 _ rfl
  have e3 : DataW.trod enc Tryz.prog W 0 (fun _ => true) true fu 24 [c3] = some z3 := by simpa [hc_3] using hfs 3 _ rfl
  obtain ⟨i0, hi0, _, m0⟩ := DataW.trod_int Tryz.underlying3 e0
  obtain rfl : c0 = .int .i64 i0 := by simpa using hi0
  obtain ⟨l1, m1, h1⟩ := QF.in_cell e1
  obtain ⟨l2, m2, h2⟩ := IF.in_cell e2
  obtain ⟨l3, m3, h3⟩ := SF.in_cell e3
  exact ⟨⟨i0, l1, l2, l3⟩, c1, c2, c3, rfl, ⟨rg_of m0, m1, m2, m3⟩, h1, h2, h3⟩
set_option maxRecDepth 100000 in
/-- What an argument of that type offers. -/
theorem in_any {H : Type} {enc : TypeId × Value → H} {W : World} {b0 : Nat} {v : Value} {x : DataW H} {p : List MemPlace} (hv : Value.okWide Tryz.prog W .any b0 26 v) (h : DataW.Trod enc Tryz.prog W 0 (fun _ => true) true 26 v x p) :
    ∃ n : L, Lim n ∧ Holds W v n := by
  obtain ⟨cs, rfl, hsz⟩ := okWide_struct Tryz.underlying26 hv
  obtain ⟨fuel, hf⟩ := h
  obtain ⟨n, r0, r1, r2, hcs, hl, hr⟩ := in_cells hf
  have : cs = #[.int .i64 n.tick, r0, r1, r2] := Array.toList_inj.1 (by simpa [Value.cells] using hcs)
  subst this
  exact ⟨n, hl, r0, r1, r2, rfl, hr⟩
end Go.Proofs.YthppbcnejapbiaaGreatDoor.FsF
