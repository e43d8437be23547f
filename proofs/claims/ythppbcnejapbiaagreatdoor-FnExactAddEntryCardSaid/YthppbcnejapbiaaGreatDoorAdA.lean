/- Helper texts joined, one behind another (a claim has at most 60 files): what each proves, its own head says: YthppbcnejapbiaaGreatDoorFsV, YthppbcnejapbiaaGreatDoorQt, YthppbcnejapbiaaGreatDoorFoot, YthppbcnejapbiaaGreatDoorQF, YthppbcnejapbiaaGreatDoorSF, YthppbcnejapbiaaGreatDoorNi, YthppbcnejapbiaaGreatDoorNiF, YthppbcnejapbiaaGreatDoorAeIn, YthppbcnejapbiaaGreatDoorAeF, YthppbcnejapbiaaGreatDoorBx. -/
import Derived.Test.YthppbcnejapbiaaGreatDoorInoV
import Derived.Test.YthppbcnejapbiaaGreatDoorDkOpen
import Derived.Deep.RegionHeld3
import Derived.Below
import Derived.Laws.AppendOwn
import Derived.Laws.OwnMore
import Derived.OwnWalk
import Derived.Lib.Hide
import Derived.Deep.Strs
import Derived.Test.YthppbcnejapbiaaGreatDoorStrsTwo
import Derived.Test.YthppbcnejapbiaaGreatDoorAe
import Derived.Test.YthppbcnejapbiaaGreatDoorDkAt

-- YthppbcnejapbiaaGreatDoorFsV
/- A part. -/
namespace Go.Proofs.YthppbcnejapbiaaGreatDoor.FsV
open InoV (I okI usedV hasB)
set_option linter.unusedVariables false
structure F where
 tick : Int
 quotas : List (Int × Int)
 inodes : List I
 data : List ByteArray
def zero : F := ⟨0, [], [], []⟩
def e0 : ByteArray := ⟨#[]⟩
def quB (q : Int × Int) : Bool := (decide (0 <= q.1) && decide (q.1 <= 5)) && (decide (0 <= q.2) && decide (q.2 <= 14))
def ownerV (b : Int) : Int := if 0 <= b /\ b <= 55 then b / 14 else -1
def zB (s : ByteArray) : Bool := s.data.toList.all (· == 0)
def allB (ns : List I) : List Int := ns.flatMap fun n => usedV n.blocks
def pairs (ns : List I) : List (Int × Int) := ns.flatMap fun n => (usedV n.blocks).map fun b => (n.uid, b)
def oneB (seen : List Int) (p : Int × Int) : Bool := decide (ownerV p.2 = p.1) && !hasB seen p.2
def goB : List Int -> List (Int × Int) -> Bool
 | _, [] => true
 | seen, p :: r => oneB seen p && goB (seen ++ [p.2]) r
def ownB (ns : List I) : Bool := goB [] (pairs ns)
theorem has_app (a b : List Int) (x : Int) : hasB (a ++ b) x = (hasB a x || hasB b x) := by simp [hasB]
theorem has_one (y x : Int) : hasB [y] x = decide (y = x) := by simp [hasB]
theorem has_mem {l : List Int} {x : Int} : hasB l x = true ↔ x ∈ l := by simp [hasB]
theorem has_snoc (a : List Int) (y x : Int) : hasB (a ++ [y]) x = (hasB a x || decide (y = x)) := by rw [has_app, has_one]
theorem all_app (a b : List I) : allB (a ++ b) = allB a ++ allB b := by simp [allB]
theorem pairs_app (a b : List I) : pairs (a ++ b) = pairs a ++ pairs b := by simp [pairs]
theorem pairs_snd (ns : List I) : (pairs ns).map Prod.snd = allB ns := by
 induction ns with
 | nil => rfl
 | cons n r ih =>
  rw [show pairs (n :: r) = ((usedV n.blocks).map fun b => (n.uid, b)) ++ pairs r from rfl, List.map_append, ih, show allB (n :: r) = usedV n.blocks ++ allB r from rfl, List.map_map]
  simp [Function.comp_def]
theorem go_app (p q : List (Int × Int)) : ∀ seen, goB seen (p ++ q) = (goB seen p && goB (seen ++ p.map Prod.snd) q) := by
 induction p with
 | nil => intro seen; simp [goB]
 | cons x r ih =>
  intro seen
  rw [List.cons_append, goB, goB, ih, List.map_cons, List.append_assoc, Bool.and_assoc]; rfl
def pre (ns : List I) (i j : Nat) : List (Int × Int) := pairs (ns.take i) ++ (((usedV (ns.getD i InoV.zero).blocks).take j).map fun b => ((ns.getD i InoV.zero).uid, b))
def seen (ns : List I) (i j : Nat) : List Int := allB (ns.take i) ++ (usedV (ns.getD i InoV.zero).blocks).take j
theorem pre_snd (ns : List I) (i j : Nat) : (pre ns i j).map Prod.snd = seen ns i j := by
 rw [pre, List.map_append, pairs_snd, List.map_map, seen]; simp [Function.comp_def]
theorem take_snoc {α : Type} (l : List α) (z : α) (i : Nat) (h : i < l.length) : l.take (i + 1) = l.take i ++ [l.getD i z] := by
 rw [List.take_succ_eq_append_getElem h]; simp [List.getD, List.getElem?_eq_getElem h]
theorem seen_zero (ns : List I) (i : Nat) : seen ns i 0 = allB (ns.take i) := by simp [seen]
theorem pre_zero (ns : List I) (i : Nat) : pre ns i 0 = pairs (ns.take i) := by simp [pre]
theorem seen_end (ns : List I) (i : Nat) (h : i < ns.length) : seen ns i (usedV (ns.getD i InoV.zero).blocks).length = seen ns (i + 1) 0 := by
 rw [seen_zero, take_snoc ns InoV.zero i h, all_app, seen, List.take_length]; simp [allB]
theorem pre_end (ns : List I) (i : Nat) (h : i < ns.length) : pre ns i (usedV (ns.getD i InoV.zero).blocks).length = pre ns (i + 1) 0 := by
 rw [pre_zero, take_snoc ns InoV.zero i h, pairs_app, pre, List.take_length]; simp [pairs]
theorem seen_snoc (ns : List I) (i j : Nat) (h : j < (usedV (ns.getD i InoV.zero).blocks).length) : seen ns i (j + 1) = seen ns i j ++ [(usedV (ns.getD i InoV.zero).blocks).getD j 0] := by
 rw [seen, seen, take_snoc _ 0 j h, List.append_assoc]
theorem pre_snoc (ns : List I) (i j : Nat) (h : j < (usedV (ns.getD i InoV.zero).blocks).length) : pre ns i (j + 1) = pre ns i j ++ [((ns.getD i InoV.zero).uid, (usedV (ns.getD i InoV.zero).blocks).getD j 0)] := by
 rw [pre, pre, take_snoc _ 0 j h, List.map_append, List.append_assoc]; rfl
theorem pairs_split (ns : List I) (i j : Nat) (hi : i < ns.length) (h : j < (usedV (ns.getD i InoV.zero).blocks).length) : ∃ r, pairs ns = pre ns i j ++ ((ns.getD i InoV.zero).uid, (usedV (ns.getD i InoV.zero).blocks).getD j 0) :: r := by
 have e : ns = ns.take i ++ (ns.getD i InoV.zero :: ns.drop (i + 1)) := by
  rw [List.getD_eq_getElem?_getD, List.getElem?_eq_getElem hi]; simp
 have e2 : usedV (ns.getD i InoV.zero).blocks = (usedV (ns.getD i InoV.zero).blocks).take j ++ ((usedV (ns.getD i InoV.zero).blocks).getD j 0 :: (usedV (ns.getD i InoV.zero).blocks).drop (j + 1)) := by
  rw [List.getD_eq_getElem?_getD (l := usedV _), List.getElem?_eq_getElem h]; simp
 refine ⟨((usedV (ns.getD i InoV.zero).blocks).drop (j + 1)).map (fun b => ((ns.getD i InoV.zero).uid, b)) ++ pairs (ns.drop (i + 1)), ?_⟩
 conv => lhs; rw [e]
 rw [pairs_app, show pairs (ns.getD i InoV.zero :: ns.drop (i + 1)) = ((usedV (ns.getD i InoV.zero).blocks).map fun b => ((ns.getD i InoV.zero).uid, b)) ++ pairs (ns.drop (i + 1)) from by simp [pairs], pre]
 conv => lhs; rw [e2]
 simp
theorem own_no (ns : List I) (i j : Nat) (hi : i < ns.length) (h : j < (usedV (ns.getD i InoV.zero).blocks).length) (hn : oneB (seen ns i j) ((ns.getD i InoV.zero).uid, (usedV (ns.getD i InoV.zero).blocks).getD j 0) = false) : ownB ns = false := by
 obtain ⟨r, hr⟩ := pairs_split ns i j hi h
 rw [ownB, hr, go_app, List.nil_append, pre_snd, goB, hn]; simp
theorem own_step (ns : List I) (i j : Nat) (h : j < (usedV (ns.getD i InoV.zero).blocks).length) (hp : goB [] (pre ns i j) = true) (hn : oneB (seen ns i j) ((ns.getD i InoV.zero).uid, (usedV (ns.getD i InoV.zero).blocks).getD j 0) = true) : goB [] (pre ns i (j + 1)) = true := by
 rw [pre_snoc ns i j h, go_app, hp, List.nil_append, pre_snd, goB, hn]; rfl
theorem own_end (ns : List I) (i : Nat) (hi : i = ns.length) (h : goB [] (pre ns i 0) = true) : ownB ns = true := by
 rw [pre_zero, hi, List.take_length] at h; exact h
theorem has_at {ns : List I} {i j : Nat} (hi : i < ns.length) (h : j < (usedV (ns.getD i InoV.zero).blocks).length) : hasB (allB ns) ((usedV (ns.getD i InoV.zero).blocks).getD j 0) = true := by
 obtain ⟨r, hr⟩ := pairs_split ns i j hi h
 rw [<- pairs_snd, hr, has_mem]; simp
theorem go_mem {p : List (Int × Int)} : ∀ {s : List Int}, goB s p = true -> (∀ x ∈ p, ownerV x.2 = x.1) /\ (p.map Prod.snd).Nodup /\ ∀ x ∈ p, x.2 ∉ s := by
 induction p with
 | nil => intro s _; simp
 | cons a r ih =>
  intro s h
  rw [goB, Bool.and_eq_true] at h
  obtain ⟨h1, h2⟩ := h
  simp only [oneB, Bool.and_eq_true, decide_eq_true_eq, Bool.not_eq_true'] at h1
  obtain ⟨i1, i2, i3⟩ := ih h2
  have hns : a.2 ∉ s := fun hh => by rw [has_mem.2 hh] at h1; cases h1.2
  refine ⟨fun x hx => ?_, ?_, fun x hx => ?_⟩
  ·rcases List.mem_cons.1 hx with rfl | hx
   ·exact h1.1
   ·exact i1 x hx
  ·rw [List.map_cons, List.nodup_cons]
   refine ⟨fun hh => ?_, i2⟩
   obtain ⟨y, hy, e⟩ := List.mem_map.1 hh
   exact i3 y hy (by rw [e]; simp)
  ·rcases List.mem_cons.1 hx with rfl | hx
   ·exact hns
   ·exact fun hh => i3 x hx (by simp [hh])
theorem owner_in {b u : Int} (h : ownerV b = u) (hu : u ≠ -1) : 0 <= b /\ b <= 55 /\ b / 14 = u := by
 unfold ownerV at h
 split at h
 ·omega
 ·omega
def partsB (f : F) : Bool := decide (f.quotas.length = 4) && decide (f.inodes.length = 20) && decide (f.data.length = 56) && f.quotas.all quB && f.inodes.all okI && f.data.all (fun s => decide (s.size = 32))
def beyond (f : F) (n : I) : ByteArray :=
 if n.blocks.length = 0 then e0
 else if n.blocks.getD (n.blocks.length - 1) 0 = -1 then e0
 else (f.data.getD (n.blocks.getD (n.blocks.length - 1) 0).toNat e0).extract (n.size - ((n.blocks.length : Int) - 1) * 32).toNat 32
def freeB (f : F) (b : Nat) : Bool := hasB (allB f.inodes) b || zB (f.data.getD b e0)
def elseB (f : F) : Bool := (List.range 56).all (freeB f) && f.inodes.all (fun n => zB (beyond f n))
def tickB (f : F) : Bool := decide (0 <= f.tick) && decide (f.tick <= 1000000000)
def rootB (f : F) : Bool := decide ((f.inodes.getD 0 InoV.zero).kind = 2)
def okF (f : F) : Bool := tickB f && partsB f && rootB f && (ownB f.inodes && elseB f)
theorem parts_of {f : F} (h : partsB f = true) : f.quotas.length = 4 /\ f.inodes.length = 20 /\ f.data.length = 56 /\ (∀ q ∈ f.quotas, quB q = true) /\ (∀ n ∈ f.inodes, okI n = true) /\ (∀ s ∈ f.data, s.size = 32) := by
 simp only [partsB, Bool.and_eq_true, decide_eq_true_eq, List.all_eq_true, and_assoc] at h
 exact h
theorem parts_mk {f : F} (h1 : f.quotas.length = 4) (h2 : f.inodes.length = 20) (h3 : f.data.length = 56) (h4 : f.quotas.all quB = true) (h5 : f.inodes.all okI = true) (h6 : f.data.all (fun s => decide (s.size = 32)) = true) : partsB f = true := by
 simp only [partsB, Bool.and_eq_true, decide_eq_true_eq]
 exact ⟨⟨⟨⟨⟨h1, h2⟩, h3⟩, h4⟩, h5⟩, h6⟩
theorem ok_parts {f : F} (h : okF f = true) : tickB f = true /\ partsB f = true /\ rootB f = true /\ ownB f.inodes = true /\ elseB f = true := by
 simp only [okF, Bool.and_eq_true, and_assoc] at h
 exact h
theorem mem_getD {α : Type} {l : List α} {z : α} {i : Nat} (h : i < l.length) : l.getD i z ∈ l := by
 rw [List.getD_eq_getElem?_getD, List.getElem?_eq_getElem h]
 exact List.getElem_mem h
theorem uid_in {f : F} (h : partsB f = true) {n : I} (hn : n ∈ f.inodes) : 0 <= n.uid /\ n.uid <= 3 := by
 have := InoV.ok_nums ((parts_of h).2.2.2.2.1 n hn)
 omega
def allTo {α : Type} (p : α -> Bool) (l : List α) (i : Nat) : Bool := (l.take i).all p
theorem allTo_zero {α : Type} (p : α -> Bool) (l : List α) : allTo p l 0 = true := by simp [allTo]
theorem allTo_succ {α : Type} (p : α -> Bool) (l : List α) (z : α) (i : Nat) (h : i < l.length) : allTo p l (i + 1) = (allTo p l i && p (l.getD i z)) := by
 rw [allTo, allTo, take_snoc l z i h, List.all_append]; simp
theorem allTo_end {α : Type} (p : α -> Bool) (l : List α) (i : Nat) (h : i = l.length) : allTo p l i = l.all p := by rw [allTo, h, List.take_length]
theorem all_no {α : Type} {p : α -> Bool} {l : List α} {z : α} {i : Nat} (h : i < l.length) (hn : p (l.getD i z) = false) : l.all p = false := by
 rw [Bool.eq_false_iff, ne_eq, List.all_eq_true]
 intro hh
 rw [hh _ (mem_getD h)] at hn; cases hn
def rangeTo (p : Nat -> Bool) (i : Nat) : Bool := (List.range i).all p
theorem rangeTo_succ (p : Nat -> Bool) (i : Nat) : rangeTo p (i + 1) = (rangeTo p i && p i) := by rw [rangeTo, List.range_succ, List.all_append]; simp [rangeTo]
theorem range_no {p : Nat -> Bool} {m i : Nat} (h : i < m) (hn : p i = false) : (List.range m).all p = false := by
 rw [Bool.eq_false_iff, ne_eq, List.all_eq_true]
 intro hh
 rw [hh i (List.mem_range.2 h)] at hn; cases hn
def useB (f : F) (b : Nat) : Bool := hasB (allB f.inodes) b
def cnt (p : Nat -> Bool) (a m : Nat) : Nat := ((List.range m).filter fun k => p (a + k)).length
theorem cnt_zero (p : Nat -> Bool) (a : Nat) : cnt p a 0 = 0 := rfl
theorem cnt_succ (p : Nat -> Bool) (a m : Nat) : cnt p a (m + 1) = cnt p a m + (if p (a + m) then 1 else 0) := by
 rw [cnt, cnt, List.range_succ, List.filter_append, List.length_append]
 cases h : p (a + m) <;> simp [h]
theorem cnt_le (p : Nat -> Bool) (a m : Nat) : cnt p a m <= m := by
 have := List.length_filter_le (fun k => p (a + k)) (List.range m)
 rwa [List.length_range] at this
def first (p : Nat -> Bool) (a m : Nat) : Option Nat := (List.range m).find? fun k => !p (a + k)
def pick (p : Nat -> Bool) (a m : Nat) (q : Int) : Int × Int :=
 if q <= (cnt p a m : Nat) then (0, 7) else match first p a m with
  | some k => (((a + k : Nat) : Int), 0)
  | none => (0, 8)
theorem first_none (p : Nat -> Bool) (a m k : Nat) (h : ∀ j, j < k -> p (a + j) = true) (hk : k <= m) : first p a k = none := by
 rw [first, List.find?_eq_none]
 intro x hx
 rw [h x (List.mem_range.1 hx)]; simp
theorem first_some (p : Nat -> Bool) (a m k : Nat) (h : ∀ j, j < k -> p (a + j) = true) (hk : k < m) (hn : p (a + k) = false) : first p a m = some k := by
 rw [first, List.find?_eq_some_iff_getElem]
 refine ⟨by rw [hn]; rfl, k, by simpa using hk, by simp, fun j hj => ?_⟩
 rw [List.getElem_range, h j hj]; rfl
def cntO (u : Int) (l : List Int) : Nat := (l.filter fun b => decide (ownerV b = u)).length
theorem cntO_snoc (u : Int) (l : List Int) (b : Int) : cntO u (l ++ [b]) = cntO u l + (if ownerV b = u then 1 else 0) := by
 rw [cntO, cntO, List.filter_append, List.length_append]
 by_cases h : ownerV b = u <;> simp [h]
theorem cntO_app (u : Int) (a b : List Int) : cntO u (a ++ b) = cntO u a + cntO u b := by rw [cntO, cntO, cntO, List.filter_append, List.length_append]
theorem cnt_add (p q : Nat -> Bool) (a m : Nat) (h : ∀ k, k < m -> (p (a + k) && q (a + k)) = false) : cnt (fun b => p b || q b) a m = cnt p a m + cnt q a m := by
 induction m with
 | zero => rfl
 | succ m ih =>
  rw [cnt_succ, cnt_succ, cnt_succ, ih fun k hk => h k (by omega)]
  have := h m (by omega)
  cases hp : p (a + m) <;> cases hq : q (a + m) <;> simp [hp, hq] at this ⊢ <;> omega
theorem cnt_is (a m x : Nat) : cnt (fun b => decide (x = b)) a m = if a <= x /\ x < a + m then 1 else 0 := by
 induction m with
 | zero => rw [cnt_zero, if_neg (by omega)]
 | succ m ih =>
  rw [cnt_succ, ih]
  by_cases h : x = a + m
  ·rw [if_neg (by omega), if_pos (by simpa using h), if_pos (by omega)]
  ·by_cases h2 : a <= x /\ x < a + m
   ·rw [if_pos h2, if_neg (by simpa using h), if_pos (by omega)]
   ·rw [if_neg h2, if_neg (by simpa using h), if_neg (by omega)]
theorem cnt_own (u : Nat) (l : List Int) (hn : l.Nodup) (h0 : ∀ b ∈ l, 0 <= b) (hu : u <= 3) : cnt (fun b => hasB l b) (14 * u) 14 = cntO u l := by
 induction l with
 | nil =>
  show cnt (fun _ => false) _ _ = 0
  simp [cnt]
 | cons x r ih =>
  rw [List.nodup_cons] at hn
  have ih2 := ih hn.2 fun b hb => h0 b (by simp [hb])
  have hx := h0 x (by simp)
  obtain ⟨y, rfl⟩ : ∃ y : Nat, x = y := ⟨x.toNat, by omega⟩
  have e1 : (fun b : Nat => hasB ((y : Int) :: r) b) = fun b : Nat => decide (y = b) || hasB r b := by
   funext b
   rw [show (y : Int) :: r = [(y : Int)] ++ r from rfl, has_app, has_one]
   congr 1
   exact decide_eq_decide.2 (by omega)
  rw [e1, cnt_add _ _ _ _ (fun k hk => by
   cases hh : hasB r ((14 * u + k : Nat) : Int)
   ·simp
   ·have hm := has_mem.1 hh
    have : y ≠ 14 * u + k := fun e => hn.1 (by rw [e]; exact hm)
    simp [this]), ih2, cnt_is, show ((y : Int) :: r) = [(y : Int)] ++ r from rfl, cntO_app]
  congr 1
  have : ownerV y = u ↔ (14 * u <= y /\ y < 14 * u + 14) := by
   unfold ownerV
   split <;> omega
  by_cases hq : ownerV y = u
  ·rw [if_pos (this.1 hq)]; simp [cntO, hq]
  ·rw [if_neg fun hh => hq (this.2 hh)]; simp [cntO, hq]
structure Half (f : F) : Prop where
 quotas : f.quotas.length = 4
 inodes : f.inodes.length = 20
 data : f.data.length = 56
 uids : ∀ n ∈ f.inodes, 0 <= n.uid /\ n.uid <= 3
 own : ownB f.inodes = true
theorem half_of {f : F} (h : okF f = true) : Half f := by
 obtain ⟨_, hp, _, ho, _⟩ := ok_parts h
 obtain ⟨h1, h2, h3, _⟩ := parts_of hp
 exact ⟨h1, h2, h3, fun n hn => uid_in hp hn, ho⟩
theorem half_facts {f : F} (h : Half f) : (allB f.inodes).Nodup /\ ∀ b ∈ allB f.inodes, 0 <= b /\ b <= 55 := by
 obtain ⟨h1, h2, _⟩ := go_mem h.own
 rw [pairs_snd] at h2
 refine ⟨h2, fun b hb => ?_⟩
 rw [<- pairs_snd] at hb
 obtain ⟨x, hx, rfl⟩ := List.mem_map.1 hb
 have ho := h1 x hx
 obtain ⟨n, hn, hxn⟩ := List.mem_flatMap.1 hx
 obtain ⟨b', _, rfl⟩ := List.mem_map.1 hxn
 have hu := h.uids n hn
 have := owner_in ho (by dsimp only; omega)
 omega
theorem own_facts {f : F} (h : okF f = true) : (allB f.inodes).Nodup /\ ∀ b ∈ allB f.inodes, 0 <= b /\ b <= 55 := half_facts (half_of h)
theorem blk_own {f : F} (h : Half f) {u : Nat} (hu : u <= 3) : cnt (useB f) (14 * u) 14 = cntO u (allB f.inodes) :=
 cnt_own u _ (half_facts h).1 (fun b hb => ((half_facts h).2 b hb).1) hu
def z32 : ByteArray := ⟨(List.replicate 32 0).toArray⟩
end Go.Proofs.YthppbcnejapbiaaGreatDoor.FsV

-- YthppbcnejapbiaaGreatDoorQt
/- A part. -/
namespace Go.Proofs.YthppbcnejapbiaaGreatDoor.Qt
set_option maxHeartbeats 800000
set_option maxRecDepth 100000
open Go.ChangeShapes Go.WideShapes Go.ChangeAt Go.RowKit
open Strs (grow_below grow_trans own_below below_of_drew ret_int)
open Dk (Turned)
set_option linter.unusedVariables false
abbrev At := Int × Int
def a0 : At := (0, 0)
def cell1 (x : At) : List Value := [.int .i64 x.1, .int .i64 x.2]
def cells (ws : List At) : List Value := ws.flatMap cell1
theorem cells_length (ws : List At) : (cells ws).length = ws.length * 2 := by
 induction ws with
 | nil => rfl
 | cons a l ih => rw [cells, List.flatMap_cons, List.length_append, <- cells, ih]; simp [cell1]; omega
theorem cells_append (a b : List At) : cells (a ++ b) = cells a ++ cells b := by simp [cells]
theorem cells_at (ws : List At) (j : Nat) (h : j < ws.length) : (cells ws)[j * 2]? = some (.int .i64 (ws.getD j a0).1) /\ (cells ws)[j * 2 + 1]? = some (.int .i64 (ws.getD j a0).2) := by
 have e : ws = ws.take j ++ (ws.getD j a0 :: ws.drop (j + 1)) := by
  rw [List.getD_eq_getElem?_getD, List.getElem?_eq_getElem h]
  simp
 have e2 : cells ws = cells (ws.take j) ++ ([.int .i64 (ws.getD j a0).1, .int .i64 (ws.getD j a0).2] ++ cells (ws.drop (j + 1))) := by
  conv => lhs; rw [e]
  rw [cells_append]; rfl
 have hl : (cells (ws.take j)).length = j * 2 := by rw [cells_length, List.length_take, Nat.min_eq_left (Nat.le_of_lt h)]
 rw [e2]
 refine ⟨?_, ?_⟩
 ·rw [List.getElem?_append_right (by omega), hl]; simp
 ·rw [List.getElem?_append_right (by omega), hl]; simp
def Cell (w : World) (b o : Nat) (x : At) : Prop := w.cell? ⟨b, o, none⟩ = some (.int .i64 x.1) /\ w.cell? ⟨b, o + 1, none⟩ = some (.int .i64 x.2)
def Holds (w : World) (v : Value) (ws : List At) : Prop :=
 ∃ (a : Option Addr) (cap : Nat), v = .slice a ws.length cap /\ (ws ≠ [] -> ∃ b o, a = some ⟨b, o, none⟩ /\ b < w.heap.size /\ ∀ j, j < ws.length -> Cell w b (o + j * 2) (ws.getD j a0))
theorem holds_of_own {w : World} {base : Nat} {e : TypeId} {v : Value} {n : Nat} {ws : List At} (h : w.ownsRow base e 2 v n (cells ws)) : Holds w v ws := by
 have hl := h.1
 rw [cells_length] at hl
 have hn : n = ws.length := by omega
 rcases h.2 with ⟨rfl, h0⟩ | ⟨g, cap, cur, rfl, hb, hg, hn', _, _, htake⟩
 ·have : ws = [] := List.eq_nil_of_length_eq_zero (by omega)
  subst this
  exact ⟨none, 0, rfl, fun hh => absurd rfl hh⟩
 ·refine ⟨some ⟨g, 0, none⟩, cap, by rw [hn], fun _ => ⟨g, 0, rfl, (Array.getElem?_eq_some_iff.1 hg).1, fun j hj => ?_⟩⟩
  have hw := cells_at ws j hj
  unfold Cell
  rw [Nat.zero_add, h.cellAt (j * 2) (by omega), h.cellAt (j * 2 + 1) (by omega)]
  exact hw
theorem Cell.below {w w' : World} {b o : Nat} {x : At} (h : Cell w b o x) (hlt : b < w.heap.size) (hb : Below w.heap.size w w') : Cell w' b o x := by
 unfold Cell
 rw [hb.cell (p := ⟨b, o, none⟩) hlt, hb.cell (p := ⟨b, o + 1, none⟩) hlt]
 exact h
theorem holds_below {w w' : World} {v : Value} {ws : List At} (h : Holds w v ws) (hb : Below w.heap.size w w') : Holds w' v ws := by
 obtain ⟨a, cap, rfl, hc⟩ := h
 refine ⟨a, cap, rfl, fun hh => ?_⟩
 obtain ⟨b, o, rfl, hlt, hcell⟩ := hc hh
 exact ⟨b, o, rfl, Nat.lt_of_lt_of_le hlt hb.size, fun j hj => (hcell j hj).below hlt hb⟩
def AtL (w : World) (a : Option Addr) (ws : List At) : Prop :=
 ∀ i, i < ws.length -> ∃ b o, a = some ⟨b, o, none⟩ /\ b < w.heap.size /\ Cell w b (o + i * 2) (ws.getD i a0)
theorem atL {w : World} {v : Value} {ws : List At} (h : Holds w v ws) : ∃ a cap, v = .slice a ws.length cap /\ AtL w a ws := by
 obtain ⟨a, cap, rfl, hc⟩ := h
 refine ⟨a, cap, rfl, fun i hi => ?_⟩
 obtain ⟨b, o, rfl, hb, hcell⟩ := hc (by intro e; rw [e] at hi; simp at hi)
 exact ⟨b, o, rfl, hb, hcell i hi⟩
theorem AtL.below {w w' : World} {a : Option Addr} {ws : List At} (h : AtL w a ws) (hb : Below w.heap.size w w') : AtL w' a ws := by
 intro i hi
 obtain ⟨b, o, rfl, hlt, hc⟩ := h i hi
 exact ⟨b, o, rfl, Nat.lt_of_lt_of_le hlt hb.size, hc.below hlt hb⟩
theorem eqOne_any (x : At) (w : World) :
  Calls Tryz.prog 99 #[.agg #[.int .i64 x.1, .int .i64 x.2], .agg #[.int .i64 x.1, .int .i64 x.2]] w fun e w' => e = .returned (.bool true) /\ Below w.heap.size w w' := by
 obtain ⟨n0, n1⟩ := x
 dsimp only
 go_enter Tryz.func99, Tryz.ntmps99
 go_wp2
 go_ret
 exact ⟨rfl, ((Below.refl w.heap.size w).alloc (Nat.le_refl _) _).alloc (by simp) _⟩
theorem eq_any (w : World) (va vb : Value) (xs : List At) (hn : xs.length <= 1073741824) (ha : Holds w va xs) (hb : Holds w vb xs) :
  Calls Tryz.prog 51 #[va, vb] w fun e w' => e = .returned (.bool true) /\ Below w.heap.size w w' := by
 obtain ⟨a, ca, rfl, hca⟩ := ha
 obtain ⟨b, cb, rfl, hcb⟩ := hb
 by_cases h0 : xs = []
 ·subst h0
  simp only [List.length_nil]
  clear hca hcb
  go_enter Tryz.func51, Tryz.ntmps51
  go_wp2
  refine wp_loop_rounds 1 ?_
  rw [rounds_succ]
  go_wp2
  go_ret
  exact ⟨rfl, Below.refl _ _⟩
 ·obtain ⟨b1, o1, rfl, hl1, hc1⟩ := hca h0
  obtain ⟨b2, o2, rfl, hl2, hc2⟩ := hcb h0
  have HC1 := Lib.hid hc1
  have HC2 := Lib.hid hc2
  clear hca hcb hc1 hc2 h0
  obtain ⟨L, hL⟩ : ∃ L, L = xs.length := ⟨_, rfl⟩
  rw [<- hL] at hn ⊢
  have HL := Lib.hid hL
  clear hL
  go_enter Tryz.func51, Tryz.ntmps51
  go_wp2
  go_loopw [5] (fun i wr => ∃ k : Nat, k <= L /\ i = .int .i64 k /\ Below w.heap.size w wr) (fun i _ => L - (intOf i).toNat)
  case atStart => exact ⟨0, Nat.zero_le _, rfl, Below.refl _ _⟩
  case round =>
   obtain ⟨k, hk, rfl, hbel⟩ := hrel
   have HBEL := Lib.hid hbel
   have hsz := hbel.size
   clear hbel
   by_cases hlt : k < L
   ·obtain ⟨g0, g1⟩ := HC1.out k (by rw [<- HL.out]; exact hlt)
    obtain ⟨k0, k1⟩ := HC2.out k (by rw [<- HL.out]; exact hlt)
    generalize xs.getD k a0 = x at g0 k0 g1 k1
    rw [<- HBEL.out.cell (p := ⟨b1, _, none⟩) hl1] at g0 g1
    rw [<- HBEL.out.cell (p := ⟨b2, _, none⟩) hl2] at k0 k1
    go_wp2
    go_region_held3 (fun w' => w'.cell? ⟨b1, o1 + k * 2, none⟩ = some (.int .i64 x.1) /\ w'.cell? ⟨b1, o1 + k * 2 + 1, none⟩ = some (.int .i64 x.2) /\ w'.cell? ⟨b2, o2 + k * 2, none⟩ = some (.int .i64 x.1) /\ w'.cell? ⟨b2, o2 + k * 2 + 1, none⟩ = some (.int .i64 x.2)) (go_keep)
     (first | (go_at_call 99; refine (eqOne_any x _).mono ?_; rintro e w1 ⟨rfl, hb1⟩; have qb10 := (hb1.cell (p := ⟨b1, o1 + k * 2, none⟩) (by simp; omega)); have qb11 := (hb1.cell (p := ⟨b1, o1 + k * 2 + 1, none⟩) (by simp; omega)); have qb20 := (hb1.cell (p := ⟨b2, o2 + k * 2, none⟩) (by simp; omega)); have qb21 := (hb1.cell (p := ⟨b2, o2 + k * 2 + 1, none⟩) (by simp; omega))))
    go_wp2
    go_roundw
    case rel => exact ⟨k + 1, by omega, by go_num, HBEL.out.trans (below_of_drew hb1 hsz)⟩
    case measure => simp [intOf]; omega
   ·go_wp2
    go_ret
    exact ⟨rfl, HBEL.out⟩
def marks (k n : Nat) : List At := (List.range n).map fun i => (((k + 2 * i : Nat) : Int), ((k + 2 * i + 1 : Nat) : Int))
theorem marks_length (k n : Nat) : (marks k n).length = n := by simp [marks]
theorem marks_getD (k n j : Nat) (h : j < n) : (marks k n).getD j a0 = (((k + 2 * j : Nat) : Int), ((k + 2 * j + 1 : Nat) : Int)) := by
 simp [marks, List.getD, h]
theorem marks_succ (k n : Nat) : marks k (n + 1) = marks k n ++ [(((k + 2 * n : Nat) : Int), ((k + 2 * n + 1 : Nat) : Int))] := by simp [marks, List.range_succ]
theorem set_mark (k i : Nat) (xs : List At) (h : i < xs.length) :
  ((cells (marks k i ++ xs.drop i)).set (i * 2) (.int .i64 ((k : Int) + 2 * i))).set (i * 2 + 1) (.int .i64 ((k : Int) + 2 * i + 1)) = cells (marks k (i + 1) ++ xs.drop (i + 1)) := by
 have hl : (cells (marks k i)).length = i * 2 := by rw [cells_length, marks_length]
 rw [cells_append, List.set_append_right _ _ (by omega), hl, Nat.sub_self, List.set_append_right _ _ (by omega), hl, show i * 2 + 1 - i * 2 = 1 from by omega, marks_succ,
  show cells (xs.drop i) = Value.int .i64 xs[i].1 :: Value.int .i64 xs[i].2 :: cells (xs.drop (i + 1)) from by rw [List.drop_eq_getElem_cons h]; rfl,
  cells_append, cells_append]
 simp [cells, cell1]
theorem mark_all (w : World) (base : Nat) (v : Value) (n k : Nat) (xs : List At) (hk : 1 <= k) (hn : k + 2 * n <= 1073741824) (hown : w.ownsRow base 113 2 v n (cells xs)) :
  Calls Tryz.prog 57 #[v, .int .i64 k] w fun e w' => e = .returned (.int .i64 ((k : Int) + 2 * n)) /\ w'.ownsRow base 113 2 v n (cells (marks k n)) /\ w.grownBy w' v.ownBlock := by
 have hl := hown.1
 rw [cells_length] at hl
 by_cases h0 : n = 0
 ·subst h0
  obtain rfl : xs = [] := List.eq_nil_of_length_eq_zero (by omega)
  obtain ⟨a, cap, rfl⟩ : ∃ a cap, v = .slice a 0 cap := by
   rcases hown.2 with ⟨rfl, _⟩ | ⟨g, cap, cur, rfl, _⟩
   ·exact ⟨_, _, rfl⟩
   ·exact ⟨_, _, rfl⟩
  have HO := Lib.hid hown
  clear hown hl
  go_enter Tryz.func57, Tryz.ntmps57
  go_wp2
  refine wp_loop_rounds 1 ?_
  rw [rounds_succ]
  go_wp2
  go_ret
  exact ⟨by simp, HO.out, World.grownBy.refl _ _⟩
 ·obtain ⟨g, cap, rfl, hbg⟩ : ∃ g cap, v = .slice (some ⟨g, 0, none⟩) n cap /\ g < w.heap.size := by
   rcases hown.2 with ⟨_, hz⟩ | ⟨g, cap, cur, rfl, _, hg, _⟩
   ·exact absurd hz h0
   ·exact ⟨g, cap, rfl, (Array.getElem?_eq_some_iff.1 hg).1⟩
  have HO := Lib.hid hown
  have HX := Lib.hid (show xs.length = n by omega)
  clear hown hl h0
  go_enter Tryz.func57, Tryz.ntmps57
  go_wp2
  go_loopw [1, 5] (fun kv iv wr => ∃ i : Nat, i <= n /\ iv = .int .i64 i /\ kv = .int .i64 ((k : Int) + 2 * i) /\ wr.ownsRow base 113 2 (.slice (some ⟨g, 0, none⟩) n cap) n (cells (marks k i ++ xs.drop i)) /\ w.grownBy wr (some g)) (fun _ iv _ => n - (intOf iv).toNat)
  case atStart => exact ⟨0, Nat.zero_le _, rfl, by simp, by simpa [marks] using HO.out, World.grownBy.refl _ _⟩
  case round =>
   obtain ⟨i, hi, rfl, rfl, hown, hgr⟩ := hrel
   have HOWN := Lib.hid hown
   have HGR := Lib.hid hgr
   by_cases hlt : i < n
   ·have hx : i < xs.length := by rw [HX.out]; exact hlt
    have hlen : (cells (marks k i ++ xs.drop i)).length = n * 2 := by rw [cells_length, List.length_append, marks_length, List.length_drop, HX.out]; omega
    have HOWN0 := HOWN
    have hc0 := hown.cellAt (i * 2) (by omega)
    have hf0 := hown.frozenAt (i * 2)
    obtain ⟨y0, hy0⟩ : ∃ y, (cells (marks k i ++ xs.drop i))[i * 2]? = some y := ⟨_, List.getElem?_eq_getElem (by first | omega | (simp only [List.length_set]; omega))⟩
    rw [hy0] at hc0
    have hst0 := hown.stored (i * 2) (.int .i64 ((k : Int) + 2 * i))
    have hc1 := hst0.1.cellAt (i * 2 + 1) (by omega)
    have hf1 := hst0.1.frozenAt (i * 2 + 1)
    obtain ⟨y1, hy1⟩ : ∃ y, ((cells (marks k i ++ xs.drop i)).set (i * 2) (.int .i64 ((k : Int) + 2 * i)))[i * 2 + 1]? = some y := ⟨_, List.getElem?_eq_getElem (by first | omega | (simp only [List.length_set]; omega))⟩
    rw [hy1] at hc1
    have hst1 := hst0.1.stored (i * 2 + 1) (.int .i64 ((k : Int) + 2 * i + 1))
    have hgr2 := grow_trans (grow_trans (hgr) hst0.2) hst1.2
    have hlast := hst1.1
    rw [set_mark k i xs hx] at hlast
    have HST := Lib.hid hlast
    have HGR2 := Lib.hid hgr2
    clear hown hgr hlast hgr2 hlen hst0 hy0 hst1 hy1
    go_wp2
    go_roundw
    case rel => exact ⟨i + 1, by omega, by go_num, by go_num, HST.out, HGR2.out⟩
    case measure => simp [intOf]; omega
   ·obtain rfl : i = n := by omega
    have e : cells (marks k i ++ xs.drop i) = cells (marks k i) := by rw [List.drop_of_length_le (by rw [HX.out]; exact Nat.le_refl _), List.append_nil]
    have HE := Lib.hid e
    clear e hown hgr
    go_wp2
    go_ret
    exact ⟨by simp, by rw [<- HE.out]; exact HOWN.out, HGR.out⟩
theorem held_all (w : World) (v : Value) (n k : Nat) (hk : 1 <= k) (hn : k + 2 * n <= 1073741824) (h : Holds w v (marks k n)) :
  Calls Tryz.prog 67 #[v, .int .i64 k] w fun e w' => e = .returned (.int .i64 ((k : Int) + 2 * n)) /\ Below w.heap.size w w' := by
 obtain ⟨a, cap, rfl, hc⟩ := h
 rw [marks_length]
 by_cases h0 : n = 0
 ·subst h0
  clear hc
  go_enter Tryz.func67, Tryz.ntmps67
  go_wp2
  refine wp_loop_rounds 1 ?_
  rw [rounds_succ]
  go_wp2
  go_ret
  exact ⟨by simp, Below.refl _ _⟩
 ·obtain ⟨b, o, rfl, hlt, hcell⟩ := hc (by intro e; have := marks_length k n; rw [e] at this; simp at this; omega)
  rw [marks_length] at hcell
  have HC := Lib.hid hcell
  clear hc hcell
  go_enter Tryz.func67, Tryz.ntmps67
  go_wp2
  go_loopw [1, 5] (fun kv iv wr => ∃ i : Nat, i <= n /\ iv = .int .i64 i /\ kv = .int .i64 ((k : Int) + 2 * i) /\ Below w.heap.size w wr) (fun _ iv _ => n - (intOf iv).toNat)
  case atStart => exact ⟨0, Nat.zero_le _, rfl, by simp, Below.refl _ _⟩
  case round =>
   obtain ⟨i, hi, rfl, rfl, hbel⟩ := hrel
   have HBEL := Lib.hid hbel
   by_cases hil : i < n
   ·obtain ⟨g0, g1⟩ := HC.out i hil
    rw [marks_getD k n i hil] at g0 g1
    dsimp only at g0 g1
    rw [<- HBEL.out.cell (p := ⟨b, _, none⟩) hlt] at g0 g1
    rw [show ((k + 2 * i : Nat) : Int) = (k : Int) + 2 * i from by omega] at g0
    rw [show ((k + 2 * i + 1 : Nat) : Int) = (k : Int) + 2 * i + 1 from by omega] at g1
    clear hbel
    go_wp2
    go_roundw
    case rel => exact ⟨i + 1, by omega, by go_num, by go_num, HBEL.out⟩
    case measure => simp [intOf]; omega
   ·obtain rfl : i = n := by omega
    clear hbel
    go_wp2
    go_ret
    exact ⟨by simp, HBEL.out⟩
theorem sz_any (w : World) (v : Value) (xs : List At) (left : Nat) (hleft : left <= 1073741824) (hlen : xs.length <= maxLen) (h : Holds w v xs) :
  Calls Tryz.prog 41 #[v, .int .i64 left] w fun e w' => e = .returned (.int .i64 (if xs.length <= left then ((left - xs.length : Nat) : Int) else -1)) /\ Below w.heap.size w w' := by
 unfold maxLen at hlen
 obtain ⟨a, cap, rfl, hc⟩ := h
 clear hc
 generalize xs.length = L at hlen ⊢
 by_cases hlt : L <= left
 ·rw [if_pos hlt]
  go_enter Tryz.func41, Tryz.ntmps41
  go_wp2
  go_ret
  exact ⟨ret_int (by omega), Below.refl _ _⟩
 ·rw [if_neg hlt]
  go_enter Tryz.func41, Tryz.ntmps41
  go_wp2
  go_ret
  exact ⟨rfl, Below.refl _ _⟩
theorem toOne_any (x : At) (w : World) :
  Calls Tryz.prog 93 #[.agg #[.int .i64 x.1, .int .i64 x.2]] w fun e w' => e = .returned (.agg #[.int .i64 x.1, .int .i64 x.2]) /\ Below w.heap.size w w' := by
 obtain ⟨n0, n1⟩ := x
 dsimp only
 go_enter Tryz.func93, Tryz.ntmps93
 go_wp2
 refine bodyPost_ret (v := .agg #[.int .i64 n0, .int .i64 n1]) (by simp [results, Tryz.results93, go_sem]) rfl ⟨rfl, ?_⟩
 exact (((Below.refl w.heap.size w).alloc (Nat.le_refl _) _).alloc (by simp) _).alloc (by simp; omega) _
theorem info : (Tryz.prog.info? 113).map (fun i => (i.zero, i.size, i.bytes)) = some (some (.agg #[.int .i64 0, .int .i64 0]), 2, 16) := by kernel_rfl
theorem take_set (l : List Value) (i : Nat) (u0 u1 : Value) (h : i * 2 + 1 < l.length) : ((l.set (i * 2) (u0)).set (i * 2 + 1) (u1)).take ((i + 1) * 2) = l.take (i * 2) ++ [u0, u1] := by
 rw [show (i + 1) * 2 = i * 2 + 1 + 1 from by omega]
 rw [List.take_succ_eq_append_getElem (by simp only [List.length_set]; omega), List.take_set_of_le (Nat.le_refl _)]
 rw [List.take_succ_eq_append_getElem (by simp only [List.length_set]; omega), List.take_set_of_le (Nat.le_refl _)]
 simp
theorem to_any (w : World) (v : Value) (xs : List At) (hlen : xs.length <= 1073741824) (h : Holds w v xs) :
  Calls Tryz.prog 46 #[v] w fun e w' => ∃ v', e = .returned v' /\ w'.ownsRow w.heap.size 113 2 v' xs.length (cells xs) /\ Below w.heap.size w w' := by
 obtain ⟨i0, hi, hz0, hz1, hz2⟩ := info_parts info
 obtain ⟨a, cap, rfl, hc⟩ := h
 obtain ⟨L, hL⟩ : ∃ L, L = xs.length := ⟨_, rfl⟩
 have hcase : L = 0 \/ ∃ b o, a = some ⟨b, o, none⟩ /\ b < w.heap.size /\ ∀ j, j < xs.length -> Cell w b (o + j * 2) (xs.getD j a0) := by
  by_cases h0 : xs = []
  ·left; rw [hL, h0]; rfl
  ·right; exact hc h0
 rw [<- hL] at hlen ⊢
 have HL := Lib.hid hL
 clear hL hc
 have hro : i0.bytes * L <= 281474976710656 := by rw [hz2]; omega
 have HRO := Lib.hid hro
 have HB := Lib.hid hz2
 clear hro hz2
 rcases hcase with rfl | ⟨b, o, rfl, hb, hcell⟩
 ·go_enter Tryz.func46, Tryz.ntmps46
  go_wp2_with (at_make; refine wpList_make_full _ rfl _ _ 30 rfl w.heap.size 113 i0 (.agg #[.int .i64 0, .int .i64 0]) 2 Tryz.underlying30 hi hz0 hz1 .i64 .i64 _ _ 0 rfl rfl rfl rfl ?c1 ?c2 ?c3 ?_)
  case c1 => exact HRO.out
  case c2 => unfold maxLen; omega
  case c3 => exact Nat.le_refl _
  intro w1 hown1 hg1
  have HO1 := Lib.hid hown1
  have HB1 := Lib.hid (show Below w.heap.size w w1 from (Below.refl _ _).grown hg1 (Nat.le_refl _) (fun k hk => by cases hk))
  clear hown1 hg1
  go_wp2
  refine wp_loop_rounds 1 ?_
  rw [rounds_succ]
  go_wp2
  go_ret
  have hx : xs = [] := List.eq_nil_of_length_eq_zero HL.out.symm
  refine ⟨_, rfl, ?_, HB1.out⟩
  subst hx
  have := HO1.out
  simpa [madeCells, cells] using this
 ·have HC := Lib.hid hcell
  clear hcell
  go_enter Tryz.func46, Tryz.ntmps46
  go_wp2_with (at_make; refine wpList_make_full _ rfl _ _ 30 rfl w.heap.size 113 i0 (.agg #[.int .i64 0, .int .i64 0]) 2 Tryz.underlying30 hi hz0 hz1 .i64 .i64 _ _ L rfl rfl rfl rfl ?c1 ?c2 ?c3 ?_)
  case c1 => exact HRO.out
  case c2 => unfold maxLen; omega
  case c3 => exact Nat.le_refl _
  intro w1 hown1 hg1
  have HO1 := Lib.hid hown1
  have HB1 := Lib.hid (show Below w.heap.size w w1 from (Below.refl _ _).grown hg1 (Nat.le_refl _) (fun k hk => by cases hk))
  clear hown1 hg1
  go_wp2
  go_loopw [4] (fun iv wr => ∃ (i : Nat) (l : List Value), i <= L /\ iv = .int .i64 i /\ wr.ownsRow w.heap.size 113 2 (.slice (some ⟨w.heap.size, 0, none⟩) L L) L l /\ l.take (i * 2) = cells (xs.take i) /\ Below w.heap.size w wr) (fun iv _ => L - (intOf iv).toNat)
  case atStart => exact ⟨0, _, Nat.zero_le _, rfl, HO1.out, by simp [cells], HB1.out⟩
  case round =>
   obtain ⟨i, l, hi, rfl, hown, htake, hbel⟩ := hrel
   have HO := Lib.hid hown
   have HT := Lib.hid htake
   have HBEL := Lib.hid hbel
   clear hown htake hbel HO1 HB1
   by_cases hlt : i < L
   ·have hlx : i < xs.length := by rw [<- HL.out]; exact hlt
    have hll : i * 2 + 1 < l.length := by have := HO.out.1; omega
    obtain ⟨g0, g1⟩ := HC.out i hlx
    rw [<- HBEL.out.cell (p := ⟨b, _, none⟩) hb] at g0 g1
    have hx : cells (xs.take (i + 1)) = cells (xs.take i) ++ cell1 (xs.getD i a0) := by
     rw [List.take_succ_eq_append_getElem hlx, cells_append]
     simp [List.getD, List.getElem?_eq_getElem hlx, cells]
    have HXX := Lib.hid hx
    clear hx
    generalize xs.getD i a0 = x at g0 g1 HXX
    go_wp2_with fail
    refine (toOne_any x _).mono ?_
    rintro e w2 ⟨rfl, hb2⟩
    have HB2 := Lib.hid (HBEL.out.trans (hb2.mono HBEL.out.size))
    have hown := own_below HO.out hb2
    have hc0 := hown.cellAt (i * 2) (by omega)
    rw [List.getElem?_eq_getElem (show i * 2 < l.length by omega)] at hc0
    have hf0 := hown.frozenAt (i * 2)
    have hc1 := hown.cellAt (i * 2 + 1) (by omega)
    rw [List.getElem?_eq_getElem (show i * 2 + 1 < l.length by omega)] at hc1
    have hf1 := hown.frozenAt (i * 2 + 1)
    have hst := ((hown.stored (i * 2) (.int .i64 x.1)).1.stored (i * 2 + 1) (.int .i64 x.2))
    have hts := take_set l i (.int .i64 x.1) (.int .i64 x.2) hll
    rw [HT.out, show [Value.int .i64 x.1, .int .i64 x.2] = cell1 x from rfl, <- HXX.out] at hts
    have HST := Lib.hid hst.1
    have HTS := Lib.hid hts
    clear hst hts hown g0 g1 hb2
    generalize l[i * 2] = y0 at hc0
    generalize l[i * 2 + 1] = y1 at hc1
    go_wp2
    go_roundw
    case rel => exact ⟨i + 1, ((l.set (i * 2) (.int .i64 x.1)).set (i * 2 + 1) (.int .i64 x.2)), by omega, by go_num, HST.out, HTS.out, (HB2.out.setCell (Nat.le_refl _) _).setCell (Nat.le_refl _) _⟩
    case measure => simp [intOf]; omega
   ·obtain rfl : i = L := by omega
    go_wp2
    go_ret
    refine ⟨_, rfl, ?_, HBEL.out⟩
    have h1 := HT.out
    have h2 := HO.out.1
    rw [List.take_of_length_le (by omega), List.take_of_length_le (by rw [HL.out]; exact Nat.le_refl _)] at h1
    rw [<- h1]; exact HO.out
end Go.Proofs.YthppbcnejapbiaaGreatDoor.Qt

-- YthppbcnejapbiaaGreatDoorFoot
/- A part. -/
namespace Go.Proofs.YthppbcnejapbiaaGreatDoor.Foot
open Go Go.RowKit
set_option linter.unusedVariables false
structure Chg (w w' : World) (S : List Nat) : Prop where
 os : w'.os = w.os
 tape : w'.tape = w.tape
 output : w'.output = w.output
 size : w.heap.size <= w'.heap.size
 block : ∀ k, k < w.heap.size -> k ∉ S -> w'.heap[k]? = w.heap[k]?
theorem Chg.refl (w : World) (S : List Nat) : Chg w w S := ⟨rfl, rfl, rfl, Nat.le_refl _, fun _ _ _ => rfl⟩
theorem Chg.trans {a b c : World} {S : List Nat} (h1 : Chg a b S) (h2 : Chg b c S) : Chg a c S :=
 ⟨h2.os.trans h1.os, h2.tape.trans h1.tape, h2.output.trans h1.output, Nat.le_trans h1.size h2.size, fun k hk hn => (h2.block k (Nat.lt_of_lt_of_le hk h1.size) hn).trans (h1.block k hk hn)⟩
theorem Chg.more {a b : World} {S T : List Nat} (h : Chg a b S) (hs : ∀ k ∈ S, k ∈ T) : Chg a b T := ⟨h.os, h.tape, h.output, h.size, fun k hk hn => h.block k hk (fun hh => hn (hs k hh))⟩
theorem Chg.of_below {a b : World} {B : Nat} (h : Below B a b) (hB : a.heap.size <= B) (S : List Nat) : Chg a b S := ⟨h.os, h.tape, h.output, h.size, fun k hk _ => h.block k (Nat.lt_of_lt_of_le hk hB)⟩
theorem Chg.of_grown {a b : World} {row : Option Nat} (h : a.grownBy b row) : Chg a b row.toList := ⟨h.os, h.tape, h.output, h.size, fun k hk hn => h.block k hk (fun e => hn (by rw [<- e]; simp))⟩
theorem Chg.below {a b : World} {S : List Nat} {B : Nat} (h : Chg a b S) (hB : B <= a.heap.size) (hS : ∀ k ∈ S, B <= k) : Below B a b :=
 ⟨h.os, h.tape, h.output, h.size, fun k hk => h.block k (Nat.lt_of_lt_of_le hk hB) (fun hh => by have := hS k hh; omega)⟩
theorem Chg.cell {a b : World} {S : List Nat} (h : Chg a b S) {p : Addr} (hp : p.block < a.heap.size) (hn : p.block ∉ S) : b.cell? p = a.cell? p := by
 have e := h.block p.block hp hn
 unfold World.cell?
 rw [e]
def Apart (S T : List Nat) : Prop := ∀ k ∈ S, k ∉ T
theorem Apart.symm {S T : List Nat} (h : Apart S T) : Apart T S := fun k hk hh => h k hh hk
theorem apart_app {S T U : List Nat} : Apart (S ++ T) U ↔ Apart S U /\ Apart T U := by
 unfold Apart
 simp only [List.mem_append]
 exact ⟨fun h => ⟨fun k hk => h k (.inl hk), fun k hk => h k (.inr hk)⟩, fun h k hk => hk.elim (h.1 k) (h.2 k)⟩
def Lies (S : List Nat) (base hi : Nat) : Prop := ∀ k ∈ S, base <= k /\ k < hi
theorem Lies.app {S T : List Nat} {a b : Nat} (h : Lies S a b) (h' : Lies T a b) : Lies (S ++ T) a b := fun k hk => (List.mem_append.1 hk).elim (h k) (h' k)
theorem Lies.apart {S T : List Nat} {a b c d : Nat} (h : Lies S a b) (h' : Lies T c d) (hbc : b <= c) : Apart S T := fun k hk hh => by have := h k hk; have := h' k hh; omega
theorem nodup_app {S T : List Nat} (hS : S.Nodup) (hT : T.Nodup) (h : Apart S T) : (S ++ T).Nodup := List.nodup_append.2 ⟨hS, hT, fun a ha b hb e => h a ha (e ▸ hb)⟩
theorem nodup_parts {S T : List Nat} (h : (S ++ T).Nodup) : S.Nodup /\ T.Nodup /\ Apart S T := by
 obtain ⟨h1, h2, h3⟩ := List.nodup_append.1 h
 exact ⟨h1, h2, fun k hk hh => h3 k hk k hh rfl⟩
def fpR (v : Value) : List Nat := v.ownBlock.toList
theorem fpR_nodup (v : Value) : (fpR v).Nodup := by unfold fpR; cases v.ownBlock <;> simp
theorem row_lies {w : World} {base size n : Nat} {e : TypeId} {v : Value} {xs : List Value} (h : w.ownsRow base e size v n xs) : Lies (fpR v) base w.heap.size := fun k hk => by
 have := h.lt k (by unfold fpR at hk; simpa using hk)
 exact this
theorem row_chg {w w' : World} {base size n : Nat} {e : TypeId} {v : Value} {xs : List Value} {S : List Nat} (h : w.ownsRow base e size v n xs) (hc : Chg w w' S) (ha : Apart (fpR v) S) : w'.ownsRow base e size v n xs := by
 refine ⟨h.1, ?_⟩
 rcases h.2 with hn | ⟨g, cap, cur, rfl, hb, hg, rest⟩
 ·exact .inl hn
 ·exact .inr ⟨g, cap, cur, rfl, hb, (hc.block g (Array.getElem?_eq_some_iff.1 hg).1 (ha g (by simp [fpR, Value.ownBlock]))).trans hg, rest⟩
theorem row_below {w w' : World} {base size n : Nat} {e : TypeId} {v : Value} {xs : List Value} (h : w.ownsRow base e size v n xs) (hb : Below w.heap.size w w') : w'.ownsRow base e size v n xs :=
 row_chg h (Chg.of_below hb (Nat.le_refl _) []) (fun k _ hh => by cases hh)
theorem row_mono {w : World} {base base' size n : Nat} {e : TypeId} {v : Value} {xs : List Value} (h : w.ownsRow base e size v n xs) (hb : base' <= base) : w.ownsRow base' e size v n xs :=
 ⟨h.1, h.2.elim .inl (fun ⟨g, cap, cur, hv, hg, r⟩ => .inr ⟨g, cap, cur, hv, Nat.le_trans hb hg, r⟩)⟩
def Rg (x : Int) : Prop := -9223372036854775808 <= x /\ x <= 9223372036854775807
theorem rg_of {x : Int} (h : (Lit.int .i64 x).wf = true) : Rg x := by
 simp only [Lit.wf, Bool.and_eq_true, decide_eq_true_eq, show IntKind.i64.min = -9223372036854775808 from rfl, show IntKind.i64.max = 9223372036854775807 from rfl] at h
 exact h
def costOf (n left : Nat) : Int := if n <= left then ((left - n : Nat) : Int) else -1
theorem cost_pos {n left : Nat} (h : n <= left) : costOf n left = ((left - n : Nat) : Int) := if_pos h
theorem cost_neg {n left : Nat} (h : ¬ n <= left) : costOf n left = -1 := if_neg h
end Go.Proofs.YthppbcnejapbiaaGreatDoor.Foot

-- YthppbcnejapbiaaGreatDoorQF
/- A part. -/
namespace Go.Proofs.YthppbcnejapbiaaGreatDoor.QF
open Go.ChangeShapes Go.WideShapes Go.ChangeAt Go.RowKit Go.Deep
open Foot
open Qt (At a0)
set_option linter.unusedVariables false
abbrev L := List At
def Holds (w : World) (v : Value) (l : List At) : Prop := Qt.Holds w v l
theorem holds_below {w w' : World} {v : Value} {l : List At} (h : Holds w v l) (hb : Below w.heap.size w w') : Holds w' v l := Qt.holds_below h hb
theorem form {w : World} {v : Value} {l : List At} (h : Holds w v l) : ∃ a c, v = .slice a l.length c := by
 obtain ⟨a, c, rfl, _⟩ := h
 exact ⟨a, c, rfl⟩
def Own (w : World) (base : Nat) (v : Value) (l : List At) (S : List Nat) : Prop := w.ownsRow base 113 2 v l.length (Qt.cells l) /\ S = fpR v
theorem own_holds {w : World} {base : Nat} {v : Value} {l : List At} {S : List Nat} (h : Own w base v l S) : Holds w v l := Qt.holds_of_own h.1
theorem own_chg {w w' : World} {base : Nat} {v : Value} {l : List At} {S T : List Nat} (h : Own w base v l S) (hc : Chg w w' T) (ha : Apart S T) : Own w' base v l S := ⟨row_chg h.1 hc (by rw [<- h.2]; exact ha), h.2⟩
theorem own_below {w w' : World} {base : Nat} {v : Value} {l : List At} {S : List Nat} (h : Own w base v l S) (hb : Below w.heap.size w w') : Own w' base v l S := ⟨row_below h.1 hb, h.2⟩
theorem own_mono {w : World} {base base' : Nat} {v : Value} {l : List At} {S : List Nat} (h : Own w base v l S) (hb : base' <= base) : Own w base' v l S := ⟨row_mono h.1 hb, h.2⟩
theorem own_lies {w : World} {base : Nat} {v : Value} {l : List At} {S : List Nat} (h : Own w base v l S) : Lies S base w.heap.size := by rw [h.2]; exact row_lies h.1
theorem own_nodup {w : World} {base : Nat} {v : Value} {l : List At} {S : List Nat} (h : Own w base v l S) : S.Nodup := by rw [h.2]; exact fpR_nodup v
theorem own_form {w : World} {base : Nat} {v : Value} {l : List At} {S : List Nat} (h : Own w base v l S) : ∃ a c, v = .slice a l.length c := Dk.slice_of h.1
theorem own_set {w : World} {base : Nat} {v : Value} {l : List At} {S : List Nat} (h : Own w base v l S) {a : Addr} (ha : a.block < base) (u : Value) : Own (w.setCell a u) base v l S := ⟨ownsRow_setCell_below h.1 ha u, h.2⟩
def Lim (l : List At) : Prop := l.length <= maxLen
def cost (l : List At) : Nat := l.length
theorem sz_any (w : World) (v : Value) (l : List At) (left : Nat) (hleft : left <= 1073741824) (hl : Lim l) (h : Holds w v l) :
  Calls Tryz.prog 41 #[v, .int .i64 left] w fun e w' => e = .returned (.int .i64 (costOf (cost l) left)) /\ Below w.heap.size w w' := Qt.sz_any w v l left hleft hl h
theorem to_any (w : World) (v : Value) (l : List At) (hc : cost l <= 1073741824) (h : Holds w v l) :
  Calls Tryz.prog 46 #[v] w fun e w' => ∃ v' S, e = .returned v' /\ Own w' w.heap.size v' l S /\ Below w.heap.size w w' :=
 (Qt.to_any w v l hc h).mono fun e w' ⟨v', he, ho, hb⟩ => ⟨v', _, he, ⟨ho, rfl⟩, hb⟩
theorem eq_any (w : World) (va vb : Value) (l : List At) (hc : cost l <= 1073741824) (h : Holds w va l) (h' : Holds w vb l) :
  Calls Tryz.prog 51 #[va, vb] w fun e w' => e = .returned (.bool true) /\ Below w.heap.size w w' := Qt.eq_any w va vb l hc h h'
def marks (k : Nat) (l : List At) : List At := Qt.marks k l.length
def wid (l : List At) : Nat := 2 * l.length
theorem wid_cost (l : List At) : wid l <= 3 * cost l := by unfold cost wid; omega
theorem marks_length (k : Nat) (l : List At) : (marks k l).length = l.length := Qt.marks_length k l.length
theorem mark_any (w : World) (base : Nat) (v : Value) (l : List At) (S : List Nat) (k : Nat) (hk : 1 <= k) (hn : k + wid l <= 1073741824) (h : Own w base v l S) :
  Calls Tryz.prog 57 #[v, .int .i64 k] w fun e w' => e = .returned (.int .i64 (k + wid l : Nat)) /\ Own w' base v (marks k l) S /\ Chg w w' S := by
 obtain ⟨hown, rfl⟩ := h
 refine (Qt.mark_all w base v l.length k l hk hn hown).mono ?_
 rintro e w' ⟨rfl, ho, hg⟩
 exact ⟨by congr 2, ⟨by rw [marks_length]; exact ho, rfl⟩, Chg.of_grown hg⟩
theorem held_any (w : World) (v : Value) (l : List At) (k : Nat) (hk : 1 <= k) (hn : k + wid l <= 1073741824) (h : Holds w v (marks k l)) :
  Calls Tryz.prog 67 #[v, .int .i64 k] w fun e w' => e = .returned (.int .i64 (k + wid l : Nat)) /\ Below w.heap.size w w' := by
 refine (Qt.held_all w v l.length k hk hn h).mono ?_
 rintro e w' ⟨rfl, hb⟩
 exact ⟨by congr 2, hb⟩
set_option maxRecDepth 100000 in
theorem in_cell {H : Type} {enc : TypeId × Value -> H} {W : World} {fuel : Nat} {v : Value} {x : DataW H × List MemPlace} (hf : DataW.trod enc Tryz.prog W 0 (fun _ => true) true fuel 22 [v] = some x) :
  ∃ l : List At, Lim l /\ Holds W v l := by
 rcases open_slice Tryz.underlying22 hf with ⟨hcs, _⟩ | ⟨a, l, c, m, n, D, Pl, hcs, _, hl, hm, hmm, _, hi⟩
 ·simp at hcs
  subst hcs
  exact ⟨[], by simp [Lim], none, 0, rfl, fun hh => absurd rfl hh⟩
 ·simp at hcs
  subst hcs
  have hmc : m = c := by simpa using hmm
  subst hmc
  by_cases hl0 : l = 0
  ·subst hl0
   exact ⟨[], by simp [Lim], some a, m, rfl, fun hh => absurd rfl hh⟩
  have hel : ∀ i, i < l -> ∃ y : At, W.cell? (a.add (i * 2)) = some (.int .i64 y.1) /\ W.cell? (a.add (i * 2 + 1)) = some (.int .i64 y.2) := by
   intro i hil
   obtain ⟨cs', hc, ht⟩ := hi i (by omega)
   rw [show Tryz.prog.cellsOf 115 = 2 from by kernel_rfl] at hc
   obtain ⟨_, hcl, hat⟩ := World.cells?_some hc
   obtain ⟨xs, fu, _, _, hl', hxl, hfs⟩ := DataW.trod_struct Tryz.underlying115 ht
   obtain ⟨c0, c1, rfl⟩ : ∃ c0 c1, cs' = [c0, c1] := by
    match cs', hcl with
    | [c0, c1], _ => exact ⟨_, _, rfl⟩
   obtain ⟨z0, z1, rfl⟩ : ∃ z0 z1, xs = [z0, z1] := by
    match xs, hxl with
    | [c0, c1], _ => exact ⟨_, _, rfl⟩
   have hci : Tryz.prog.cellsOf 3 = 1 := by kernel_rfl
   have e0 : DataW.trod enc Tryz.prog W 0 (fun _ => true) true fu 3 [c0] = some z0 := by simpa [hci] using hfs 0 _ rfl
   obtain ⟨i0, hi0, _, m0⟩ := DataW.trod_int Tryz.underlying3 e0
   obtain rfl : c0 = .int .i64 i0 := by simpa using hi0
   have q0 := hat 0 (by omega)
   rw [Addr.add_add] at q0
   have e1 : DataW.trod enc Tryz.prog W 0 (fun _ => true) true fu 3 [c1] = some z1 := by simpa [hci] using hfs 1 _ rfl
   obtain ⟨i1, hi1, _, m1⟩ := DataW.trod_int Tryz.underlying3 e1
   obtain rfl : c1 = .int .i64 i1 := by simpa using hi1
   have q1 := hat 1 (by omega)
   rw [Addr.add_add] at q1
   exact ⟨(i0, i1), q0, q1⟩
  obtain ⟨y, he0, _⟩ := hel 0 (by omega)
  have hspot : a.spot = none := by simpa [Addr.add] using World.cell?_spot he0
  have hblk : a.block < W.heap.size := by simpa [Addr.add] using Dk.cell_block he0
  obtain ⟨bk, off, spot⟩ := a
  simp only at hspot hblk
  subst hspot
  obtain ⟨f, hfs⟩ := Classical.skolem.1 (show ∀ i, ∃ y : At, i < l -> W.cell? (Addr.add ⟨bk, off, none⟩ (i * 2)) = some (.int .i64 y.1) /\ W.cell? (Addr.add ⟨bk, off, none⟩ (i * 2 + 1)) = some (.int .i64 y.2) from fun i => by
   by_cases hil : i < l
   ·obtain ⟨y, hy⟩ := hel i hil
    exact ⟨y, fun _ => hy⟩
   ·exact ⟨a0, fun h => absurd h hil⟩)
  have hlen : ((List.range l).map f).length = l := by simp
  refine ⟨(List.range l).map f, show _ <= maxLen by rw [hlen]; omega, some ⟨bk, off, none⟩, m, by rw [hlen], fun _ => ⟨bk, off, rfl, hblk, fun j hj => ?_⟩⟩
  rw [hlen] at hj
  have q := hfs j hj
  simp only [Addr.add_lit] at q
  have e : ((List.range l).map f).getD j a0 = f j := by
   rw [List.getD_eq_getElem?_getD, List.getElem?_map, List.getElem?_range hj]; rfl
  rw [e]
  exact q
end Go.Proofs.YthppbcnejapbiaaGreatDoor.QF

-- YthppbcnejapbiaaGreatDoorSF
/- A part. -/
namespace Go.Proofs.YthppbcnejapbiaaGreatDoor.SF
open Go.ChangeShapes Go.WideShapes Go.ChangeAt Go.RowKit Go.Deep
open Foot
open Strs (total budgetOf)
set_option linter.unusedVariables false
abbrev L := List ByteArray
def cells (l : L) : List Value := l.map Value.string
def Holds (w : World) (v : Value) (l : L) : Prop := Strs.Holds w v l
theorem holds_below {w w' : World} {v : Value} {l : L} (h : Holds w v l) (hb : Below w.heap.size w w') : Holds w' v l := Strs.holds_below (B := 0) h hb
theorem form {w : World} {v : Value} {l : L} (h : Holds w v l) : ∃ a c, v = .slice a l.length c := by
 obtain ⟨a, c, rfl, _⟩ := h
 exact ⟨a, c, rfl⟩
def Own (w : World) (base : Nat) (v : Value) (l : L) (S : List Nat) : Prop := w.ownsRow base 9 1 v l.length (cells l) /\ S = fpR v
section
variable {w w' : World} {base : Nat} {v : Value} {l : L} {S T : List Nat}
theorem own_holds (h : Own w base v l S) : Holds w v l := Strs.holds_of_own h.1
theorem own_chg (h : Own w base v l S) (hc : Chg w w' T) (ha : Apart S T) : Own w' base v l S := ⟨row_chg h.1 hc (by rw [<- h.2]; exact ha), h.2⟩
theorem own_below (h : Own w base v l S) (hb : Below w.heap.size w w') : Own w' base v l S := ⟨row_below h.1 hb, h.2⟩
theorem own_mono {base' : Nat} (h : Own w base v l S) (hb : base' <= base) : Own w base' v l S := ⟨row_mono h.1 hb, h.2⟩
theorem own_lies (h : Own w base v l S) : Lies S base w.heap.size := by rw [h.2]; exact row_lies h.1
theorem own_nodup (h : Own w base v l S) : S.Nodup := by rw [h.2]; exact fpR_nodup v
theorem own_form (h : Own w base v l S) : ∃ a c, v = .slice a l.length c := Dk.slice_of h.1
theorem own_set (h : Own w base v l S) {a : Addr} (ha : a.block < base) (u : Value) : Own (w.setCell a u) base v l S := ⟨ownsRow_setCell_below h.1 ha u, h.2⟩
end
def Lim (l : L) : Prop := l.length <= maxLen /\ ∀ x ∈ l, x.size <= maxLen
def cost (l : L) : Nat := l.length + total l
theorem sz_any (w : World) (v : Value) (l : L) (left : Nat) (hleft : left <= 1073741824) (hl : Lim l) (h : Holds w v l) :
  Calls Tryz.prog 43 #[v, .int .i64 left] w fun e w' => e = .returned (.int .i64 (costOf (cost l) left)) /\ Below w.heap.size w w' := by
 refine (Strs.sz_any w v l left hleft hl.1 hl.2 h).mono ?_
 rintro e w' ⟨rfl, rfl⟩
 refine ⟨?_, Below.refl _ _⟩
 unfold budgetOf costOf cost
 by_cases hc : l.length + total l <= left
 ·rw [if_pos hc, if_pos hc, Nat.sub_sub]
 ·rw [if_neg hc, if_neg hc]
theorem to_any (w : World) (v : Value) (l : L) (hc : cost l <= 1073741824) (h : Holds w v l) :
  Calls Tryz.prog 48 #[v] w fun e w' => ∃ v' S, e = .returned v' /\ Own w' w.heap.size v' l S /\ Below w.heap.size w w' :=
 (Strs.to_any w v l (Nat.le_trans (Nat.le_add_right _ _) hc) h).mono fun e w' ⟨v', he, ho, hb⟩ => ⟨v', _, he, ⟨ho, rfl⟩, hb⟩
theorem eq_any (w : World) (va vb : Value) (l : L) (hc : cost l <= 1073741824) (h : Holds w va l) (h' : Holds w vb l) :
  Calls Tryz.prog 53 #[va, vb] w fun e w' => e = .returned (.bool true) /\ Below w.heap.size w w' :=
 (Strs.eq_any w va vb l (Nat.le_trans (Nat.le_add_right _ _) hc) h h').mono fun e w' ⟨he, m, hb⟩ => ⟨he, by rw [hb]; exact Joins.below_draws _ w m⟩
def marks (k : Nat) (l : L) : L := Strs.marks k l.length
def wid (l : L) : Nat := l.length
theorem wid_cost (l : L) : wid l <= 3 * cost l := by unfold cost wid; omega
theorem marks_length (k : Nat) (l : L) : (marks k l).length = l.length := Strs.marks_length k l.length
theorem mark_any (w : World) (base : Nat) (v : Value) (l : L) (S : List Nat) (k : Nat) (hk : 1 <= k) (hn : k + wid l <= 1073741824) (h : Own w base v l S) :
  Calls Tryz.prog 59 #[v, .int .i64 k] w fun e w' => e = .returned (.int .i64 (k + wid l : Nat)) /\ Own w' base v (marks k l) S /\ Chg w w' S := by
 obtain ⟨hown, rfl⟩ := h
 refine (Strs.mark_all w base v l.length k l hk hn hown).mono ?_
 rintro e w' ⟨rfl, ho, hg⟩
 exact ⟨by congr 2, ⟨by rw [marks_length]; exact ho, rfl⟩, Chg.of_grown hg⟩
theorem held_any (w : World) (v : Value) (l : L) (k : Nat) (hk : 1 <= k) (hn : k + wid l <= 1073741824) (h : Holds w v (marks k l)) :
  Calls Tryz.prog 69 #[v, .int .i64 k] w fun e w' => e = .returned (.int .i64 (k + wid l : Nat)) /\ Below w.heap.size w w' := by
 refine (Strs.held_all w v l.length k hk hn h).mono ?_
 rintro e w' ⟨rfl, hb⟩
 exact ⟨by congr 2, hb⟩
set_option maxRecDepth 100000 in
theorem in_cell {H : Type} {enc : TypeId × Value -> H} {W : World} {fuel : Nat} {v : Value} {x : DataW H × List MemPlace} (hf : DataW.trod enc Tryz.prog W 0 (fun _ => true) true fuel 24 [v] = some x) :
  ∃ l : L, Lim l /\ Holds W v l := by
 rcases open_slice Tryz.underlying24 hf with ⟨hcs, _⟩ | ⟨a, l, c, m, n, D, Pl, hcs, _, hl, hm, hmm, _, hi⟩
 ·simp at hcs
  subst hcs
  exact ⟨[], ⟨Nat.zero_le _, fun x hx => by cases hx⟩, none, 0, rfl, fun hh => absurd rfl hh⟩
 ·simp at hcs
  subst hcs
  have hmc : m = c := by simpa using hmm
  subst hmc
  by_cases hl0 : l = 0
  ·subst hl0
   exact ⟨[], ⟨Nat.zero_le _, fun x hx => by cases hx⟩, some a, m, rfl, fun hh => absurd rfl hh⟩
  have hel : ∀ i, i < l -> ∃ y : ByteArray, W.cell? (a.add i) = some (.string y) /\ y.size <= maxLen := by
   intro i hil
   obtain ⟨cs', hc, ht⟩ := hi i (by omega)
   rw [show Tryz.prog.cellsOf 9 = 1 from by kernel_rfl] at hc
   obtain ⟨_, hcl, hat⟩ := World.cells?_some hc
   obtain ⟨y, hy, _, hle⟩ := DataW.trod_string Tryz.underlying9 ht
   have e0 := hat 0 (by omega)
   rw [Addr.add_add, hy] at e0
   exact ⟨y, by simpa using e0, hle⟩
  obtain ⟨y, he0, _⟩ := hel 0 (by omega)
  have hspot : a.spot = none := by simpa [Addr.add] using World.cell?_spot he0
  have hblk : a.block < W.heap.size := by simpa [Addr.add] using Dk.cell_block he0
  obtain ⟨bk, off, spot⟩ := a
  simp only at hspot hblk
  subst hspot
  obtain ⟨f, hfs⟩ := Classical.skolem.1 (show ∀ i, ∃ y : ByteArray, i < l -> W.cell? (Addr.add ⟨bk, off, none⟩ i) = some (.string y) /\ y.size <= maxLen from fun i => by
   by_cases hil : i < l
   ·obtain ⟨y, hy⟩ := hel i hil
    exact ⟨y, fun _ => hy⟩
   ·exact ⟨⟨#[]⟩, fun h => absurd h hil⟩)
  have hlen : ((List.range l).map f).length = l := by simp
  refine ⟨(List.range l).map f, ⟨show _ <= maxLen by rw [hlen]; omega, fun x hx => by
   obtain ⟨i, hi1, rfl⟩ := List.mem_map.1 hx
   exact (hfs i (List.mem_range.1 hi1)).2⟩, some ⟨bk, off, none⟩, m, by rw [hlen], fun _ => ⟨bk, off, rfl, hblk, fun j hj => ?_⟩⟩
  rw [hlen] at hj
  have q0 := (hfs j hj).1
  rw [Addr.add_lit] at q0
  have e : ((List.range l).map f).getD j ⟨#[]⟩ = f j := by
   rw [List.getD_eq_getElem?_getD, List.getElem?_map, List.getElem?_range hj]; rfl
  rw [e]
  exact q0
end Go.Proofs.YthppbcnejapbiaaGreatDoor.SF

-- YthppbcnejapbiaaGreatDoorNi
/- A part. -/
namespace Go.Proofs.YthppbcnejapbiaaGreatDoor.Ni
set_option maxHeartbeats 800000
set_option maxRecDepth 100000
open Go.ChangeShapes Go.WideShapes Go.ChangeAt Go.RowKit Go.Deep
open Dk (Turned)
open Strs (own_below grow_trans take_set_succ below_of_drew)
set_option linter.unusedVariables false
def HoldsN (w : World) (v : Value) (xs : List Int) : Prop :=
 ∃ (a : Option Addr) (cap : Nat), v = .slice a xs.length cap /\ ∀ i, i < xs.length -> ∃ b o, a = some ⟨b, o, none⟩ /\ b < w.heap.size /\ w.cell? ⟨b, o + i, none⟩ = some (.int .i64 (xs.getD i 0))
theorem holds_below {w w' : World} {v : Value} {xs : List Int} (h : HoldsN w v xs) (hb : Below w.heap.size w w') : HoldsN w' v xs := by
 obtain ⟨a, cap, rfl, hc⟩ := h
 refine ⟨a, cap, rfl, fun i hi => ?_⟩
 obtain ⟨b, o, rfl, hlt, hcell⟩ := hc i hi
 exact ⟨b, o, rfl, Nat.lt_of_lt_of_le hlt hb.size, by rw [hb.cell (p := ⟨b, _, none⟩) hlt]; exact hcell⟩
theorem holds_of_own {w : World} {base : Nat} {e : TypeId} {v : Value} {n : Nat} {bs : List Int} (h : w.ownsRow base e 1 v n (bs.map (Value.int .i64))) : HoldsN w v bs := by
 have hl := h.1
 simp at hl
 rcases h.2 with ⟨rfl, h0⟩ | ⟨g, cap, cur, rfl, hb, hg, hn, _, _, htake⟩
 ·have : bs = [] := List.eq_nil_of_length_eq_zero (by omega)
  subst this
  exact ⟨none, 0, rfl, fun i hi => by simp at hi⟩
 ·refine ⟨some ⟨g, 0, none⟩, cap, by rw [hl], fun i hi => ⟨g, 0, rfl, (Array.getElem?_eq_some_iff.1 hg).1, ?_⟩⟩
  rw [Nat.zero_add, h.cellAt i (by omega)]
  simp [List.getD, List.getElem?_eq_getElem hi]
theorem intInfo : (Tryz.prog.info? 3).map (fun i => (i.zero, i.size, i.bytes)) = some (some (.int .i64 0), 1, 8) := by kernel_rfl
theorem to_any (w : World) (v : Value) (xs : List Int) (hlen : xs.length <= 1073741824) (h : HoldsN w v xs) :
  Calls Tryz.prog 79 #[v] w fun e w' => ∃ v', e = .returned v' /\ w'.ownsRow w.heap.size 3 1 v' xs.length (xs.map (Value.int .i64)) /\ Below w.heap.size w w' := by
 obtain ⟨i0, hi, hz0, hz1, hz2⟩ := info_parts intInfo
 obtain ⟨a, cap, rfl, hc⟩ := h
 obtain ⟨L, hL⟩ : ∃ L, L = xs.length := ⟨_, rfl⟩
 have HC := Lib.hid hc
 rw [<- hL] at hlen ⊢
 have HL := Lib.hid hL
 clear hL hc
 have hro : i0.bytes * L <= 281474976710656 := by rw [hz2]; omega
 have HRO := Lib.hid hro
 have HB := Lib.hid hz2
 clear hro hz2
 go_enter Tryz.func79, Tryz.ntmps79
 go_wp2_with (at_make; refine wpList_make_full _ rfl _ _ 49 rfl w.heap.size 3 i0 (.int .i64 0) 1 Tryz.underlying49 hi hz0 hz1 .i64 .i64 _ _ L rfl rfl rfl rfl ?c1 ?c2 ?c3 ?_)
 case c1 => exact HRO.out
 case c2 => unfold maxLen; omega
 case c3 => exact Nat.le_refl _
 intro w1 hown1 hg1
 have HO1 := Lib.hid hown1
 have HB1 := Lib.hid (show Below w.heap.size w w1 from (Below.refl _ _).grown hg1 (Nat.le_refl _) (fun k hk => by cases hk))
 clear hown1 hg1
 go_wp2
 go_loopw [4] (fun iv wr => ∃ (i : Nat) (l : List Value), i <= L /\ iv = .int .i64 i /\ wr.ownsRow w.heap.size 3 1 (.slice (some ⟨w.heap.size, 0, none⟩) L L) L l /\ l.take i = (xs.take i).map (Value.int .i64) /\ Below w.heap.size w wr) (fun iv _ => L - (intOf iv).toNat)
 case atStart => exact ⟨0, _, Nat.zero_le _, rfl, HO1.out, rfl, HB1.out⟩
 case round =>
  obtain ⟨i, l, hi, rfl, hown, htake, hbel⟩ := hrel
  have HO := Lib.hid hown
  have HT := Lib.hid htake
  have HBEL := Lib.hid hbel
  clear hown htake hbel HO1 HB1
  by_cases hlt : i < L
  ·have hlx : i < xs.length := by rw [<- HL.out]; exact hlt
   have hll : i < l.length := by have := HO.out.1; omega
   obtain ⟨b, o, rfl, hb, hcell⟩ := HC.out i hlx
   have g1 : wr.cell? ⟨b, o + i, none⟩ = some (.int .i64 (xs.getD i 0)) := by
    rw [HBEL.out.cell (p := ⟨b, o + i, none⟩) hb]; exact hcell
   have hx : (xs.take (i + 1)).map (Value.int .i64) = (xs.take i).map (Value.int .i64) ++ [.int .i64 (xs.getD i 0)] := by
    rw [List.take_succ_eq_append_getElem hlx, List.map_append]
    simp [List.getD, List.getElem?_eq_getElem hlx]
   have hcl := HO.out.cellAt i (by omega)
   rw [List.getElem?_eq_getElem hll] at hcl
   have hf := HO.out.frozenAt i
   have hst := HO.out.stored i (.int .i64 (xs.getD i 0))
   have hts := take_set_succ l i (.int .i64 (xs.getD i 0)) hll
   rw [HT.out, <- hx] at hts
   have HST := Lib.hid hst.1
   have HTS := Lib.hid hts
   clear hx hst hts hcell
   generalize l[i] = y at hcl
   generalize xs.getD i 0 = x at g1 HST HTS
   go_wp2
   go_roundw
   case rel => exact ⟨i + 1, _, by omega, by go_num, HST.out, HTS.out, HBEL.out.setCell (Nat.le_refl _) _⟩
   case measure => simp [intOf]; omega
  ·obtain rfl : i = L := by omega
   go_wp2
   go_ret
   refine ⟨_, rfl, ?_, HBEL.out⟩
   have h1 := HT.out
   have h2 := HO.out.1
   rw [List.take_of_length_le (by omega), List.take_of_length_le (by rw [HL.out]; exact Nat.le_refl _)] at h1
   rw [<- h1]; exact HO.out
theorem eq_any (w : World) (va vb : Value) (xs : List Int) (hn : xs.length <= 1073741824) (ha : HoldsN w va xs) (hb : HoldsN w vb xs) :
  Calls Tryz.prog 82 #[va, vb] w fun e w' => e = .returned (.bool true) /\ Below w.heap.size w w' := by
 obtain ⟨a, ca, rfl, hca⟩ := ha
 obtain ⟨b, cb, rfl, hcb⟩ := hb
 have HC1 := Lib.hid hca
 have HC2 := Lib.hid hcb
 clear hca hcb
 obtain ⟨L, hL⟩ : ∃ L, L = xs.length := ⟨_, rfl⟩
 rw [<- hL] at hn ⊢
 have HL := Lib.hid hL
 clear hL
 go_enter Tryz.func82, Tryz.ntmps82
 go_wp2
 go_loopw [5] (fun i wr => ∃ k m : Nat, k <= L /\ i = .int .i64 k /\ wr = w.drewN m) (fun i _ => L - (intOf i).toNat)
 case atStart => exact ⟨0, 0, Nat.zero_le _, rfl, rfl⟩
 case round =>
  obtain ⟨k, m, hk, rfl, rfl⟩ := hrel
  by_cases hlt : k < L
  ·obtain ⟨b1, o1, rfl, _, g1⟩ := HC1.out k (by rw [<- HL.out]; exact hlt)
   obtain ⟨b2, o2, rfl, _, g2⟩ := HC2.out k (by rw [<- HL.out]; exact hlt)
   generalize xs.getD k 0 = x at g1 g2
   go_wp2
   go_quiet (fail)
   go_wp2
   go_roundw
   case rel => exact ⟨k + 1, _, by omega, by go_num, by first | rfl | exact World.drewN_drewN ..⟩
   case measure => simp [intOf]; omega
  ·go_wp2
   go_ret
   exact ⟨rfl, Joins.below_draws _ w m⟩
theorem sz_any (w : World) (v : Value) (xs : List Int) (left : Nat) (hleft : left <= 1073741824) (hlen : xs.length <= maxLen) (h : HoldsN w v xs) :
  Calls Tryz.prog 76 #[v, .int .i64 left] w fun e w' => e = .returned (.int .i64 (if xs.length <= left then ((left - xs.length : Nat) : Int) else -1)) /\ Below w.heap.size w w' := by
 unfold maxLen at hlen
 obtain ⟨a, cap, rfl, hc⟩ := h
 clear hc
 generalize xs.length = L at hlen ⊢
 by_cases hlt : L <= left
 ·rw [if_pos hlt]
  go_enter Tryz.func76, Tryz.ntmps76
  go_wp2
  go_ret
  exact ⟨Strs.ret_int (by omega), Below.refl _ _⟩
 ·rw [if_neg hlt]
  go_enter Tryz.func76, Tryz.ntmps76
  go_wp2
  go_ret
  exact ⟨rfl, Below.refl _ _⟩
end Go.Proofs.YthppbcnejapbiaaGreatDoor.Ni

-- YthppbcnejapbiaaGreatDoorNiF
/- A part. -/
namespace Go.Proofs.YthppbcnejapbiaaGreatDoor.NiF
set_option maxHeartbeats 800000
set_option maxRecDepth 100000
open Go.ChangeShapes Go.WideShapes Go.ChangeAt Go.RowKit Go.Deep
open Foot
open Strs (grow_trans take_set_succ)
open Ni (HoldsN)
set_option linter.unusedVariables false
abbrev L := List Int
def cells (l : List Int) : List Value := l.map (Value.int .i64)
theorem cells_length (l : List Int) : (cells l).length = l.length := by simp [cells]
def Holds (w : World) (v : Value) (l : List Int) : Prop := ∃ (a : Option Addr) (cap : Nat), v = .slice a l.length cap /\ l.length <= cap /\ ∀ i, i < l.length -> ∃ b o, a = some ⟨b, o, none⟩ /\ b < w.heap.size /\ w.cell? ⟨b, o + i, none⟩ = some (.int .i64 (l.getD i 0))
theorem Holds.old {w : World} {v : Value} {l : List Int} (h : Holds w v l) : HoldsN w v l := by
 obtain ⟨a, c, e, _, hc⟩ := h
 exact ⟨a, c, e, hc⟩
theorem Holds.of_old {w : World} {v : Value} {l : List Int} (h : HoldsN w v l) (hr : ∀ a c, v = .slice a l.length c -> l.length <= c) : Holds w v l := by
 obtain ⟨a, c, e, hc⟩ := h
 exact ⟨a, c, e, hr a c e, hc⟩
theorem holds_below {w w' : World} {v : Value} {l : List Int} (h : Holds w v l) (hb : Below w.heap.size w w') : Holds w' v l := by
 obtain ⟨a, c, rfl, hle, hc⟩ := h
 exact Holds.of_old (Ni.holds_below ⟨a, c, rfl, hc⟩ hb) (fun a' c' e => by cases e; exact hle)
theorem form {w : World} {v : Value} {l : List Int} (h : Holds w v l) : ∃ a c, v = .slice a l.length c := by
 obtain ⟨a, c, rfl, _⟩ := h
 exact ⟨a, c, rfl⟩
def Own (w : World) (base : Nat) (v : Value) (l : List Int) (S : List Nat) : Prop := (∃ (a : Option Addr) (c c' : Nat), v = .slice a l.length c /\ l.length <= c /\ c <= c' /\ w.ownsRow base 3 1 (.slice a l.length c') l.length (cells l)) /\ S = fpR v
theorem own_of {w : World} {base : Nat} {v : Value} {l : List Int} (h : w.ownsRow base 3 1 v l.length (cells l)) : Own w base v l (fpR v) := by
 refine ⟨?_, rfl⟩
 rcases h.2 with ⟨rfl, h0⟩ | ⟨g, cap, cur, rfl, hb, hg, hn, _⟩
 ·refine ⟨none, 0, 0, by rw [h0], by omega, Nat.le_refl _, ?_⟩
  rw [show (Value.slice none l.length 0) = .slice none 0 0 from by rw [h0]]
  exact h
 ·exact ⟨_, cap, cap, rfl, hn, Nat.le_refl _, h⟩
theorem fpR_slice (a : Option Addr) (n c n' c' : Nat) : fpR (.slice a n c) = fpR (.slice a n' c') := by cases a <;> rfl
theorem own_holds {w : World} {base : Nat} {v : Value} {l : List Int} {S : List Nat} (h : Own w base v l S) : Holds w v l := by
 obtain ⟨⟨a, c, c', rfl, hc, hcc, hr⟩, _⟩ := h
 obtain ⟨a1, cap1, e, hn⟩ := Ni.holds_of_own hr
 rw [Value.slice.injEq] at e
 obtain ⟨rfl, _, _⟩ := e
 refine Holds.of_old ⟨a, c, rfl, hn⟩ fun a2 c2 e2 => ?_
 rw [Value.slice.injEq] at e2
 omega
theorem own_chg {w w' : World} {base : Nat} {v : Value} {l : List Int} {S T : List Nat} (h : Own w base v l S) (hc : Chg w w' T) (ha : Apart S T) : Own w' base v l S := by
 obtain ⟨⟨a, c, c', rfl, h1, h2, hr⟩, rfl⟩ := h
 exact ⟨⟨a, c, c', rfl, h1, h2, row_chg hr hc (by rw [fpR_slice a _ _ l.length c]; exact ha)⟩, rfl⟩
theorem own_below {w w' : World} {base : Nat} {v : Value} {l : List Int} {S : List Nat} (h : Own w base v l S) (hb : Below w.heap.size w w') : Own w' base v l S := by
 obtain ⟨⟨a, c, c', rfl, h1, h2, hr⟩, rfl⟩ := h
 exact ⟨⟨a, c, c', rfl, h1, h2, row_below hr hb⟩, rfl⟩
theorem own_mono {w : World} {base base' : Nat} {v : Value} {l : List Int} {S : List Nat} (h : Own w base v l S) (hb : base' <= base) : Own w base' v l S := by
 obtain ⟨⟨a, c, c', rfl, h1, h2, hr⟩, rfl⟩ := h
 exact ⟨⟨a, c, c', rfl, h1, h2, row_mono hr hb⟩, rfl⟩
theorem own_lies {w : World} {base : Nat} {v : Value} {l : List Int} {S : List Nat} (h : Own w base v l S) : Lies S base w.heap.size := by
 obtain ⟨⟨a, c, c', rfl, h1, h2, hr⟩, rfl⟩ := h
 rw [fpR_slice a _ _ l.length c']; exact row_lies hr
theorem own_nodup {w : World} {base : Nat} {v : Value} {l : List Int} {S : List Nat} (h : Own w base v l S) : S.Nodup := by rw [h.2]; exact fpR_nodup v
theorem own_form {w : World} {base : Nat} {v : Value} {l : List Int} {S : List Nat} (h : Own w base v l S) : ∃ a c, v = .slice a l.length c := by
 obtain ⟨⟨a, c, c', rfl, _⟩, _⟩ := h
 exact ⟨a, c, rfl⟩
theorem own_set {w : World} {base : Nat} {v : Value} {l : List Int} {S : List Nat} (h : Own w base v l S) {a : Addr} (ha : a.block < base) (u : Value) : Own (w.setCell a u) base v l S := by
 obtain ⟨⟨a', c, c', rfl, h1, h2, hr⟩, rfl⟩ := h
 exact ⟨⟨a', c, c', rfl, h1, h2, ownsRow_setCell_below hr ha u⟩, rfl⟩
def Lim (l : List Int) : Prop := l.length <= maxLen /\ ∀ x ∈ l, Rg x
def cost (l : List Int) : Nat := l.length
theorem sz_any (w : World) (v : Value) (l : List Int) (left : Nat) (hleft : left <= 1073741824) (hl : Lim l) (h : Holds w v l) :
  Calls Tryz.prog 76 #[v, .int .i64 left] w fun e w' => e = .returned (.int .i64 (costOf (cost l) left)) /\ Below w.heap.size w w' := Ni.sz_any w v l left hleft hl.1 h.old
theorem to_any (w : World) (v : Value) (l : List Int) (hc : cost l <= 1073741824) (h : Holds w v l) :
  Calls Tryz.prog 79 #[v] w fun e w' => ∃ v' S, e = .returned v' /\ Own w' w.heap.size v' l S /\ Below w.heap.size w w' :=
 (Ni.to_any w v l hc h.old).mono fun e w' ⟨v', he, ho, hb⟩ => ⟨v', _, he, own_of ho, hb⟩
theorem eq_any (w : World) (va vb : Value) (l : List Int) (hc : cost l <= 1073741824) (h : Holds w va l) (h' : Holds w vb l) :
  Calls Tryz.prog 82 #[va, vb] w fun e w' => e = .returned (.bool true) /\ Below w.heap.size w w' := Ni.eq_any w va vb l hc h.old h'.old
def marks (k : Nat) (l : List Int) : List Int := (List.range l.length).map fun i => ((k + i : Nat) : Int)
def wid (l : List Int) : Nat := l.length
theorem wid_cost (l : List Int) : wid l <= 3 * cost l := by unfold cost wid; omega
theorem marks_length (k : Nat) (l : List Int) : (marks k l).length = l.length := by simp [marks]
theorem marks_getD (k : Nat) (l : List Int) (j : Nat) (h : j < l.length) : (marks k l).getD j 0 = ((k + j : Nat) : Int) := by
 simp [marks, List.getD, h]
def part (k : Nat) (l : List Int) (i : Nat) : List Int := (marks k l).take i ++ l.drop i
theorem part_zero (k : Nat) (l : List Int) : part k l 0 = l := by simp [part]
theorem part_all (k : Nat) (l : List Int) : part k l l.length = marks k l := by
 rw [part, List.drop_length, List.append_nil, List.take_of_length_le (by rw [marks_length]; exact Nat.le_refl _)]
theorem part_length (k : Nat) (l : List Int) (i : Nat) (h : i <= l.length) : (part k l i).length = l.length := by
 rw [part, List.length_append, List.length_take, List.length_drop, marks_length]; omega
theorem part_set (k : Nat) (l : List Int) (i : Nat) (h : i < l.length) : (cells (part k l i)).set i (.int .i64 ((k : Int) + i)) = cells (part k l (i + 1)) := by
 unfold cells part
 rw [<- List.map_set, List.set_append_right _ _ (by rw [List.length_take, marks_length]; omega), List.length_take, marks_length, Nat.min_eq_left (by omega), Nat.sub_self, List.drop_eq_getElem_cons h, List.set_cons_zero, List.take_succ_eq_append_getElem (by rw [marks_length]; exact h), List.append_assoc]
 have e : (marks k l)[i]'(by rw [marks_length]; exact h) = (k : Int) + i := by simp [marks]
 rw [e]; rfl
theorem mark_any (w : World) (base : Nat) (v : Value) (l : List Int) (S : List Nat) (k : Nat) (hk : 1 <= k) (hn : k + wid l <= 1073741824) (h : Own w base v l S) :
  Calls Tryz.prog 107 #[v, .int .i64 k] w fun e w' => e = .returned (.int .i64 (k + wid l : Nat)) /\ Own w' base v (marks k l) S /\ Chg w w' S := by
 obtain ⟨⟨a0, c0, c1, rfl, hlc, hcc, hown⟩, rfl⟩ := h
 unfold wid at hn ⊢
 unfold Own
 rw [marks_length]
 obtain ⟨n, hnl⟩ : ∃ n, n = l.length := ⟨_, rfl⟩
 rw [<- hnl] at hn hown hlc ⊢
 have HL := Lib.hid hnl
 have HLC := Lib.hid hlc
 have HCC := Lib.hid hcc
 clear hlc hcc
 by_cases h0 : n = 0
 ·subst h0
  obtain rfl : l = [] := List.eq_nil_of_length_eq_zero hnl.symm
  have HO := Lib.hid hown
  clear hown hnl
  go_enter Tryz.func107, Tryz.ntmps107
  go_wp2
  refine wp_loop_rounds 1 ?_
  rw [rounds_succ]
  go_wp2
  go_ret
  exact ⟨by simp, ⟨⟨a0, c0, c1, rfl, HLC.out, HCC.out, HO.out⟩, by first | rfl | trivial⟩, Chg.refl _ _⟩
 ·obtain ⟨g, rfl, hbg⟩ : ∃ g, a0 = some ⟨g, 0, none⟩ /\ g < w.heap.size := by
   rcases hown.2 with ⟨_, hz⟩ | ⟨g, cap, cur, e, _, hg, _⟩
   ·exact absurd hz h0
   ·rw [Value.slice.injEq] at e
    exact ⟨g, e.1, (Array.getElem?_eq_some_iff.1 hg).1⟩
  have HO := Lib.hid hown
  clear hown h0 hnl
  go_enter Tryz.func107, Tryz.ntmps107
  go_wp2
  go_loopw [1, 5] (fun kv iv wr => ∃ i : Nat, i <= n /\ iv = .int .i64 i /\ kv = .int .i64 ((k : Int) + i) /\ wr.ownsRow base 3 1 (.slice (some ⟨g, 0, none⟩) n c1) n (cells (part k l i)) /\ w.grownBy wr (some g)) (fun _ iv _ => n - (intOf iv).toNat)
  case atStart => exact ⟨0, Nat.zero_le _, rfl, by simp, by rw [part_zero]; exact HO.out, World.grownBy.refl _ _⟩
  case round =>
   obtain ⟨i, hi, rfl, rfl, hown, hgr⟩ := hrel
   have HOWN := Lib.hid hown
   have HGR := Lib.hid hgr
   clear hown hgr
   by_cases hlt : i < n
   ·have hx : i < l.length := by rw [<- HL.out]; exact hlt
    have hcl := HOWN.out.cellAt i (by omega)
    rw [List.getElem?_eq_getElem (by rw [cells_length, part_length k l i (by omega)]; exact hx)] at hcl
    have hf := HOWN.out.frozenAt i
    have hst := HOWN.out.stored i (.int .i64 ((k : Int) + i))
    rw [part_set k l i hx] at hst
    have HST := Lib.hid hst.1
    have HG2 := Lib.hid (grow_trans HGR.out hst.2)
    clear hst
    generalize (cells (part k l i))[i]'_ = y at hcl
    go_wp2
    go_roundw
    case rel => exact ⟨i + 1, by omega, by go_num, by go_num, HST.out, HG2.out⟩
    case measure => simp [intOf]; omega
   ·obtain rfl : i = n := by omega
    have HE := Lib.hid (show part k l i = marks k l by rw [HL.out, part_all])
    go_wp2
    go_ret
    exact ⟨by congr 2, ⟨⟨_, c0, c1, rfl, HLC.out, HCC.out, by rw [<- HE.out]; exact HOWN.out⟩, by first | rfl | trivial⟩, Chg.of_grown HGR.out⟩
theorem held_any (w : World) (v : Value) (l : List Int) (k : Nat) (hk : 1 <= k) (hn : k + wid l <= 1073741824) (h : Holds w v (marks k l)) :
  Calls Tryz.prog 126 #[v, .int .i64 k] w fun e w' => e = .returned (.int .i64 (k + wid l : Nat)) /\ Below w.heap.size w w' := by
 obtain ⟨a, cap, rfl, _, hc⟩ := h
 unfold wid at hn ⊢
 rw [marks_length] at hc ⊢
 obtain ⟨n, hnl⟩ : ∃ n, n = l.length := ⟨_, rfl⟩
 have HG := Lib.hid (marks_getD k l)
 rw [<- hnl] at hn hc HG ⊢
 have HC := Lib.hid hc
 clear hc hnl
 go_enter Tryz.func126, Tryz.ntmps126
 go_wp2_with fail
 go_loopw [1, 5] (fun kv iv wr => ∃ i : Nat, i <= n /\ iv = .int .i64 i /\ kv = .int .i64 ((k : Int) + i) /\ Below w.heap.size w wr) (fun _ iv _ => n - (intOf iv).toNat)
 case atStart => exact ⟨0, Nat.zero_le _, rfl, by simp, Below.refl _ _⟩
 case round =>
  obtain ⟨i, hi, rfl, rfl, hbel⟩ := hrel
  have HBEL := Lib.hid hbel
  clear hbel
  by_cases hlt : i < n
  ·obtain ⟨b, o, rfl, hb, g0⟩ := HC.out i hlt
   rw [HG.out i hlt, <- HBEL.out.cell (p := ⟨b, _, none⟩) hb, show ((k + i : Nat) : Int) = (k : Int) + i from by omega] at g0
   go_wp2
   go_roundw
   case rel => exact ⟨i + 1, by omega, by go_num, by go_num, HBEL.out⟩
   case measure => simp [intOf]; omega
  ·obtain rfl : i = n := by omega
   go_wp2
   go_ret
   exact ⟨by congr 2, HBEL.out⟩
theorem in_cell {H : Type} {enc : TypeId × Value -> H} {W : World} {fuel : Nat} {v : Value} {x : DataW H × List MemPlace} (hf : DataW.trod enc Tryz.prog W 0 (fun _ => true) true fuel 49 [v] = some x) :
  ∃ l : List Int, Lim l /\ Holds W v l := by
 rcases open_slice Tryz.underlying49 hf with ⟨hcs, _⟩ | ⟨a, l, c, m, n, D, Pl, hcs, _, hl, hm, hmm, _, hi⟩
 ·simp at hcs
  subst hcs
  exact ⟨[], ⟨Nat.zero_le _, fun x hx => by cases hx⟩, none, 0, rfl, Nat.le_refl _, fun i hi => by simp at hi⟩
 ·simp at hcs
  subst hcs
  have hmc : m = c := by simpa using hmm
  subst hmc
  have hel : ∀ i, i < l -> ∃ y : Int, W.cell? (a.add i) = some (.int .i64 y) /\ Rg y := by
   intro i hil
   obtain ⟨cs', hc, ht⟩ := hi i (by omega)
   rw [show Tryz.prog.cellsOf 3 = 1 from by kernel_rfl] at hc
   obtain ⟨_, hcl, hat⟩ := World.cells?_some hc
   obtain ⟨y, hy, _, hwf⟩ := DataW.trod_int Tryz.underlying3 ht
   have e0 := hat 0 (by omega)
   rw [Addr.add_add, hy] at e0
   exact ⟨y, by simpa using e0, rg_of hwf⟩
  by_cases hl0 : l = 0
  ·subst hl0
   exact ⟨[], ⟨Nat.zero_le _, fun x hx => by cases hx⟩, some a, m, rfl, Nat.zero_le _, fun i hi => by simp at hi⟩
  obtain ⟨y, he0, _⟩ := hel 0 (by omega)
  have hspot : a.spot = none := by simpa [Addr.add] using World.cell?_spot he0
  have hblk : a.block < W.heap.size := by simpa [Addr.add] using Dk.cell_block he0
  obtain ⟨bk, off, spot⟩ := a
  simp only at hspot hblk
  subst hspot
  obtain ⟨f, hfs⟩ := Classical.skolem.1 (show ∀ i, ∃ y : Int, i < l -> W.cell? (Addr.add ⟨bk, off, none⟩ i) = some (.int .i64 y) /\ Rg y from fun i => by
   by_cases hil : i < l
   ·obtain ⟨y, hy⟩ := hel i hil
    exact ⟨y, fun _ => hy⟩
   ·exact ⟨0, fun h => absurd h hil⟩)
  have hlen : ((List.range l).map f).length = l := by simp
  refine ⟨(List.range l).map f, ⟨show _ <= maxLen by rw [hlen]; omega, fun x hx => by
   obtain ⟨i, hi1, rfl⟩ := List.mem_map.1 hx
   exact (hfs i (List.mem_range.1 hi1)).2⟩, some ⟨bk, off, none⟩, m, by rw [hlen], by rw [hlen]; exact hl, fun j hj => ⟨bk, off, rfl, hblk, ?_⟩⟩
  rw [hlen] at hj
  have q0 := (hfs j hj).1
  rw [Addr.add_lit] at q0
  have e : ((List.range l).map f).getD j 0 = f j := by
   rw [List.getD_eq_getElem?_getD, List.getElem?_map, List.getElem?_range hj]; rfl
  rw [e]
  exact q0
end Go.Proofs.YthppbcnejapbiaaGreatDoor.NiF

-- YthppbcnejapbiaaGreatDoorAeIn
/- A part. -/
namespace Go.Proofs.YthppbcnejapbiaaGreatDoor.Ae
open Go.ChangeShapes Go.WideShapes Go.ChangeAt Go.RowKit Go.Deep
open AclV (At a0)
set_option linter.unusedVariables false
structure LIn (w : World) (v : Value) (l : List At) : Prop where
 len : l.length <= maxLen
 holds : Holds w v l
set_option maxRecDepth 100000 in
theorem ents_of {H : Type} {enc : TypeId × Value -> H} {W : World} {fuel : Nat} {v : Value} {x : DataW H × List MemPlace} (hf : DataW.trod enc Tryz.prog W 0 (fun _ => true) true fuel 109 [v] = some x) :
  ∃ ws : List At, ws.length <= maxLen /\ Holds W v ws := by
 rcases open_slice Tryz.underlying109 hf with ⟨hcs, _⟩ | ⟨a, l, c, m, n, D, Pl, hcs, _, hl, hm, hmm, _, hi⟩
 ·simp at hcs
  subst hcs
  exact ⟨[], by simp, none, 0, rfl, fun hh => absurd rfl hh⟩
 ·simp at hcs
  subst hcs
  have hmc : m = c := by simpa using hmm
  subst hmc
  by_cases hl0 : l = 0
  ·subst hl0
   exact ⟨[], by simp, some a, m, rfl, fun hh => absurd rfl hh⟩
  have hel : ∀ i, i < l -> ∃ y : At, W.cell? (a.add (i * 3)) = some (.int .i64 y.1) /\ W.cell? (a.add (i * 3 + 1)) = some (.int .i64 y.2.1) /\ W.cell? (a.add (i * 3 + 2)) = some (.int .i64 y.2.2) := by
   intro i hil
   obtain ⟨cs', hc, ht⟩ := hi i (by omega)
   rw [show Tryz.prog.cellsOf 185 = 3 from by kernel_rfl] at hc
   obtain ⟨_, hcl, hat⟩ := World.cells?_some hc
   obtain ⟨y0, y1, y2, n', _, hlen, h0, h1, h2⟩ := trod_struct3 Tryz.underlying185 ht
   obtain ⟨c0, c1, c2, rfl⟩ : ∃ c0 c1 c2, cs' = [c0, c1, c2] := by
    match cs', hcl with
    | [c0, c1, c2], _ => exact ⟨c0, c1, c2, rfl⟩
   have e0 := hat 0 (by omega)
   have e1 := hat 1 (by omega)
   have e2 := hat 2 (by omega)
   have hci : Tryz.prog.cellsOf 3 = 1 := by kernel_rfl
   obtain ⟨z, hz, _, _⟩ := DataW.trod_int Tryz.underlying3 h0
   obtain ⟨s, hs, _, _⟩ := DataW.trod_int Tryz.underlying3 h1
   obtain ⟨q, hq, _, _⟩ := DataW.trod_int Tryz.underlying3 h2
   have hz' : c0 = .int .i64 z := by simpa [hci] using hz
   have hs' : c1 = .int .i64 s := by simpa [hci] using hs
   have hq' : c2 = .int .i64 q := by simpa [hci] using hq
   rw [Addr.add_add] at e0 e1 e2
   exact ⟨(z, s, q), by rw [<- hz']; exact e0, by rw [<- hs']; exact e1, by rw [<- hq']; exact e2⟩
  obtain ⟨y, he0, _, _⟩ := hel 0 (by omega)
  have hspot : a.spot = none := by simpa [Addr.add] using World.cell?_spot he0
  have hblk : a.block < W.heap.size := by simpa [Addr.add] using Dk.cell_block he0
  obtain ⟨bk, off, spot⟩ := a
  simp only at hspot hblk
  subst hspot
  obtain ⟨f, hfs⟩ := Classical.skolem.1 (show ∀ i, ∃ y : At, i < l -> W.cell? (Addr.add ⟨bk, off, none⟩ (i * 3)) = some (.int .i64 y.1) /\ W.cell? (Addr.add ⟨bk, off, none⟩ (i * 3 + 1)) = some (.int .i64 y.2.1) /\ W.cell? (Addr.add ⟨bk, off, none⟩ (i * 3 + 2)) = some (.int .i64 y.2.2) from fun i => by
   by_cases hil : i < l
   ·obtain ⟨y, hy⟩ := hel i hil
    exact ⟨y, fun _ => hy⟩
   ·exact ⟨a0, fun h => absurd h hil⟩)
  have hlen : ((List.range l).map f).length = l := by simp
  refine ⟨(List.range l).map f, by rw [hlen]; omega, some ⟨bk, off, none⟩, m, by rw [hlen], fun _ => ⟨bk, off, rfl, hblk, fun j hj => ?_⟩⟩
  rw [hlen] at hj
  obtain ⟨q0, q1, q2⟩ := hfs j hj
  rw [Addr.add_lit] at q0 q1 q2
  have e : ((List.range l).map f).getD j a0 = f j := by
   rw [List.getD_eq_getElem?_getD, List.getElem?_map, List.getElem?_range hj]; rfl
  rw [e]
  exact ⟨q0, q1, q2⟩
end Go.Proofs.YthppbcnejapbiaaGreatDoor.Ae

-- YthppbcnejapbiaaGreatDoorAeF
/- A part. -/
namespace Go.Proofs.YthppbcnejapbiaaGreatDoor.AeF
open Go.ChangeShapes Go.WideShapes Go.ChangeAt Go.RowKit Go.Deep
open Foot
open AclV (At a0)
set_option linter.unusedVariables false
abbrev L := List At
def Holds (w : World) (v : Value) (l : List At) : Prop := Ae.Holds w v l
theorem holds_below {w w' : World} {v : Value} {l : List At} (h : Holds w v l) (hb : Below w.heap.size w w') : Holds w' v l := Ae.holds_below h hb
theorem form {w : World} {v : Value} {l : List At} (h : Holds w v l) : ∃ a c, v = .slice a l.length c := by
 obtain ⟨a, c, rfl, _⟩ := h
 exact ⟨a, c, rfl⟩
def Own (w : World) (base : Nat) (v : Value) (l : List At) (S : List Nat) : Prop := w.ownsRow base 161 3 v l.length (Ae.cells l) /\ S = fpR v
theorem own_holds {w : World} {base : Nat} {v : Value} {l : List At} {S : List Nat} (h : Own w base v l S) : Holds w v l := Ae.holds_of_own h.1
theorem own_chg {w w' : World} {base : Nat} {v : Value} {l : List At} {S T : List Nat} (h : Own w base v l S) (hc : Chg w w' T) (ha : Apart S T) : Own w' base v l S := ⟨row_chg h.1 hc (by rw [<- h.2]; exact ha), h.2⟩
theorem own_below {w w' : World} {base : Nat} {v : Value} {l : List At} {S : List Nat} (h : Own w base v l S) (hb : Below w.heap.size w w') : Own w' base v l S := ⟨row_below h.1 hb, h.2⟩
theorem own_mono {w : World} {base base' : Nat} {v : Value} {l : List At} {S : List Nat} (h : Own w base v l S) (hb : base' <= base) : Own w base' v l S := ⟨row_mono h.1 hb, h.2⟩
theorem own_lies {w : World} {base : Nat} {v : Value} {l : List At} {S : List Nat} (h : Own w base v l S) : Lies S base w.heap.size := by rw [h.2]; exact row_lies h.1
theorem own_nodup {w : World} {base : Nat} {v : Value} {l : List At} {S : List Nat} (h : Own w base v l S) : S.Nodup := by rw [h.2]; exact fpR_nodup v
theorem own_form {w : World} {base : Nat} {v : Value} {l : List At} {S : List Nat} (h : Own w base v l S) : ∃ a c, v = .slice a l.length c := Dk.slice_of h.1
theorem own_set {w : World} {base : Nat} {v : Value} {l : List At} {S : List Nat} (h : Own w base v l S) {a : Addr} (ha : a.block < base) (u : Value) : Own (w.setCell a u) base v l S := ⟨ownsRow_setCell_below h.1 ha u, h.2⟩
def Lim (l : List At) : Prop := l.length <= maxLen
def cost (l : List At) : Nat := l.length
theorem sz_any (w : World) (v : Value) (l : List At) (left : Nat) (hleft : left <= 1073741824) (hl : Lim l) (h : Holds w v l) :
  Calls Tryz.prog 142 #[v, .int .i64 left] w fun e w' => e = .returned (.int .i64 (costOf (cost l) left)) /\ Below w.heap.size w w' := Ae.sz_any w v l left hleft hl h
theorem to_any (w : World) (v : Value) (l : List At) (hc : cost l <= 1073741824) (h : Holds w v l) :
  Calls Tryz.prog 143 #[v] w fun e w' => ∃ v' S, e = .returned v' /\ Own w' w.heap.size v' l S /\ Below w.heap.size w w' :=
 (Ae.to_any w v l hc h).mono fun e w' ⟨v', he, ho, hb⟩ => ⟨v', _, he, ⟨ho, rfl⟩, hb⟩
theorem eq_any (w : World) (va vb : Value) (l : List At) (hc : cost l <= 1073741824) (h : Holds w va l) (h' : Holds w vb l) :
  Calls Tryz.prog 148 #[va, vb] w fun e w' => e = .returned (.bool true) /\ Below w.heap.size w w' := Ae.eq_any w va vb l hc h h'
def marks (k : Nat) (l : List At) : List At := Ae.marks k l.length
def wid (l : List At) : Nat := 3 * l.length
theorem wid_cost (l : List At) : wid l <= 3 * cost l := by unfold cost wid; omega
theorem marks_length (k : Nat) (l : List At) : (marks k l).length = l.length := Ae.marks_length k l.length
theorem mark_any (w : World) (base : Nat) (v : Value) (l : List At) (S : List Nat) (k : Nat) (hk : 1 <= k) (hn : k + wid l <= 1073741824) (h : Own w base v l S) :
  Calls Tryz.prog 108 #[v, .int .i64 k] w fun e w' => e = .returned (.int .i64 (k + wid l : Nat)) /\ Own w' base v (marks k l) S /\ Chg w w' S := by
 obtain ⟨hown, rfl⟩ := h
 refine (Ae.mark_all w base v l.length k l hk hn hown).mono ?_
 rintro e w' ⟨rfl, ho, hg⟩
 exact ⟨by congr 2, ⟨by rw [marks_length]; exact ho, rfl⟩, Chg.of_grown hg⟩
theorem held_any (w : World) (v : Value) (l : List At) (k : Nat) (hk : 1 <= k) (hn : k + wid l <= 1073741824) (h : Holds w v (marks k l)) :
  Calls Tryz.prog 127 #[v, .int .i64 k] w fun e w' => e = .returned (.int .i64 (k + wid l : Nat)) /\ Below w.heap.size w w' := by
 refine (Ae.held_all w v l.length k hk hn h).mono ?_
 rintro e w' ⟨rfl, hb⟩
 exact ⟨by congr 2, hb⟩
theorem in_cell {H : Type} {enc : TypeId × Value -> H} {W : World} {fuel : Nat} {v : Value} {x : DataW H × List MemPlace} (hf : DataW.trod enc Tryz.prog W 0 (fun _ => true) true fuel 109 [v] = some x) :
  ∃ l : List At, Lim l /\ Holds W v l := Ae.ents_of hf
end Go.Proofs.YthppbcnejapbiaaGreatDoor.AeF

-- YthppbcnejapbiaaGreatDoorBx
/- A part. -/
namespace Go.Proofs.YthppbcnejapbiaaGreatDoor.Bx
open Go.ChangeShapes Go.WideShapes Go.ChangeAt Go.RowKit
set_option linter.unusedVariables false
def Bk (w : World) (b : Nat) (cs : Array Value) (t : TypeId) : Prop := w.heap[b]? = some (.cells cs t (0, 0))
theorem new (w : World) (cs : Array Value) (t : TypeId) : Bk (w.alloc (.cells cs t)) w.heap.size cs t := World.alloc_heap_new w _
theorem new_at (w : World) (cs : Array Value) (t : TypeId) (n : Nat) (hn : n = w.heap.size) : Bk (w.alloc (.cells cs t)) n cs t := by subst hn; exact new w cs t
theorem Bk.lt {w : World} {b : Nat} {cs : Array Value} {t : TypeId} (h : Bk w b cs t) : b < w.heap.size := (Array.getElem?_eq_some_iff.1 h).1
theorem Bk.below {w w' : World} {b B : Nat} {cs : Array Value} {t : TypeId} (h : Bk w b cs t) (hb : Below B w w') (hB : b < B) : Bk w' b cs t := (hb.block b hB).trans h
theorem Bk.all {w w' : World} {b : Nat} {cs : Array Value} {t : TypeId} (h : Bk w b cs t) (hb : Below w.heap.size w w') : Bk w' b cs t := h.below hb h.lt
theorem Bk.alloc {w : World} {b : Nat} {cs : Array Value} {t : TypeId} (h : Bk w b cs t) (o : Obj) : Bk (w.alloc o) b cs t := (Below.heap_alloc w o b h.lt).trans h
theorem Bk.grown {w w' : World} {row : Option Nat} {b : Nat} {cs : Array Value} {t : TypeId} (h : Bk w b cs t) (hg : w.grownBy w' row) (hne : some b ≠ row) : Bk w' b cs t := (hg.block b h.lt hne).trans h
theorem Bk.far {w : World} {b : Nat} {cs : Array Value} {t : TypeId} (h : Bk w b cs t) {p : Addr} (hp : b ≠ p.block) (u : Value) : Bk (w.setCell p u) b cs t := (Below.heap_setCell w p u b hp).trans h
theorem Bk.set {w : World} {b : Nat} {cs : Array Value} {t : TypeId} (h : Bk w b cs t) (i : Nat) (u : Value) : Bk (w.setCell ⟨b, i, none⟩ u) b (cs.setIfInBounds i u) t := Joins.block_setCell h u
theorem Bk.put {w : World} {b : Nat} {l : List Value} {t : TypeId} (h : Bk w b l.toArray t) (i : Nat) (u : Value) : Bk (w.setCell ⟨b, i, none⟩ u) b (l.set i u).toArray t := by
 have := h.set i u
 rwa [List.setIfInBounds_toArray] at this
theorem Bk.cell {w : World} {b : Nat} {cs : Array Value} {t : TypeId} (h : Bk w b cs t) (i : Nat) : w.cell? ⟨b, i, none⟩ = cs[i]? := Joins.cell_of_block h i
theorem Bk.free {w : World} {b : Nat} {cs : Array Value} {t : TypeId} (h : Bk w b cs t) (i : Nat) : w.frozen? ⟨b, i, none⟩ = false := Joins.unfrozen_of_block h i
theorem Bk.drew {w : World} {b : Nat} {cs : Array Value} {t : TypeId} (h : Bk w b cs t) : Bk w.drew b cs t := h
theorem Bk.two {w : World} {b : Nat} {x y : Value} {t : TypeId} (h : Bk w b #[x, y] t) : w.cell? ⟨b, 0, none⟩ = some x /\ w.cell? ⟨b, 1, none⟩ = some y := ⟨by rw [h.cell]; rfl, by rw [h.cell]; rfl⟩
theorem Bk.three {w : World} {b : Nat} {x y z : Value} {t : TypeId} (h : Bk w b #[x, y, z] t) : w.cell? ⟨b, 0, none⟩ = some x /\ w.cell? ⟨b, 1, none⟩ = some y /\ w.cell? ⟨b, 2, none⟩ = some z :=
 ⟨by rw [h.cell]; rfl, by rw [h.cell]; rfl, by rw [h.cell]; rfl⟩
theorem Bk.c4 {w : World} {b : Nat} {x0 x1 x2 x3 : Value} {t : TypeId} (h : Bk w b #[x0, x1, x2, x3] t) : w.cell? ⟨b, 0, none⟩ = some x0 /\ w.cell? ⟨b, 1, none⟩ = some x1 /\ w.cell? ⟨b, 2, none⟩ = some x2 /\ w.cell? ⟨b, 3, none⟩ = some x3 := ⟨h.cell 0, h.cell 1, h.cell 2, h.cell 3⟩
theorem Bk.c7 {w : World} {b : Nat} {x0 x1 x2 x3 x4 x5 x6 : Value} {t : TypeId} (h : Bk w b #[x0, x1, x2, x3, x4, x5, x6] t) : w.cell? ⟨b, 0, none⟩ = some x0 /\ w.cell? ⟨b, 1, none⟩ = some x1 /\ w.cell? ⟨b, 2, none⟩ = some x2 /\ w.cell? ⟨b, 3, none⟩ = some x3 /\ w.cell? ⟨b, 4, none⟩ = some x4 /\ w.cell? ⟨b, 5, none⟩ = some x5 /\ w.cell? ⟨b, 6, none⟩ = some x6 := ⟨h.cell 0, h.cell 1, h.cell 2, h.cell 3, h.cell 4, h.cell 5, h.cell 6⟩
theorem Bk.c10 {w : World} {b : Nat} {x0 x1 x2 x3 x4 x5 x6 x7 x8 x9 : Value} {t : TypeId} (h : Bk w b #[x0, x1, x2, x3, x4, x5, x6, x7, x8, x9] t) : w.cell? ⟨b, 0, none⟩ = some x0 /\ w.cell? ⟨b, 1, none⟩ = some x1 /\ w.cell? ⟨b, 2, none⟩ = some x2 /\ w.cell? ⟨b, 3, none⟩ = some x3 /\ w.cell? ⟨b, 4, none⟩ = some x4 /\ w.cell? ⟨b, 5, none⟩ = some x5 /\ w.cell? ⟨b, 6, none⟩ = some x6 /\ w.cell? ⟨b, 7, none⟩ = some x7 /\ w.cell? ⟨b, 8, none⟩ = some x8 /\ w.cell? ⟨b, 9, none⟩ = some x9 := ⟨h.cell 0, h.cell 1, h.cell 2, h.cell 3, h.cell 4, h.cell 5, h.cell 6, h.cell 7, h.cell 8, h.cell 9⟩
end Go.Proofs.YthppbcnejapbiaaGreatDoor.Bx
