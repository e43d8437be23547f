/- Access lists as values: which are valid, their text, their bytes; a valid list is known by either. Plain facts, no condition. -/
import Derived.Test.YthppbcnejapbiaaGreatDoorSplitC
namespace Go.Proofs.YthppbcnejapbiaaGreatDoor.AclV
open SplitAny (cutL parts)
open SplitC (splitC splitC_free splitC_cut parts_eq)
set_option linter.unusedVariables false

/-- An entry: its tag, its id, its perm. -/
abbrev At := Int × Int × Int
def a0 : At := (0, 0, 0)
/-- An entry by itself is valid. -/
def entB (x : At) : Bool := decide (0 ≤ x.2.2) && decide (x.2.2 ≤ 7) && (((decide (x.1 = 1) || decide (x.1 = 2)) && decide (0 ≤ x.2.1) && decide (x.2.1 ≤ 3)) || (decide (x.1 = 3) && decide (x.2.1 = 0)))
/-- x stands before y. -/
def ltB (x y : At) : Bool := decide (x.1 < y.1) || (decide (x.1 = y.1) && decide (x.2.1 < y.2.1))
/-- The first k entries are valid and ascend. -/
def upB (l : List At) (k : Nat) : Bool := (List.range k).all fun i => entB (l.getD i a0) && (i == 0 || ltB (l.getD (i - 1) a0) (l.getD i a0))
def okB (l : List At) : Bool := upB l l.length && (l.isEmpty || (decide (l.length ≤ 6) && decide ((l.getD (l.length - 1) a0).1 = 3)))
theorem upB_succ (l : List At) (k : Nat) : upB l (k + 1) = (upB l k && (entB (l.getD k a0) && (k == 0 || ltB (l.getD (k - 1) a0) (l.getD k a0)))) := by
  simp [upB, List.range_succ]
theorem upB_mono {l : List At} {j k : Nat} (h : upB l k = true) (hjk : j ≤ k) : upB l j = true := by
  unfold upB at *
  rw [List.all_eq_true] at *
  exact fun i hi => h i (by rw [List.mem_range] at *; omega)
theorem up_ent {l : List At} {k i : Nat} (h : upB l k = true) (hi : i < k) : entB (l.getD i a0) = true := by
  have h2 := upB_mono h (show i + 1 ≤ k by omega)
  rw [upB_succ, Bool.and_eq_true, Bool.and_eq_true] at h2
  exact h2.2.1
theorem ok_up {l : List At} (h : okB l = true) : upB l l.length = true := by
  unfold okB at h; rw [Bool.and_eq_true] at h; exact h.1
theorem ok_len {l : List At} (h : okB l = true) : l.length ≤ 6 := by
  unfold okB at h
  rw [Bool.and_eq_true] at h
  cases l with
  | nil => simp
  | cons a l => simpa using (by simpa using h.2 : _ ∧ _).1
theorem ok_ent {l : List At} (h : okB l = true) : ∀ x ∈ l, entB x = true := by
  intro x hx
  obtain ⟨i, hi, rfl⟩ := List.mem_iff_getElem.1 hx
  have := up_ent (ok_up h) hi
  rwa [List.getD_eq_getElem?_getD, List.getElem?_eq_getElem hi] at this
theorem ent_facts {x : At} (h : entB x = true) : 0 ≤ x.2.2 ∧ x.2.2 ≤ 7 ∧ 1 ≤ x.1 ∧ x.1 ≤ 3 ∧ 0 ≤ x.2.1 ∧ x.2.1 ≤ 3 := by
  simp only [entB, Bool.and_eq_true, Bool.or_eq_true, decide_eq_true_eq] at h
  omega

/-- The bytes of the entries. -/
def by1 (n : Int) : UInt8 := UInt8.ofNat n.toNat
def tripL (l : List At) : List UInt8 := l.flatMap fun x => [by1 x.1, by1 x.2.1, by1 x.2.2]
/-- The bytes of a list: how many, the entries, zeros up to 19. -/
def packL (l : List At) : List UInt8 := by1 l.length :: tripL l ++ List.replicate (18 - 3 * l.length) 0
def packV (l : List At) : ByteArray := if okB l = true then ⟨(packL l).toArray⟩ else ⟨#[]⟩
theorem tripL_len (l : List At) : (tripL l).length = 3 * l.length := by
  induction l with
  | nil => rfl
  | cons x l ih => rw [tripL, List.flatMap_cons, List.length_append, ← tripL, ih]; simp; omega
theorem packL_len {l : List At} (h : l.length ≤ 6) : (packL l).length = 19 := by
  simp only [packL, List.length_append, List.length_cons, tripL_len, List.length_replicate]; omega
theorem by1_inj {a b : Int} (ha : 0 ≤ a) (ha' : a ≤ 255) (hb : 0 ≤ b) (hb' : b ≤ 255) (h : by1 a = by1 b) : a = b := by
  have := congrArg UInt8.toNat h
  simp only [by1, UInt8.toNat_ofNat'] at this
  omega
theorem tripL_inj : ∀ (l m : List At), l.length = m.length → (∀ x ∈ l, entB x = true) → (∀ x ∈ m, entB x = true) → tripL l = tripL m → l = m
  | [], [], _, _, _, _ => rfl
  | [], _ :: _, h, _, _, _ => by simp at h
  | _ :: _, [], h, _, _, _ => by simp at h
  | x :: l, y :: m, hlen, hl, hm, h => by
    simp only [tripL, List.flatMap_cons, List.cons_append, List.nil_append, List.cons.injEq] at h
    have fx := ent_facts (hl x (by simp))
    have fy := ent_facts (hm y (by simp))
    obtain ⟨x1, x2, x3⟩ := x
    obtain ⟨y1, y2, y3⟩ := y
    dsimp only at *
    have e1 := by1_inj (by omega) (by omega) (by omega) (by omega) h.1
    have e2 := by1_inj (by omega) (by omega) (by omega) (by omega) h.2.1
    have e3 := by1_inj (by omega) (by omega) (by omega) (by omega) h.2.2.1
    rw [e1, e2, e3, tripL_inj l m (by simpa using hlen) (fun z hz => hl z (by simp [hz])) (fun z hz => hm z (by simp [hz])) h.2.2.2]
/-- A valid list is known by its bytes. -/
theorem pack_inj {l m : List At} (hl : okB l = true) (hm : okB m = true) (h : packV l = packV m) : l = m := by
  unfold packV at h
  rw [if_pos hl, if_pos hm] at h
  have h2 : packL l = packL m := by simpa using congrArg (fun b : ByteArray => b.data.toList) h
  have a6 := ok_len hl
  have b6 := ok_len hm
  unfold packL at h2
  rw [List.cons_append, List.cons_append, List.cons.injEq] at h2
  have hn := by1_inj (by omega) (by omega) (by omega) (by omega) h2.1
  have hlen : l.length = m.length := by omega
  have h3 := (List.append_inj h2.2 (by rw [tripL_len, tripL_len, hlen])).1
  exact tripL_inj l m hlen (ok_ent hl) (ok_ent hm) h3
theorem pack_size {l : List At} (hl : okB l = true) : (packV l).size = 19 := by
  unfold packV
  rw [if_pos hl]
  show (packL l).toArray.size = 19
  rw [List.size_toArray, packL_len (ok_len hl)]
open Classical in
/-- The list whose bytes are s. -/
noncomputable def unpackV (s : ByteArray) : Option (List At) := if h : ∃ l, okB l = true ∧ packV l = s then some h.choose else none
theorem unpack_of {l : List At} (h : okB l = true) : unpackV (packV l) = some l := by
  unfold unpackV
  have hx : ∃ m, okB m = true ∧ packV m = packV l := ⟨l, h, rfl⟩
  rw [dif_pos hx]
  exact congrArg some (pack_inj hx.choose_spec.1 h hx.choose_spec.2)
/-- Perm of the first entry with this tag and id. -/
def permV (l : List At) (t i : Int) : Int × Bool := match l.find? fun x => decide (x.1 = t) && decide (x.2.1 = i) with
  | some x => (x.2.2, true)
  | none => (0, false)
def maskV (l : List At) : Int := match l.find? fun x => decide (x.1 = 3) with
  | some x => x.2.2
  | none => 7
theorem find_none (l : List At) (p : At → Bool) (k : Nat) (hk : k ≤ l.length) (h : ∀ i, i < k → p (l.getD i a0) = false) : (l.take k).find? p = none := by
  rw [List.find?_eq_none]
  intro x hx
  obtain ⟨i, hi, rfl⟩ := List.mem_iff_getElem.1 hx
  have hi2 : i < k := by rw [List.length_take] at hi; omega
  have := h i hi2
  rw [List.getD_eq_getElem?_getD, List.getElem?_eq_getElem (by omega)] at this
  simpa using this
theorem find_at (l : List At) (p : At → Bool) (k : Nat) (hk : k < l.length) (h : ∀ i, i < k → p (l.getD i a0) = false) (hp : p (l.getD k a0) = true) : l.find? p = some (l.getD k a0) := by
  have e : l = l.take k ++ (l.getD k a0 :: l.drop (k + 1)) := by
    rw [List.getD_eq_getElem?_getD, List.getElem?_eq_getElem hk]
    simp
  rw [e, List.find?_append, find_none l p k (by omega) h, Option.none_or]
  have hx : (l.take k ++ (l.getD k a0 :: l.drop (k + 1))).getD k a0 = l.getD k a0 := by rw [← e]
  rw [hx, List.find?_cons, hp]

end Go.Proofs.YthppbcnejapbiaaGreatDoor.AclV
