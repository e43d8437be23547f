/- Access lists as values: which are valid, their text, their bytes; a valid list is known by either. Plain facts, no condition. -/
import Derived.Test.YtjefefedhhloiaaGreatDoorSplitC
namespace Go.Proofs.YtjefefedhhloiaaGreatDoor.AclV
open SplitAny (cutL parts)
open SplitC (splitC splitC_free splitC_cut parts_eq)
set_option linter.unusedVariables false

/-- An entry: its tag, its id, its perm. -/
abbrev At := Int × Int × Int
def a0 : At := (0, 0, 0)
/-- An entry by itself is valid. -/
def entB (x : At) : Bool := decide (0 ≤ x.2.2) && decide (x.2.2 ≤ 7) && (((decide (x.1 = 1) || decide (x.1 = 2)) && decide (0 ≤ x.2.1) && decide (x.2.1 ≤ 3)) || (decide (x.1 = 3) && decide (x.2.1 = 0)))
/-- x stands before y. -/
def ltB (x y : At) : Bool := decide (x.1 < y.1) || (decide (x.1 = y.1) && decide (x.2.1 < y.2.1))
/-- The first k entries are valid and ascend. -/
def upB (l : List At) (k : Nat) : Bool := (List.range k).all fun i => entB (l.getD i a0) && (i == 0 || ltB (l.getD (i - 1) a0) (l.getD i a0))
def okB (l : List At) : Bool := upB l l.length && (l.isEmpty || (decide (l.length ≤ 6) && decide ((l.getD (l.length - 1) a0).1 = 3)))
theorem upB_succ (l : List At) (k : Nat) : upB l (k + 1) = (upB l k && (entB (l.getD k a0) && (k == 0 || ltB (l.getD (k - 1) a0) (l.getD k a0)))) := by
  simp [upB, List.range_succ]
theorem upB_mono {l : List At} {j k : Nat} (h : upB l k = true) (hjk : j ≤ k) : upB l j = true := by
  unfold upB at *
  rw [List.all_eq_true] at *
  exact fun i hi => h i (by rw [List.mem_range] at *; omega)
theorem up_ent {l : List At} {k i : Nat} (h : upB l k = true) (hi : i < k) : entB (l.getD i a0) = true := by
  have h2 := upB_mono h (show i + 1 ≤ k by omega)
  rw [upB_succ, Bool.and_eq_true, Bool.and_eq_true] at h2
  exact h2.2.1
theorem ok_up {l : List At} (h : okB l = true) : upB l l.length = true := by
  unfold okB at h; rw [Bool.and_eq_true] at h; exact h.1
theorem ok_len {l : List At} (h : okB l = true) : l.length ≤ 6 := by
  unfold okB at h
  rw [Bool.and_eq_true] at h
  cases l with
  | nil => simp
  | cons a l => simpa using (by simpa using h.2 : _ ∧ _).1
theorem ok_ent {l : List At} (h : okB l = true) : ∀ x ∈ l, entB x = true := by
  intro x hx
  obtain ⟨i, hi, rfl⟩ := List.mem_iff_getElem.1 hx
  have := up_ent (ok_up h) hi
  rwa [List.getD_eq_getElem?_getD, List.getElem?_eq_getElem hi] at this
theorem ent_facts {x : At} (h : entB x = true) : 0 ≤ x.2.2 ∧ x.2.2 ≤ 7 ∧ 1 ≤ x.1 ∧ x.1 ≤ 3 ∧ 0 ≤ x.2.1 ∧ x.2.1 ≤ 3 := by
  simp only [entB, Bool.and_eq_true, Bool.or_eq_true, decide_eq_true_eq] at h
  omega

/-- The letter of a tag. -/
def tagC (t : Int) : UInt8 := if t = 1 then 117 else if t = 2 then 103 else 109
def digC (n : Int) : UInt8 := UInt8.ofNat (48 + n.toNat)
/-- The text of an entry. -/
def entL (x : At) : List UInt8 := [tagC x.1, digC x.2.1, 58, digC x.2.2]
/-- The texts of the entries, separated by commas. -/
def fmtL : List At → List UInt8
  | [] => []
  | [x] => entL x
  | x :: y :: l => entL x ++ 44 :: fmtL (y :: l)
/-- The text of a list. -/
def formatV (l : List At) : ByteArray := if okB l = true then (if l = [] then ⟨#[45]⟩ else ⟨(fmtL l).toArray⟩) else ⟨#[]⟩
theorem fmtL_cons (x : At) (l : List At) (h : l ≠ []) : fmtL (x :: l) = entL x ++ 44 :: fmtL l := by
  cases l with
  | nil => exact absurd rfl h
  | cons y l => rfl
theorem fmtL_len (l : List At) (h : l ≠ []) : (fmtL l).length + 1 = 5 * l.length := by
  induction l with
  | nil => exact absurd rfl h
  | cons x l ih =>
    cases l with
    | nil => simp [fmtL, entL]
    | cons y l =>
      have := ih (by simp)
      rw [fmtL_cons x _ (by simp), List.length_append, List.length_cons, List.length_cons]
      simp only [entL, List.length_cons, List.length_nil] at *
      omega
theorem digC_inj {a b : Int} (ha : 0 ≤ a) (ha' : a ≤ 9) (hb : 0 ≤ b) (hb' : b ≤ 9) (h : digC a = digC b) : a = b := by
  have := congrArg UInt8.toNat h
  simp only [digC, UInt8.toNat_ofNat'] at this
  omega
theorem tagC_inj {a b : Int} (ha : 1 ≤ a) (ha' : a ≤ 3) (hb : 1 ≤ b) (hb' : b ≤ 3) (h : tagC a = tagC b) : a = b := by
  unfold tagC at h
  have e : a = 1 ∨ a = 2 ∨ a = 3 := by omega
  have f : b = 1 ∨ b = 2 ∨ b = 3 := by omega
  rcases e with rfl | rfl | rfl <;> rcases f with rfl | rfl | rfl <;> first | rfl | exact absurd h (by decide)
theorem entL_inj {x y : At} (hx : entB x = true) (hy : entB y = true) (h : entL x = entL y) : x = y := by
  have fx := ent_facts hx
  have fy := ent_facts hy
  simp only [entL, List.cons.injEq, and_true, true_and] at h
  obtain ⟨x1, x2, x3⟩ := x
  obtain ⟨y1, y2, y3⟩ := y
  dsimp only at *
  have e1 := tagC_inj fx.2.2.1 fx.2.2.2.1 fy.2.2.1 fy.2.2.2.1 h.1
  have e2 := digC_inj fx.2.2.2.2.1 (by omega) fy.2.2.2.2.1 (by omega) h.2.1
  have e3 := digC_inj fx.1 (by omega) fy.1 (by omega) h.2.2
  rw [e1, e2, e3]
theorem fmtL_inj : ∀ (l m : List At), l ≠ [] → m ≠ [] → (∀ x ∈ l, entB x = true) → (∀ x ∈ m, entB x = true) → fmtL l = fmtL m → l = m
  | [], _, h, _, _, _, _ => absurd rfl h
  | _ :: _, [], _, h, _, _, _ => absurd rfl h
  | x :: l, y :: m, _, _, hl, hm, h => by
    have e := fmtL_len (x :: l) (by simp)
    have f := fmtL_len (y :: m) (by simp)
    rw [h] at e
    have hlen : l.length = m.length := by simp only [List.length_cons] at e f; omega
    cases l with
    | nil =>
      obtain rfl : m = [] := List.eq_nil_of_length_eq_zero hlen.symm
      rw [entL_inj (hl x (by simp)) (hm y (by simp)) h]
    | cons a l =>
      cases m with
      | nil => simp at hlen
      | cons b m =>
        rw [fmtL_cons x _ (by simp), fmtL_cons y _ (by simp)] at h
        obtain ⟨h1, h2⟩ := List.append_inj h (by simp [entL])
        rw [entL_inj (hl x (by simp)) (hm y (by simp)) h1, fmtL_inj (a :: l) (b :: m) (by simp) (by simp) (fun z hz => hl z (by simp [hz])) (fun z hz => hm z (by simp [hz])) (by simpa using h2)]
/-- A valid list is known by its text. -/
theorem format_inj {l m : List At} (hl : okB l = true) (hm : okB m = true) (h : formatV l = formatV m) : l = m := by
  unfold formatV at h
  rw [if_pos hl, if_pos hm] at h
  by_cases el : l = []
  · by_cases em : m = []
    · rw [el, em]
    · rw [if_pos el, if_neg em] at h
      have h2 := congrArg (fun b : ByteArray => b.data.toList.length) h
      have := fmtL_len m em
      have hm1 : 1 ≤ m.length := by cases m with | nil => exact absurd rfl em | cons _ _ => simp
      simp at h2
      omega
  · by_cases em : m = []
    · rw [if_neg el, if_pos em] at h
      have h2 := congrArg (fun b : ByteArray => b.data.toList.length) h
      have := fmtL_len l el
      have hl1 : 1 ≤ l.length := by cases l with | nil => exact absurd rfl el | cons _ _ => simp
      simp at h2
      omega
    · rw [if_neg el, if_neg em] at h
      have h2 := congrArg (fun b : ByteArray => b.data.toList) h
      exact fmtL_inj l m el em (ok_ent hl) (ok_ent hm) (by simpa using h2)
theorem format_ne {l : List At} (hl : okB l = true) : formatV l ≠ ⟨#[]⟩ := by
  unfold formatV
  rw [if_pos hl]
  by_cases el : l = []
  · rw [if_pos el]
    intro h
    have h2 := congrArg (fun b : ByteArray => b.data.toList.length) h
    simp at h2
  · rw [if_neg el]
    intro h
    have h2 : (fmtL l).length = 0 := congrArg (fun b : ByteArray => b.data.toList.length) h
    have := fmtL_len l el
    have hl1 : 1 ≤ l.length := by cases l with | nil => exact absurd rfl el | cons _ _ => simp
    omega

open Classical in
/-- The list whose text is t. -/
noncomputable def parseV (t : ByteArray) : Option (List At) := if h : ∃ l, okB l = true ∧ formatV l = t then some h.choose else none
theorem parse_of {l : List At} (h : okB l = true) : parseV (formatV l) = some l := by
  unfold parseV
  have hx : ∃ m, okB m = true ∧ formatV m = formatV l := ⟨l, h, rfl⟩
  rw [dif_pos hx]
  exact congrArg some (format_inj hx.choose_spec.1 h hx.choose_spec.2)
theorem parse_none {t : ByteArray} (h : ∀ l, okB l = true → formatV l ≠ t) : parseV t = none := by
  unfold parseV
  rw [dif_neg]
  rintro ⟨l, hl, e⟩
  exact h l hl e

/-- The bytes of the entries. -/
def by1 (n : Int) : UInt8 := UInt8.ofNat n.toNat
def tripL (l : List At) : List UInt8 := l.flatMap fun x => [by1 x.1, by1 x.2.1, by1 x.2.2]
/-- The bytes of a list: how many, the entries, zeros up to 19. -/
def packL (l : List At) : List UInt8 := by1 l.length :: tripL l ++ List.replicate (18 - 3 * l.length) 0
def packV (l : List At) : ByteArray := if okB l = true then ⟨(packL l).toArray⟩ else ⟨#[]⟩
theorem tripL_len (l : List At) : (tripL l).length = 3 * l.length := by
  induction l with
  | nil => rfl
  | cons x l ih => rw [tripL, List.flatMap_cons, List.length_append, ← tripL, ih]; simp; omega
theorem packL_len {l : List At} (h : l.length ≤ 6) : (packL l).length = 19 := by
  simp only [packL, List.length_append, List.length_cons, tripL_len, List.length_replicate]; omega
theorem by1_inj {a b : Int} (ha : 0 ≤ a) (ha' : a ≤ 255) (hb : 0 ≤ b) (hb' : b ≤ 255) (h : by1 a = by1 b) : a = b := by
  have := congrArg UInt8.toNat h
  simp only [by1, UInt8.toNat_ofNat'] at this
  omega
theorem tripL_inj : ∀ (l m : List At), l.length = m.length → (∀ x ∈ l, entB x = true) → (∀ x ∈ m, entB x = true) → tripL l = tripL m → l = m
  | [], [], _, _, _, _ => rfl
  | [], _ :: _, h, _, _, _ => by simp at h
  | _ :: _, [], h, _, _, _ => by simp at h
  | x :: l, y :: m, hlen, hl, hm, h => by
    simp only [tripL, List.flatMap_cons, List.cons_append, List.nil_append, List.cons.injEq] at h
    have fx := ent_facts (hl x (by simp))
    have fy := ent_facts (hm y (by simp))
    obtain ⟨x1, x2, x3⟩ := x
    obtain ⟨y1, y2, y3⟩ := y
    dsimp only at *
    have e1 := by1_inj (by omega) (by omega) (by omega) (by omega) h.1
    have e2 := by1_inj (by omega) (by omega) (by omega) (by omega) h.2.1
    have e3 := by1_inj (by omega) (by omega) (by omega) (by omega) h.2.2.1
    rw [e1, e2, e3, tripL_inj l m (by simpa using hlen) (fun z hz => hl z (by simp [hz])) (fun z hz => hm z (by simp [hz])) h.2.2.2]
/-- A valid list is known by its bytes. -/
theorem pack_inj {l m : List At} (hl : okB l = true) (hm : okB m = true) (h : packV l = packV m) : l = m := by
  unfold packV at h
  rw [if_pos hl, if_pos hm] at h
  have h2 : packL l = packL m := by simpa using congrArg (fun b : ByteArray => b.data.toList) h
  have a6 := ok_len hl
  have b6 := ok_len hm
  unfold packL at h2
  rw [List.cons_append, List.cons_append, List.cons.injEq] at h2
  have hn := by1_inj (by omega) (by omega) (by omega) (by omega) h2.1
  have hlen : l.length = m.length := by omega
  have h3 := (List.append_inj h2.2 (by rw [tripL_len, tripL_len, hlen])).1
  exact tripL_inj l m hlen (ok_ent hl) (ok_ent hm) h3
theorem pack_size {l : List At} (hl : okB l = true) : (packV l).size = 19 := by
  unfold packV
  rw [if_pos hl]
  show (packL l).toArray.size = 19
  rw [List.size_toArray, packL_len (ok_len hl)]
open Classical in
/-- The list whose bytes are s. -/
noncomputable def unpackV (s : ByteArray) : Option (List At) := if h : ∃ l, okB l = true ∧ packV l = s then some h.choose else none
theorem unpack_of {l : List At} (h : okB l = true) : unpackV (packV l) = some l := by
  unfold unpackV
  have hx : ∃ m, okB m = true ∧ packV m = packV l := ⟨l, h, rfl⟩
  rw [dif_pos hx]
  exact congrArg some (pack_inj hx.choose_spec.1 h hx.choose_spec.2)
theorem unpack_none {s : ByteArray} (h : ∀ l, okB l = true → packV l ≠ s) : unpackV s = none := by
  unfold unpackV
  rw [dif_neg]
  rintro ⟨l, hl, e⟩
  exact h l hl e

/-- Perm of the first entry with this tag and id. -/
def permV (l : List At) (t i : Int) : Int × Bool := match l.find? fun x => decide (x.1 = t) && decide (x.2.1 = i) with
  | some x => (x.2.2, true)
  | none => (0, false)
def maskV (l : List At) : Int := match l.find? fun x => decide (x.1 = 3) with
  | some x => x.2.2
  | none => 7
theorem find_none (l : List At) (p : At → Bool) (k : Nat) (hk : k ≤ l.length) (h : ∀ i, i < k → p (l.getD i a0) = false) : (l.take k).find? p = none := by
  rw [List.find?_eq_none]
  intro x hx
  obtain ⟨i, hi, rfl⟩ := List.mem_iff_getElem.1 hx
  have hi2 : i < k := by rw [List.length_take] at hi; omega
  have := h i hi2
  rw [List.getD_eq_getElem?_getD, List.getElem?_eq_getElem (by omega)] at this
  simpa using this
theorem find_at (l : List At) (p : At → Bool) (k : Nat) (hk : k < l.length) (h : ∀ i, i < k → p (l.getD i a0) = false) (hp : p (l.getD k a0) = true) : l.find? p = some (l.getD k a0) := by
  have e : l = l.take k ++ (l.getD k a0 :: l.drop (k + 1)) := by
    rw [List.getD_eq_getElem?_getD, List.getElem?_eq_getElem hk]
    simp
  rw [e, List.find?_append, find_none l p k (by omega) h, Option.none_or]
  have hx : (l.take k ++ (l.getD k a0 :: l.drop (k + 1))).getD k a0 = l.getD k a0 := by rw [← e]
  rw [hx, List.find?_cons, hp]

/-- A text of one valid entry holds no comma, and one colon. -/
theorem digC_toNat {n : Int} (h0 : 0 ≤ n) (h9 : n ≤ 9) : (digC n).toNat = 48 + n.toNat := by
  simp only [digC, UInt8.toNat_ofNat']
  omega
theorem digC_ne {n : Int} (h0 : 0 ≤ n) (h9 : n ≤ 9) (c : UInt8) (hc : c.toNat < 48 ∨ 57 < c.toNat) : digC n ≠ c := by
  intro e
  have := digC_toNat h0 h9
  rw [e] at this
  omega
theorem tagC_ne (t : Int) (c : UInt8) (hc : c.toNat < 103) : tagC t ≠ c := by
  intro e
  unfold tagC at e
  split at e
  · subst e; exact absurd hc (by decide)
  · split at e
    · subst e; exact absurd hc (by decide)
    · subst e; exact absurd hc (by decide)
theorem ent_comma {x : At} (h : entB x = true) : ∀ c ∈ entL x, ([44] : List UInt8).contains c = false := by
  have f := ent_facts h
  have h1 := tagC_ne x.1 44 (by decide)
  have h2 := digC_ne f.2.2.2.2.1 (by omega) 44 (by decide)
  have h3 := digC_ne f.1 (by omega) 44 (by decide)
  intro c hc
  simp only [entL, List.mem_cons, List.not_mem_nil, or_false] at hc
  rcases hc with rfl | rfl | rfl | rfl
  · simpa using h1
  · simpa using h2
  · decide
  · simpa using h3
theorem split_fmt : ∀ (l : List At), l ≠ [] → (∀ x ∈ l, entB x = true) → splitC (([44] : List UInt8).contains ·) (fmtL l) = l.map entL
  | [], h, _ => absurd rfl h
  | [x], _, he => splitC_free _ _ (ent_comma (he x (by simp)))
  | x :: y :: l, _, he => by
    rw [fmtL_cons x _ (by simp), splitC_cut _ _ _ _ (ent_comma (he x (by simp))) (by decide), split_fmt (y :: l) (by simp) (fun z hz => he z (by simp [hz]))]
    rfl
theorem split_ent {x : At} (h : entB x = true) : splitC (([58] : List UInt8).contains ·) (entL x) = [[tagC x.1, digC x.2.1], [digC x.2.2]] := by
  have f := ent_facts h
  have h1 := tagC_ne x.1 58 (by decide)
  have h2 := digC_ne f.2.2.2.2.1 (by omega) 58 (by decide)
  have h3 := digC_ne f.1 (by omega) 58 (by decide)
  have e : entL x = [tagC x.1, digC x.2.1] ++ 58 :: [digC x.2.2] := rfl
  rw [e, splitC_cut _ _ _ _ (by
    intro c hc
    simp only [List.mem_cons, List.not_mem_nil, or_false] at hc
    rcases hc with rfl | rfl
    · simpa using h1
    · simpa using h2) (by decide), splitC_free _ _ (by
    intro c hc
    simp only [List.mem_cons, List.not_mem_nil, or_false] at hc
    subst hc
    simpa using h3)]
/-- The program's parts of a list's text, at its commas; of an entry's text, at its colon. -/
theorem parts_fmt {l : List At} (hl : okB l = true) (h : l ≠ []) : parts (formatV l) ⟨#[44]⟩ = l.map fun x => ⟨(entL x).toArray⟩ := by
  rw [parts_eq, formatV, if_pos hl, if_neg h]
  show (splitC (([44] : List UInt8).contains ·) (fmtL l).toArray.toList).map _ = _
  rw [List.toList_toArray, split_fmt l h (ok_ent hl), List.map_map]
  rfl
theorem parts_ent {x : At} (h : entB x = true) : parts ⟨(entL x).toArray⟩ ⟨#[58]⟩ = [⟨#[tagC x.1, digC x.2.1]⟩, ⟨#[digC x.2.2]⟩] := by
  rw [parts_eq]
  show (splitC (([58] : List UInt8).contains ·) (entL x).toArray.toList).map _ = _
  rw [List.toList_toArray, split_ent h]
  rfl
/-- What n triples of bytes behind the first byte spell. -/
def tripV (s : ByteArray) (n : Nat) : List At := (List.range n).map fun i => (((s.data.toList.getD (3 * i + 1) 0).toNat : Int), ((s.data.toList.getD (3 * i + 2) 0).toNat : Int), ((s.data.toList.getD (3 * i + 3) 0).toNat : Int))
theorem tripV_length (s : ByteArray) (n : Nat) : (tripV s n).length = n := by simp [tripV]
theorem tripV_succ (s : ByteArray) (n : Nat) : tripV s (n + 1) = tripV s n ++ [(((s.data.toList.getD (3 * n + 1) 0).toNat : Int), ((s.data.toList.getD (3 * n + 2) 0).toNat : Int), ((s.data.toList.getD (3 * n + 3) 0).toNat : Int))] := by
  simp [tripV, List.range_succ]
theorem by1_toNat {n : Int} (h0 : 0 ≤ n) (h : n ≤ 255) : ((by1 n).toNat : Int) = n := by
  simp only [by1, UInt8.toNat_ofNat']
  omega
theorem tripL_at (l : List At) (r : List UInt8) (i : Nat) (h : i < l.length) :
    (tripL l ++ r).getD (3 * i) 0 = by1 (l.getD i a0).1 ∧ (tripL l ++ r).getD (3 * i + 1) 0 = by1 (l.getD i a0).2.1 ∧ (tripL l ++ r).getD (3 * i + 2) 0 = by1 (l.getD i a0).2.2 := by
  have e : l = l.take i ++ (l.getD i a0 :: l.drop (i + 1)) := by
    rw [List.getD_eq_getElem?_getD, List.getElem?_eq_getElem h]
    simp
  generalize l.getD i a0 = x at e
  have e2 : tripL l ++ r = tripL (l.take i) ++ ([by1 x.1, by1 x.2.1, by1 x.2.2] ++ (tripL (l.drop (i + 1)) ++ r)) := by
    conv => lhs; rw [e]
    simp [tripL]
  have hl : (tripL (l.take i)).length = 3 * i := by rw [tripL_len, List.length_take, Nat.min_eq_left (Nat.le_of_lt h)]
  rw [e2]
  refine ⟨?_, ?_, ?_⟩ <;> rw [List.getD_eq_getElem?_getD, List.getElem?_append_right (by omega), hl] <;> simp
/-- A valid list's bytes spell it. -/
theorem trip_pack {l : List At} (hl : okB l = true) : tripV (packV l) l.length = l := by
  have h6 := ok_len hl
  have hd : (packV l).data.toList = packL l := by
    rw [packV, if_pos hl]
  apply List.ext_getElem (by rw [tripV_length])
  intro i h1 h2
  have hx := ok_ent hl l[i] (List.getElem_mem h2)
  have f := ent_facts hx
  have eg : l.getD i a0 = l[i] := by rw [List.getD_eq_getElem?_getD, List.getElem?_eq_getElem h2]; rfl
  obtain ⟨t1, t2, t3⟩ := tripL_at l (List.replicate (18 - 3 * l.length) 0) i h2
  rw [eg] at t1 t2 t3
  simp only [tripV, List.getElem_map, List.getElem_range, hd]
  have c : ∀ j, (packL l).getD (j + 1) 0 = (tripL l ++ List.replicate (18 - 3 * l.length) 0).getD j 0 := fun j => rfl
  rw [show 3 * i + 2 = (3 * i + 1) + 1 from rfl, show 3 * i + 3 = (3 * i + 2) + 1 from rfl, c, c, c, t1, t2, t3, by1_toNat (by omega) (by omega), by1_toNat (by omega) (by omega), by1_toNat (by omega) (by omega)]
theorem pack_first {l : List At} (hl : okB l = true) : ((packV l).data.toList.getD 0 0).toNat = l.length := by
  have h6 := ok_len hl
  have hd : (packV l).data.toList = packL l := by
    rw [packV, if_pos hl]
  rw [hd]
  have := by1_toNat (n := (l.length : Int)) (by omega) (by omega)
  show (by1 l.length).toNat = l.length
  omega
/-- Unpacking: what the bytes spell, if its bytes they are. -/
theorem unpack_eq (s : ByteArray) (n : Nat) (hn : n = (s.data.toList.getD 0 0).toNat ∨ (n = 6 ∧ 6 ≤ (s.data.toList.getD 0 0).toNat)) :
    unpackV s = if okB (tripV s n) = true ∧ packV (tripV s n) = s then some (tripV s n) else none := by
  by_cases h : okB (tripV s n) = true ∧ packV (tripV s n) = s
  · rw [if_pos h]
    have := unpack_of h.1
    rw [h.2] at this
    exact this
  · rw [if_neg h]
    refine unpack_none fun l hl e => h ?_
    have h1 := pack_first hl
    have h6 := ok_len hl
    rw [e] at h1
    have hnl : n = l.length := by omega
    have h2 := trip_pack hl
    rw [e, ← hnl] at h2
    rw [h2]
    exact ⟨hl, e⟩
/-- Parsing: what a candidate gives, if every valid list of this text is it. -/
theorem parse_by {t : ByteArray} {out : List At} (H : ∀ l, okB l = true → formatV l = t → out = l) :
    parseV t = if okB out = true ∧ formatV out = t then some out else none := by
  by_cases h : okB out = true ∧ formatV out = t
  · rw [if_pos h]
    have := parse_of h.1
    rw [h.2] at this
    exact this
  · rw [if_neg h]
    refine parse_none fun l hl e => h ?_
    rw [H l hl e]
    exact ⟨hl, e⟩
end Go.Proofs.YtjefefedhhloiaaGreatDoor.AclV
