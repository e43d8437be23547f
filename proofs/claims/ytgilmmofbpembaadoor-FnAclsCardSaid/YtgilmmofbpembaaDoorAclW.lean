/- What a word of an access list's text says, as the program reads it and as the model reads it; a text is parsed word by word. Plain facts, no condition. -/
import Derived.Test.YtgilmmofbpembaaDoorAclP
import Derived.Test.YtgilmmofbpembaaDoorParseInt
import Derived.Test.YtgilmmofbpembaaDoorAclU
import Derived.Lib.IndexLaws
namespace Go.Proofs.YtgilmmofbpembaaDoor.AclW
open Go
open AclV AclP
open SplitAny (parts)
open ParseInt (parseP parse_yes Spells)
set_option linter.unusedVariables false

theorem dig_parse {n : Int} (h0 : 0 ≤ n) (h9 : n ≤ 9) : parseP ⟨#[digC n]⟩ = (n, true) :=
  parse_yes ⟨⟨by omega, by omega⟩, itoa_dig h0 h9⟩
/-- The place of the first colon, -1 if there is none. -/
def colI (x : ByteArray) : Int := Lib.indexByte x.data.toList 58
theorem idx_range (l : List UInt8) (c : UInt8) : Lib.indexByte l c = -1 ∨ ∃ m : Nat, Lib.indexByte l c = (m : Int) ∧ m < l.length := by
  induction l with
  | nil => exact .inl rfl
  | cons b l ih =>
    rw [Lib.indexByte]
    by_cases h : (b == c) = true
    · rw [if_pos h]; exact .inr ⟨0, rfl, by simp⟩
    · rw [if_neg h]
      rcases ih with hn | ⟨m, hm, hl⟩
      · rw [hn]; exact .inl rfl
      · rw [hm, if_neg (by first | (simp; done) | (simp; omega))]
        exact .inr ⟨m + 1, by omega, by simp; omega⟩
theorem col_range (x : ByteArray) : colI x = -1 ∨ ∃ m : Nat, colI x = (m : Int) ∧ m < x.size := by
  have := idx_range x.data.toList 58
  rw [Array.length_toList] at this
  exact this
/-- What stands before the first colon, what stands behind it. -/
def cutN (x : ByteArray) : ByteArray := if colI x = -1 then x else x.extract 0 (colI x).toNat
def cutR (x : ByteArray) : ByteArray := if colI x = -1 then ⟨#[]⟩ else x.extract ((colI x).toNat + 1) x.size
theorem cutN_size (x : ByteArray) : (cutN x).size ≤ x.size := by
  unfold cutN
  split
  · exact Nat.le_refl _
  · rw [ByteArray.size_extract]; omega
theorem cutR_size (x : ByteArray) : (cutR x).size ≤ x.size := by
  unfold cutR
  split
  · exact Nat.zero_le _
  · rw [ByteArray.size_extract]; omega
/-- The tag of a letter: the program's, the model's. -/
def tagI (c : UInt8) : Int := 1 + Lib.indexByte [117, 103, 109] c
theorem tagI_range (c : UInt8) : 0 ≤ tagI c ∧ tagI c ≤ 3 := by
  unfold tagI
  rcases idx_range [117, 103, 109] c with h | ⟨m, h, hl⟩
  · omega
  · simp at hl; omega
def tagS (c : UInt8) : Int := if c = 117 then 1 else if c = 103 then 2 else if c = 109 then 3 else 0
theorem tagI_tag {t : Int} (h1 : 1 ≤ t) (h3 : t ≤ 3) : tagI (tagC t) = t := by
  have e : t = 1 ∨ t = 2 ∨ t = 3 := by omega
  rcases e with rfl | rfl | rfl <;> decide
theorem tagS_tag {t : Int} (h1 : 1 ≤ t) (h3 : t ≤ 3) : tagS (tagC t) = t := by
  have e : t = 1 ∨ t = 2 ∨ t = 3 := by omega
  rcases e with rfl | rfl | rfl <;> decide
/-- A word as the program reads it. -/
noncomputable def wordI (x : ByteArray) : Option At :=
  if (cutN x).size = 0 then none
  else if ((parseP ((cutN x).extract 1 (cutN x).size)).2 && (parseP (cutR x)).2) = true then some (tagI ((cutN x).data.toList.getD 0 0), (parseP ((cutN x).extract 1 (cutN x).size)).1, (parseP (cutR x)).1)
  else none
/-- A word as the model reads it. -/
noncomputable def wordS (x : ByteArray) : Option At :=
  if (parts x ⟨#[58]⟩).length = 2 ∧ 2 ≤ ((parts x ⟨#[58]⟩).getD 0 ⟨#[]⟩).size then
    some (tagS (((parts x ⟨#[58]⟩).getD 0 ⟨#[]⟩).data.toList.getD 0 0), (parseP (((parts x ⟨#[58]⟩).getD 0 ⟨#[]⟩).extract 1 ((parts x ⟨#[58]⟩).getD 0 ⟨#[]⟩).size)).1, (parseP ((parts x ⟨#[58]⟩).getD 1 ⟨#[]⟩)).1)
  else none
theorem col_ent {x : At} (h : entB x = true) : colI (entT x) = 2 := by
  have f := ent_facts h
  have h1 := tagC_ne x.1 58 (by decide)
  have h2 := digC_ne f.2.2.2.2.1 (by omega) 58 (by decide)
  show Lib.indexByte (entL x) 58 = 2
  simp [entL, Lib.indexByte, h1, h2]
theorem cutN_ent {x : At} (h : entB x = true) : cutN (entT x) = ⟨#[tagC x.1, digC x.2.1]⟩ := by
  rw [cutN, col_ent h, if_neg (by decide)]
  apply ext
  simp [entT, entL]
theorem cutR_ent {x : At} (h : entB x = true) : cutR (entT x) = ⟨#[digC x.2.2]⟩ := by
  rw [cutR, col_ent h, if_neg (by decide)]
  apply ext
  simp [entT, entL, ByteArray.size]
theorem tail_two (a b : UInt8) : (⟨#[a, b]⟩ : ByteArray).extract 1 (⟨#[a, b]⟩ : ByteArray).size = ⟨#[b]⟩ := by
  apply ext
  simp [ByteArray.size]
/-- A valid entry's text is read as the entry. -/
theorem wordI_ent {x : At} (h : entB x = true) : wordI (entT x) = some x := by
  have f := ent_facts h
  rw [wordI, cutN_ent h, cutR_ent h, tail_two, dig_parse f.2.2.2.2.1 (by omega), dig_parse f.1 (by omega), if_neg (by show ¬ 2 = 0; omega)]
  show some (tagI (tagC x.1), x.2.1, x.2.2) = some x
  rw [tagI_tag f.2.2.1 f.2.2.2.1]
theorem wordS_ent {x : At} (h : entB x = true) : wordS (entT x) = some x := by
  have f := ent_facts h
  rw [wordS, show entT x = ⟨(entL x).toArray⟩ from rfl, parts_ent h]
  rw [if_pos ⟨rfl, by show 2 ≤ 2; omega⟩]
  show some (tagS (tagC x.1), (parseP ((⟨#[tagC x.1, digC x.2.1]⟩ : ByteArray).extract 1 (⟨#[tagC x.1, digC x.2.1]⟩ : ByteArray).size)).1, (parseP ⟨#[digC x.2.2]⟩).1) = some x
  rw [tail_two, dig_parse f.2.2.2.2.1 (by omega), dig_parse f.1 (by omega), tagS_tag f.2.2.1 f.2.2.2.1]
theorem wordI_nil : wordI ⟨#[]⟩ = none := by
  rw [wordI, if_pos]
  unfold cutN
  split
  · rfl
  · rfl
theorem wordS_nil : wordS ⟨#[]⟩ = none := by
  rw [wordS, if_neg]
  rintro ⟨h, _⟩
  rw [show parts ⟨#[]⟩ ⟨#[58]⟩ = [(⟨#[]⟩ : ByteArray).extract 0 0] from rfl] at h
  cases h
/-- The words of t from the front are read by f as the entries out. -/
def WordsRead (f : ByteArray → Option At) (t : ByteArray) (out : List At) : Prop := ∀ i, i < out.length → f ((parts t ⟨#[44]⟩).getD i ⟨#[]⟩) = some (out.getD i a0)
theorem read_nil (f : ByteArray → Option At) (t : ByteArray) : WordsRead f t [] := fun i h => absurd h (Nat.not_lt_zero _)
theorem read_snoc {f : ByteArray → Option At} {t : ByteArray} {out : List At} {x : At} (h : WordsRead f t out) (hx : f ((parts t ⟨#[44]⟩).getD out.length ⟨#[]⟩) = some x) : WordsRead f t (out ++ [x]) := fun i hi => by
  rcases Nat.lt_or_ge i out.length with hlt | hge
  · rw [h i hlt, List.getD_eq_getElem?_getD, List.getD_eq_getElem?_getD, List.getElem?_append_left hlt]
  · rw [List.length_append, List.length_singleton] at hi
    obtain rfl : i = out.length := by omega
    rw [hx]; simp [List.getD]
theorem words_of {t : ByteArray} {l : List At} (ht : t ≠ ⟨#[45]⟩) (hl : okB l = true) (e : formatV l = t) : parts t ⟨#[44]⟩ = l.map entT := by
  have hne : l ≠ [] := by
    intro h0
    rw [h0] at e
    exact ht (by rw [← e]; rw [formatV, if_pos (AclI.ok_zero rfl), if_pos rfl])
  rw [← e]
  exact parts_fmt hl hne
theorem word_at {l : List At} {i : Nat} (hi : i < l.length) : (l.map entT).getD i ⟨#[]⟩ = entT (l.getD i a0) := by
  rw [List.getD_eq_getElem?_getD, List.getElem?_map, List.getElem?_eq_getElem hi, List.getD_eq_getElem?_getD, List.getElem?_eq_getElem hi]
  rfl
/-- A word that is not read: the text is none. -/
theorem parse_fail {f : ByteArray → Option At} (hf : ∀ x, entB x = true → f (entT x) = some x) {t : ByteArray} (ht : t ≠ ⟨#[45]⟩) {i : Nat} (hi : i < (parts t ⟨#[44]⟩).length) (h : f ((parts t ⟨#[44]⟩).getD i ⟨#[]⟩) = none) : parseV t = none := by
  refine parse_none fun l hl e => ?_
  have hw := words_of ht hl e
  rw [hw] at h hi
  rw [List.length_map] at hi
  have hx := ok_ent hl _ (List.getElem_mem hi)
  rw [word_at hi, hf _ (by rw [List.getD_eq_getElem?_getD, List.getElem?_eq_getElem hi]; exact hx)] at h
  cases h
/-- All words read: the text is the list's, or none. -/
theorem parse_all {f : ByteArray → Option At} (hf : ∀ x, entB x = true → f (entT x) = some x) {t : ByteArray} (ht : t ≠ ⟨#[45]⟩) {out : List At} (hlen : out.length = (parts t ⟨#[44]⟩).length) (hr : WordsRead f t out) :
    parseV t = if okB out = true ∧ formatV out = t then some out else none := by
  refine parse_by fun l hl e => ?_
  have hw := words_of ht hl e
  rw [hw, List.length_map] at hlen
  apply List.ext_getElem hlen
  intro i h1 h2
  have := hr i h1
  have hx := ok_ent hl _ (List.getElem_mem h2)
  have eg : l.getD i a0 = l[i] := by rw [List.getD_eq_getElem?_getD, List.getElem?_eq_getElem h2]; rfl
  rw [hw, word_at h2, eg, hf _ hx, List.getD_eq_getElem?_getD, List.getElem?_eq_getElem h1] at this
  exact (Option.some.inj this).symm
theorem parse_dash : parseV ⟨#[45]⟩ = some [] := by
  have : formatV [] = ⟨#[45]⟩ := by rw [formatV, if_pos (AclI.ok_zero rfl), if_pos rfl]
  rw [← this]
  exact parse_of (AclI.ok_zero rfl)
theorem parts_pos (t : ByteArray) : 0 < (parts t ⟨#[44]⟩).length := by simp [parts]
theorem ok_of_fmt {f : ByteArray → Option At} (hnil : f ⟨#[]⟩ = none) {t : ByteArray} {out : List At} (hlen : out.length = (parts t ⟨#[44]⟩).length) (hr : WordsRead f t out) (h : formatV out = t) : okB out = true := by
  cases hok : okB out
  · have h2 : formatV out = ⟨#[]⟩ := by rw [formatV, if_neg (by rw [hok]; simp)]
    rw [h] at h2
    subst h2
    have := hr 0 (by rw [hlen]; exact parts_pos _)
    rw [show (parts ⟨#[]⟩ ⟨#[44]⟩).getD 0 ⟨#[]⟩ = ⟨#[]⟩ from rfl, hnil] at this
    cases this
  · rfl
theorem parse_len (t : ByteArray) : (AclU.resR (parseV t)).1.length ≤ 6 := by
  by_cases h : ∃ l, okB l = true ∧ formatV l = t
  · obtain ⟨l, hl, rfl⟩ := h
    rw [parse_of hl]
    exact ok_len hl
  · rw [parse_none (fun l hl e => h ⟨l, hl, e⟩)]
    exact Nat.zero_le _
theorem cut_bounds (s b : ByteArray) : ∀ k, k ≤ s.size → ∀ x ∈ (SplitAny.cutL s b k).1, x.size ≤ s.size
  | 0, _ => by simp [SplitAny.cutL]
  | k + 1, hk => by
    rw [SplitAny.cutL]
    split
    · intro x hx
      rw [List.mem_append, List.mem_singleton] at hx
      rcases hx with hx | rfl
      · exact cut_bounds s b k (by omega) x hx
      · rw [ByteArray.size_extract]; omega
    · exact cut_bounds s b k (by omega)
/-- A part is no longer than the whole. -/
theorem part_size (s b : ByteArray) (i : Nat) : ((parts s b).getD i ⟨#[]⟩).size ≤ s.size := by
  rcases Nat.lt_or_ge i (parts s b).length with h | h
  · rw [List.getD_eq_getElem?_getD, List.getElem?_eq_getElem h]
    have hm : (parts s b)[i] ∈ parts s b := List.getElem_mem h
    unfold parts at hm
    rw [List.mem_append, List.mem_singleton] at hm
    rcases hm with hm | hm
    · exact cut_bounds s b s.size (Nat.le_refl _) _ hm
    · show ((parts s b)[i]).size ≤ _
      unfold parts
      rw [hm, ByteArray.size_extract]; omega
  · rw [List.getD_eq_getElem?_getD, List.getElem?_eq_none h]
    exact Nat.zero_le _
theorem parts_count (s b : ByteArray) : (parts s b).length ≤ s.size + 1 := by
  have := (SplitAny.cutL_le s b s.size).1
  unfold parts
  rw [List.length_append]
  simp only [List.length_singleton]
  omega
end Go.Proofs.YtgilmmofbpembaaDoor.AclW
