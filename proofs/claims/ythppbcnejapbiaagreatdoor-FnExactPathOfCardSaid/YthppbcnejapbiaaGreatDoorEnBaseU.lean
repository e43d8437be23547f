/- Helper texts joined, one behind another (a claim has at most 60 files): what each proves, its own head says: YthppbcnejapbiaaGreatDoorPaV, YthppbcnejapbiaaGreatDoorPaJ, YthppbcnejapbiaaGreatDoorPaO, YthppbcnejapbiaaGreatDoorPaP. -/
import Derived.Test.YthppbcnejapbiaaGreatDoorEnBaseA
import Derived.Test.YthppbcnejapbiaaGreatDoorSplitC
import Derived.Test.YthppbcnejapbiaaGreatDoorJoin
import Derived.Test.YthppbcnejapbiaaGreatDoorEnBaseP
import Derived.Sort.OwnSorted
import Derived.Test.YthppbcnejapbiaaGreatDoorFsBaseC
import Derived.Test.YthppbcnejapbiaaGreatDoorShelfR

-- YthppbcnejapbiaaGreatDoorPaV
/- Plain facts on absolute paths: the names that a path consists of, told in the program's way and in the model's; the path of names. No condition of its own. -/
namespace Go.Proofs.YthppbcnejapbiaaGreatDoor.PaV
open SplitAny (parts)
open SplitC (splitC parts_eq splitC_ne)
open EnN (nameB)
set_option linter.unusedVariables false

def slB : ByteArray := ⟨#[47]⟩
def restB (p : ByteArray) : ByteArray := p.extract 1 p.size
def isRoot (p : ByteArray) : Bool := p.toList == [47]
def okN (l : List ByteArray) : Bool := decide (l.length ≤ 8) && l.all nameB
/-- The names of a path, and whether it is one. -/
def splitV (p : ByteArray) : List ByteArray × Bool :=
  if isRoot p = true then ([], true)
  else if 0 < p.size ∧ p.data.toList.getD 0 0 = 47 ∧ okN (parts (restB p) slB) = true then (parts (restB p) slB, true) else ([], false)
theorem ba_len (s : ByteArray) : s.data.toList.length = s.size := by simp
theorem ext_data (r : ByteArray) (a b : Nat) : (r.extract a b).data.toList = (r.data.toList.take b).drop a := by
  rw [ByteArray.data_extract, Array.toList_extract, List.extract_eq_drop_take', List.drop_take]
theorem rest_list (p : ByteArray) : (restB p).data.toList = p.data.toList.drop 1 := by
  unfold restB
  rw [ext_data, List.take_of_length_le (by rw [ba_len]; exact Nat.le_refl _)]
theorem has47 : slB.data.toList.contains (47 : UInt8) = true := by decide
theorem hasnot {c : UInt8} (h : c ≠ 47) : slB.data.toList.contains c = false := by
  show [(47 : UInt8)].contains c = false
  simp [h]
theorem parts_slash {p : ByteArray} {l : List UInt8} (h : p.data.toList = 47 :: l) : parts p slB = ⟨#[]⟩ :: parts (restB p) slB := by
  rw [parts_eq, parts_eq, rest_list, h, splitC, if_pos has47]
  rfl
theorem parts_other {p : ByteArray} {c : UInt8} {l : List UInt8} (h : p.data.toList = c :: l) (hc : c ≠ 47) : ∃ x t, parts p slB = x :: t ∧ x.data.toList ≠ [] := by
  rw [parts_eq, h, splitC, if_neg (by rw [hasnot hc]; simp)]
  cases hs : splitC (slB.data.toList.contains ·) l with
  | nil => exact absurd hs (splitC_ne _ _)
  | cons a t => exact ⟨_, _, rfl, by simp⟩
theorem parts_none {p : ByteArray} (h : p.data.toList = []) : parts p slB = [⟨#[]⟩] := by
  rw [parts_eq, h]; rfl
theorem parts_cons (p : ByteArray) : ∃ x t, parts p slB = x :: t := by
  rw [parts_eq]
  cases hs : splitC (slB.data.toList.contains ·) p.data.toList with
  | nil => exact absurd hs (splitC_ne _ _)
  | cons a t => exact ⟨_, _, rfl⟩
/-- The program's way. -/
theorem split_prog {p x : ByteArray} {t : List ByteArray} (hr : isRoot p = false) (h : parts p slB = x :: t) :
    splitV p = if (0 < t.length ∧ t.length ≤ 8) ∧ x.data.toList = [] ∧ t.all nameB = true then (t, true) else ([], false) := by
  unfold splitV okN
  rw [if_neg (by rw [hr]; simp)]
  cases hp : p.data.toList with
  | nil =>
    have e := parts_none hp
    rw [h] at e
    cases e
    have hz : p.size = 0 := by rw [← ba_len, hp]; rfl
    rw [if_neg (by omega), if_neg (by simp)]
  | cons c l =>
    have hz : 0 < p.size := by rw [← ba_len, hp]; simp
    by_cases hc : c = 47
    · subst hc
      have e := parts_slash hp
      rw [h] at e
      cases e
      obtain ⟨y, u, hy⟩ := parts_cons (restB p)
      have hl : 0 < (parts (restB p) slB).length := by rw [hy]; simp
      by_cases h8 : (parts (restB p) slB).length ≤ 8
      · by_cases ha : (parts (restB p) slB).all nameB = true
        · rw [if_pos ⟨hz, rfl, by rw [ha, decide_eq_true h8]; rfl⟩, if_pos ⟨⟨hl, h8⟩, rfl, ha⟩]
        · rw [if_neg (fun hh => ha (by have := hh.2.2; rw [Bool.and_eq_true] at this; exact this.2)), if_neg (fun hh => ha hh.2.2)]
      · rw [if_neg (fun hh => h8 (by have := hh.2.2; rw [Bool.and_eq_true] at this; exact of_decide_eq_true this.1)), if_neg (fun hh => h8 hh.1.2)]
    · obtain ⟨y, u, hy, hne⟩ := parts_other hp hc
      rw [h] at hy
      cases hy
      rw [if_neg (fun hh => hc hh.2.1), if_neg (fun hh => hne hh.2.1)]
theorem split_no {p : ByteArray} (hr : isRoot p = false) (h : ¬ (0 < p.size ∧ p.data.toList.getD 0 0 = 47 ∧ okN (parts (restB p) slB) = true)) : splitV p = ([], false) := by
  unfold splitV
  rw [if_neg (by rw [hr]; simp), if_neg h]
theorem split_yes {p : ByteArray} (hr : isRoot p = false) (h0 : 0 < p.size) (h1 : p.data.toList.getD 0 0 = 47) (h2 : okN (parts (restB p) slB) = true) : splitV p = (parts (restB p) slB, true) := by
  unfold splitV
  rw [if_neg (by rw [hr]; simp), if_pos ⟨h0, h1, h2⟩]
theorem part_size (s b : ByteArray) : ∀ x ∈ parts s b, x.size ≤ s.size := by
  have hk : ∀ k, k ≤ s.size → ∀ x ∈ (SplitAny.cutL s b k).1, x.size ≤ s.size := by
    intro k
    induction k with
    | zero => intro _ x hx; cases hx
    | succ k ih =>
      intro hk x hx
      rw [SplitAny.cutL] at hx
      split at hx
      · rcases List.mem_append.1 hx with h | h
        · exact ih (by omega) x h
        · rw [List.mem_singleton] at h
          rw [h, ByteArray.size_extract]; omega
      · exact ih (by omega) x hx
  intro x hx
  rcases List.mem_append.1 hx with h | h
  · exact hk _ (Nat.le_refl _) x h
  · rw [List.mem_singleton] at h
    rw [h, ByteArray.size_extract]; omega
theorem rest_size (p : ByteArray) : (restB p).size = p.size - 1 := by unfold restB; rw [ByteArray.size_extract]; omega
theorem parts_length (s b : ByteArray) : (parts s b).length ≤ s.size + 1 := by
  have := (SplitAny.cutL_le s b s.size).1
  simp [parts]; omega
theorem split_len (p : ByteArray) : (splitV p).1.length ≤ 8 := by
  unfold splitV okN
  split
  · exact Nat.zero_le _
  · split
    · rename_i h
      have := h.2.2
      rw [Bool.and_eq_true] at this
      exact of_decide_eq_true this.1
    · exact Nat.zero_le _
end Go.Proofs.YthppbcnejapbiaaGreatDoor.PaV

-- YthppbcnejapbiaaGreatDoorPaJ
/- Contracts: JoinPath of the program and of the model: the names, each with a slash before it. Conditions: as each theorem types them. -/
namespace Go.Proofs.YthppbcnejapbiaaGreatDoor.PaJ
open Go.ChangeShapes Go.WideShapes Go.ChangeAt Go.RowKit
open Strs (Holds holds_of_own holds_below eq_any own_below total total_take_succ total_take_le budgetOf sz_any to_any)
open Join (joined joined_size ret_str)
open PaV (slB)
set_option linter.unusedVariables false

/-- The first k names, each with a slash before it. -/
def catB (xs : List ByteArray) : Nat → ByteArray
  | 0 => ⟨#[]⟩
  | k + 1 => catB xs k ++ slB ++ xs.getD k ⟨#[]⟩
def pathJ (xs : List ByteArray) : ByteArray := slB ++ joined xs slB xs.length
theorem cat_path (xs : List ByteArray) : ∀ k, catB xs (k + 1) = slB ++ joined xs slB (k + 1)
  | 0 => by
    show (⟨#[]⟩ : ByteArray) ++ slB ++ xs.getD 0 ⟨#[]⟩ = slB ++ (⟨#[]⟩ ++ xs.getD 0 ⟨#[]⟩)
    rw [show (⟨#[]⟩ : ByteArray) ++ slB = slB from rfl]
    congr 1
  | k + 1 => by
    rw [catB, cat_path xs k]
    show slB ++ joined xs slB (k + 1) ++ slB ++ xs.getD (k + 1) ⟨#[]⟩ = slB ++ ((if k + 1 = 0 then joined xs slB (k + 1) else joined xs slB (k + 1) ++ slB) ++ xs.getD (k + 1) ⟨#[]⟩)
    rw [if_neg (show ¬ k + 1 = 0 by omega), ByteArray.append_assoc, ByteArray.append_assoc, ByteArray.append_assoc]
theorem cat_all (xs : List ByteArray) : (if xs.length = 0 then slB else catB xs xs.length) = pathJ xs := by
  unfold pathJ
  by_cases h : xs.length = 0
  · rw [if_pos h, h]; rfl
  · obtain ⟨k, hk⟩ : ∃ k, xs.length = k + 1 := ⟨xs.length - 1, by omega⟩
    rw [if_neg h, hk, cat_path]
theorem cat_size (xs : List ByteArray) : ∀ k, k ≤ xs.length → (catB xs k).size ≤ k + total (xs.take k) := by
  intro k
  induction k with
  | zero => intro _; exact Nat.zero_le _
  | succ k ih =>
    intro hk
    have h1 := ih (by omega)
    rw [total_take_succ xs k (by omega), catB, ByteArray.size_append, ByteArray.size_append, show slB.size = 1 from rfl]
    omega

set_option maxRecDepth 100000 in
set_option maxHeartbeats 400000 in
theorem join_spec (w : World) (v : Value) (xs : List ByteArray) (hn : xs.length + total xs ≤ 1048576) (h : Holds w v xs) :
    Calls Tryz.prog 89 #[v] w fun e w' => e = .returned (.string (pathJ xs)) ∧ w = w' := by
  obtain ⟨a, cap, rfl, hc⟩ := h
  by_cases h0 : xs = []
  · subst h0
    simp only [List.length_nil]
    clear hc hn
    go_enter Tryz.func89, Tryz.ntmps89
    go_wp2
    refine wp_loop_rounds 1 ?_
    rw [rounds_succ]
    go_wp2
    go_ret
    exact ⟨ret_str rfl, rfl⟩
  · obtain ⟨b1, o1, rfl, _, hcell⟩ := hc h0
    have HC := Lib.hid hcell
    have hx0 : xs.length ≠ 0 := fun h => h0 (List.eq_nil_of_length_eq_zero h)
    have HCA := Lib.hid (cat_all xs)
    rw [if_neg hx0] at HCA
    have HSZ := Lib.hid (cat_size xs)
    have HTL := Lib.hid (total_take_le xs)
    obtain ⟨L, hL⟩ : ∃ L, L = xs.length := ⟨_, rfl⟩
    rw [← hL] at hn ⊢
    have HL := Lib.hid hL
    have HN := Lib.hid hn
    have hLb : L ≤ 1048576 := by omega
    have hLz : (L == 0) = false := by simp; omega
    have hLi : ((L : Int) == 0) = false := by simp; omega
    clear hL hn hc hcell h0 hx0
    have hbound : ∀ i, i ≤ L → (catB xs i).size ≤ 1099512676352 := by
      intro i hi
      have h1 := HSZ.out i (by rw [← HL.out]; exact hi)
      have h2 := HTL.out i
      have h3 := HN.out
      omega
    have HBD := Lib.hid hbound
    clear hbound
    go_enter Tryz.func89, Tryz.ntmps89
    go_wp2
    go_loop [3, 8] (fun sv iv => ∃ i : Nat, i ≤ L ∧ iv = .int .i64 i ∧ sv = .string (catB xs i)) (fun _ iv => L - (intOf iv).toNat)
    case atStart => exact ⟨0, Nat.zero_le _, rfl, rfl⟩
    case round =>
      obtain ⟨i, hi, rfl, rfl⟩ := hrel
      by_cases hlt : i < L
      · have hlx : i < xs.length := by rw [← HL.out]; exact hlt
        have g1 := HC.out i hlx
        have hjb := HBD.out i hi
        have hjb2 := HBD.out (i + 1) hlt
        have hj1 : catB xs (i + 1) = catB xs i ++ slB ++ xs.getD i ⟨#[]⟩ := rfl
        rw [hj1, ByteArray.size_append, ByteArray.size_append] at hjb2
        have HJ1 := Lib.hid hj1
        clear hj1
        generalize xs.getD i ⟨#[]⟩ = x at g1 hjb2 HJ1
        have hjb3 : (catB xs i ++ slB).size + x.size ≤ 1099512676352 := by rw [ByteArray.size_append]; exact hjb2
        go_wp2
        go_round
        case rel => exact ⟨i + 1, by omega, by go_num, by rw [HJ1.out]; rfl⟩
        case measure => simp [intOf]; omega
      · obtain rfl : i = L := by omega
        go_wp2
        go_ret
        exact ⟨ret_str (by rw [← HCA.out, ← HL.out]), rfl⟩

set_option maxRecDepth 100000 in
set_option maxHeartbeats 400000 in
theorem join_impl (w : World) (v : Value) (xs : List ByteArray) (hn : xs.length + total xs ≤ 1048576) (h : Holds w v xs) (hcap : ∀ a n c, v = .slice a n c → n ≤ c) :
    Calls Tryz.prog 91 #[v] w fun e w' => e = .returned (.string (pathJ xs)) ∧ Below w.heap.size w w' := by
  have hjs : (slB ++ joined xs slB xs.length).size ≤ 4194304 := by
    have h1 := joined_size xs slB xs.length (Nat.le_refl _)
    have h2 := total_take_le xs xs.length
    have h3 : slB.size = 1 := rfl
    rw [h3] at h1
    rw [ByteArray.size_append, h3]
    omega
  have HJ := Lib.hid (Join.impl_any w v xs slB (by decide) (by omega) h hcap)
  have HE := Lib.hid (show pathJ xs = slB ++ joined xs slB xs.length from rfl)
  generalize joined xs slB xs.length = J at hjs HJ HE
  rw [ByteArray.size_append] at hjs
  clear h hcap hn
  go_enter Tryz.func91, Tryz.ntmps91
  go_wp2_with fail
  refine (HJ.out).mono ?_
  rintro e w1 ⟨rfl, hb⟩
  go_wp2
  go_ret
  exact ⟨ret_str (by rw [HE.out]; rfl), hb⟩
end Go.Proofs.YthppbcnejapbiaaGreatDoor.PaJ

-- YthppbcnejapbiaaGreatDoorPaO
/- Contract: the model's PathOf: the names from an inode up to the root's directory. Conditions: as each theorem types them. -/
namespace Go.Proofs.YthppbcnejapbiaaGreatDoor.PaO
open Go.ChangeShapes Go.WideShapes Go.ChangeAt Go.RowKit
open Foot Bx
open InoV (I)
open FsV (F okF)
open FsY (ino)
open EnV OpF
open PrS (parV parT l10parent)
open PaJ (pathJ)
open SplitAny (strInfo own_fresh)
set_option linter.unusedVariables false

/-- The names from an inode up, at most n of them; none if they don't reach the root. -/
def upV (f : F) : Nat → Int → List ByteArray → Option (List ByteArray)
  | 0, i, acc => if i = 0 then some acc else none
  | n + 1, i, acc => if i = 0 then some acc else match parV f i with
    | none => none
    | some p => upV f n p.1 (acc ++ [p.2])
theorem up_zero (f : F) (n : Nat) (acc : List ByteArray) : upV f n 0 acc = some acc := by cases n <;> simp [upV]
theorem up_none {f : F} {n : Nat} {i : Int} {acc : List ByteArray} (h : i ≠ 0) (hp : parV f i = none) : upV f n i acc = none := by cases n <;> simp [upV, h, hp]
theorem up_full {f : F} {i : Int} {acc : List ByteArray} (h : i ≠ 0) : upV f 0 i acc = none := by simp [upV, h]
theorem up_next {f : F} {n : Nat} {i : Int} {acc : List ByteArray} {p : Nat × ByteArray} (h : i ≠ 0) (hp : parV f i = some p) : upV f (n + 1) i acc = upV f n p.1 (acc ++ [p.2]) := by simp [upV, h, hp]
def pathT : Option (List ByteArray) → ByteArray × Bool
  | none => (⟨#[]⟩, false)
  | some l => (pathJ l.reverse, true)
def pathOfV (f : F) (i : Int) : ByteArray × Bool := if okF f = true then pathT (upV f 8 i []) else (⟨#[]⟩, false)
theorem par_size {f : F} {i : Int} {p : Nat × ByteArray} (h : parV f i = some p) : p.2.size ≤ 12 := by
  unfold parV at h
  obtain ⟨k, hk, hs⟩ := List.exists_of_findSome?_eq_some h
  unfold PrS.stepP at hs
  split at hs
  · rw [Option.map_eq_some_iff] at hs
    obtain ⟨e, he, rfl⟩ := hs
    unfold PrS.findI at he
    have hm := List.mem_of_find?_eq_some he
    unfold entsV entsL at hm
    rw [List.mem_filterMap] at hm
    obtain ⟨j, _, hj⟩ := hm
    obtain ⟨nm, iv⟩ := e
    exact (name_facts (ent_facts hj).1).2.1
  · cases hs
theorem ret_sb {a b : ByteArray} {c d : Bool} (h : a = b) (h1 : c = d) : Ending.returned (.tuple #[.string a, .bool c]) = .returned (.tuple #[.string b, .bool d]) := by rw [h, h1]
/-- A row of one cell, just laid. -/
theorem own_one (W : World) (t : TypeId) (x : Value) : (W.alloc (.cells #[x] t)).ownsRow W.heap.size t 1 (.slice (some ⟨W.heap.size, 0, none⟩) 1 1) 1 [x] :=
  ⟨rfl, .inr ⟨W.heap.size, 1, #[x], rfl, Nat.le_refl _, (MapKept.heap_alloc W _).1, Nat.le_refl _, by decide, rfl, rfl⟩⟩
theorem form_ne {W : World} {base n : Nat} {e : TypeId} {v : Value} {xs : List Value} (h : W.ownsRow base e 1 v n xs) (hne : v ≠ .slice none 0 0) : ∃ g c, v = .slice (some ⟨g, 0, none⟩) n c := by
  rcases h.2 with ⟨hv, _⟩ | ⟨g, cap, cur, hv, _⟩
  · exact absurd hv hne
  · exact ⟨g, cap, hv⟩
theorem own_cap {W : World} {base n : Nat} {e : TypeId} {v : Value} {xs : List Value} (h : W.ownsRow base e 1 v n xs) : ∀ a m c, v = .slice a m c → m ≤ c := by
  rintro a m c rfl
  rcases h.2 with ⟨hv, h0⟩ | ⟨g, cap, cur, hv, _, _, hc, _⟩
  · rw [Value.slice.injEq] at hv; omega
  · rw [Value.slice.injEq] at hv; omega
theorem total_le {l : List ByteArray} (h : ∀ x ∈ l, x.size ≤ 12) : Strs.total l ≤ l.length * 12 := by
  induction l with
  | nil => exact Nat.le_refl _
  | cons a r ih =>
    have h1 := h a (by simp)
    have h2 := ih (fun x hx => h x (by simp [hx]))
    unfold Strs.total at h2 ⊢
    rw [List.map_cons, List.sum_cons, List.length_cons]
    omega
theorem short {acc : List ByteArray} {k : Nat} (hk : acc.length = k) (h8 : k ≤ 8) (h : ∀ x ∈ acc, x.size ≤ 12) : acc.reverse.length + Strs.total acc.reverse ≤ 1048576 := by
  have := total_le (l := acc.reverse) (fun x hx => h x (List.mem_reverse.1 hx))
  rw [List.length_reverse] at this ⊢
  omega
theorem size_app {acc : List ByteArray} {x : ByteArray} (h : ∀ y ∈ acc, y.size ≤ 12) (hx : x.size ≤ 12) : ∀ y ∈ acc ++ [x], y.size ≤ 12 := fun y hy => (List.mem_append.1 hy).elim (h y) (fun e => by rw [List.mem_singleton] at e; subst e; exact hx)

set_option maxRecDepth 100000 in
set_option maxHeartbeats 6400000 in
theorem path_spec (w : World) (v : Value) (f : F) (i : Int) (hc : FsF.cost f ≤ 1073741824) (hl : FsF.Lim f) (h : FsF.Holds w v f) :
    Calls Tryz.prog 39 #[v, .int .i64 i] w fun e w' => e = .returned (.tuple #[.string (pathOfV f i).1, .bool (pathOfV f i).2]) ∧ Below w.heap.size w w' := by
  have HFS := Lib.hid h
  obtain ⟨T, qa, Q, qc, ia, M, ic, da, D, dc, rfl⟩ := form_fs h
  obtain ⟨w0, hw0⟩ : ∃ w0, w.alloc (.cells #[.int .i64 T, .slice qa Q qc, .slice ia M ic, .slice da D dc] 33) = w0 := ⟨_, rfl⟩
  have hB : Below w.heap.size w w0 := by rw [← hw0]; exact (Below.refl _ w).alloc (Nat.le_refl _) _
  have bF : Bk w0 w.heap.size #[.int .i64 T, .slice qa Q qc, .slice ia M ic, .slice da D dc] 33 := by rw [← hw0]; exact new w _ _
  have HB := Lib.hid hB
  have HBF := Lib.hid bF
  obtain ⟨x0, x1, x2, x3⟩ := Bk.c4 bF
  obtain ⟨B, hBe⟩ : ∃ B, B = okF f := ⟨_, rfl⟩
  have HIS := Lib.hid (show Calls Tryz.prog 73 #[.agg #[.int .i64 T, .slice qa Q qc, .slice ia M ic, .slice da D dc]] w0 fun e w' => e = .returned (.bool B) ∧ Below w0.heap.size w0 w' from by rw [hBe]; exact FsS.is_spec w0 _ f hc hl (FsF.holds_below HFS.out hB))
  cases B
  · have HV := Lib.hid (show pathOfV f i = (⟨#[]⟩, false) from if_neg (by rw [← hBe]; simp))
    clear hBe h hB bF hc hl
    go_enter Tryz.func39, Tryz.ntmps39
    go_wp2_with fail
    refine (HIS.out).mono ?_
    rintro e w2 ⟨rfl, hb2⟩
    go_wp2
    go_ret2
    exact ⟨ret_sb (by rw [HV.out]) (by rw [HV.out]), HB.out.trans (hb2.mono HB.out.size)⟩
  · obtain ⟨R, hR⟩ : ∃ R, R = upV f 8 i [] := ⟨_, rfl⟩
    have HV := Lib.hid (show pathOfV f i = pathT R from by rw [hR]; exact if_pos hBe.symm)
    have HR := Lib.hid hR
    have HPA := Lib.hid (fun (W : World) (hb : Below w.heap.size w W) (q : Int) => l10parent W _ f q hBe.symm (FsF.holds_below HFS.out hb))
    obtain ⟨i0, hi, hz0, hz1, hz2⟩ := info_parts strInfo
    clear hBe h hB bF hc hl hR
    go_enter Tryz.func39, Tryz.ntmps39
    go_wp2_with fail
    refine (HIS.out).mono ?_
    rintro e w2 ⟨rfl, hb2⟩
    have HB2 := Lib.hid hb2
    clear x0 x1 x2 x3 hb2
    go_wp2
    go_loopw [1, 6] (fun iv nv wr => ∃ (k : Nat) (acc : List ByteArray) (q : Int), iv = .int .i64 q ∧ k ≤ 8 ∧ acc.length = k ∧ nv ≠ .slice none 0 0 ∧ wr.ownsRow w0.heap.size 9 1 nv k (acc.reverse.map Value.string) ∧ (∀ x ∈ acc, x.size ≤ 12) ∧ upV f (8 - k) q acc = R ∧ Below w0.heap.size w0 wr) (fun _ nv _ => 8 - (match nv with | .slice _ n _ => n | _ => 0))
    case atStart => exact ⟨0, [], i, rfl, by omega, rfl, by simp, row_mono (own_fresh w2 9) HB2.out.size, fun x hx => by (cases hx), HR.out.symm, HB2.out.alloc HB2.out.size _⟩
    case round =>
      obtain ⟨k, acc, q, rfl, hk, hlen, hne, how, hsz, hup, hbel⟩ := hrel
      obtain ⟨g, c, rfl⟩ := form_ne how hne
      have HO := Lib.hid how
      have HL := Lib.hid hlen
      have HSZ := Lib.hid hsz
      have HUP := Lib.hid hup
      have HBE := Lib.hid hbel
      have HBR := Lib.hid (HB.out.trans (hbel.mono HB.out.size))
      have hsr := hbel.size
      obtain ⟨v0, v1, v2, v3⟩ := Bk.c4 (HBF.out.all HBE.out)
      clear hlen hne how hsz hup hbel
      by_cases hq0 : q = 0
      · subst hq0
        have HE := Lib.hid (show pathOfV f i = (pathJ acc.reverse, true) from by rw [HV.out, ← HUP.out, up_zero]; rfl)
        have HJ := Lib.hid (PaJ.join_spec wr (.slice (some ⟨g, 0, none⟩) k c) acc.reverse (short HL.out hk HSZ.out) (Strs.holds_of_own HO.out))
        go_wp2_with fail
        refine (HJ.out).mono ?_
        rintro e w3 ⟨rfl, rfl⟩
        go_wp2
        go_ret2
        exact ⟨ret_sb (by rw [HE.out]) (by rw [HE.out]), HBR.out⟩
      · have hqn : (q != 0) = true := by simpa using hq0
        have HQ := Lib.hid hq0
        obtain ⟨P, hP⟩ : ∃ P, parV f q = P := ⟨_, rfl⟩
        have HP := Lib.hid hP
        have HC := Lib.hid (HPA.out wr HBR.out q)
        rw [hP] at HC
        clear hP hq0
        cases P
        · have HE := Lib.hid (show pathOfV f i = (⟨#[]⟩, false) from by rw [HV.out, ← HUP.out, up_none HQ.out HP.out]; rfl)
          go_wp2_with fail
          refine (HC.out).mono ?_
          rintro e w3 ⟨rfl, hb3⟩
          have HB3 := Lib.hid (HBR.out.trans (hb3.mono HBR.out.size))
          clear hb3
          unfold parT
          go_wp2
          go_ret2
          exact ⟨ret_sb (by rw [HE.out]) (by rw [HE.out]), HB3.out⟩
        · rename_i p
          obtain ⟨pk, nm⟩ := p
          have HPS := Lib.hid (par_size HP.out)
          go_wp2_with fail
          refine (HC.out).mono ?_
          rintro e w3 ⟨rfl, hb3⟩
          have HB3 := Lib.hid (HBE.out.trans (hb3.mono HBE.out.size))
          have HBW := Lib.hid (HBR.out.trans (hb3.mono HBR.out.size))
          have HO3 := Lib.hid (row_below HO.out hb3)
          have hs3 := hb3.size
          clear hb3
          unfold parT
          dsimp only
          by_cases hk8 : k = 8
          · subst hk8
            have HE := Lib.hid (show pathOfV f i = (⟨#[]⟩, false) from by rw [HV.out, ← HUP.out]; exact (congrArg pathT (up_full HQ.out)).trans rfl)
            go_wp2
            go_ret2
            exact ⟨ret_sb (by rw [HE.out]) (by rw [HE.out]), HBW.out⟩
          · have hk8n : ((k : Int) == 8) = false := by simp; omega
            have HU2 := Lib.hid (show upV f (8 - (k + 1)) (pk : Int) (acc ++ [nm]) = R from by
              rw [← HUP.out, show 8 - k = (8 - (k + 1)) + 1 from by omega]
              exact (up_next HQ.out HP.out).symm)
            have HN := Lib.hid (own_one w3 9 (.string nm))
            have HOA := Lib.hid (row_below HO3.out ((Below.refl w3.heap.size w3).alloc (Nat.le_refl _) (.cells #[.string nm] 9)))
            have HBA := Lib.hid (HB3.out.alloc HB3.out.size (.cells #[.string nm] 9))
            obtain ⟨wn, hwn⟩ : ∃ wn, w3.alloc (.cells #[.string nm] 9) = wn := ⟨_, rfl⟩
            rw [hwn] at HN HOA HBA
            go_wp2_with (at_builtin; go_loud (refine wpList_append_own _ rfl _ _ 24 rfl w0.heap.size 9 i0 (.string ⟨#[]⟩) 1 16 Tryz.underlying24 hi hz0 hz1 hz2 rfl (by decide) _ _ _ rfl (row_mono HN.out (Nat.le_trans hsr hs3)) ⟨g, 0, none⟩ k c (acc.reverse.map Value.string) rfl ?c0 ?c1 ?c2 ?c3 ?c4 ?c5 ?_))
            case c0 => rw [List.length_map, List.length_reverse, HL.out, Nat.mul_one]
            case c1 =>
              intro j u hu
              have hj : j < k := by
                have := (List.getElem?_eq_some_iff.1 hu).1
                rwa [List.length_map, List.length_reverse, HL.out] at this
              have := HOA.out.cellAt j (by omega)
              rw [hu] at this
              rw [show (⟨g, 0, none⟩ : Addr).add j = ⟨g, j, none⟩ from by unfold Addr.add; split <;> simp_all]
              exact this
            case c2 => intro u hu; rw [List.mem_map] at hu; obtain ⟨x, _, rfl⟩ := hu; rfl
            case c3 => unfold maxLen; omega
            case c4 => omega
            case c5 => exact HBA.out.size
            intro v9 w9 hown9 hg9 hnil
            have hv9 : v9 ≠ .slice none 0 0 := hnil
            have HBX := Lib.hid (HBA.out.grown hg9 HBA.out.size (fun x hx => by cases hx; show w0.heap.size ≤ w3.heap.size; omega))
            have HO9 := Lib.hid (show w9.ownsRow w0.heap.size 9 1 v9 (k + 1) ((acc ++ [nm]).reverse.map Value.string) from by
              rw [show (acc ++ [nm]).reverse.map Value.string = Value.string nm :: (acc.map Value.string).reverse from by simp, show k + 1 = 1 + k from Nat.add_comm _ _]
              exact hown9)
            have HL9 := Lib.hid (show (acc ++ [nm]).length = k + 1 from by rw [List.length_append, HL.out]; rfl)
            have HSX := Lib.hid (size_app HSZ.out HPS.out)
            have HNE := Lib.hid hv9
            obtain ⟨g9, c9, rfl⟩ := form_ne HO9.out hv9
            clear hown9 hg9 hnil hv9 v0 v1 v2 v3
            go_wp2
            go_roundw
            case rel => exact ⟨k + 1, acc ++ [nm], (pk : Int), rfl, by omega, HL9.out, HNE.out, HO9.out, HSX.out, HU2.out, HBX.out⟩
            case measure => dsimp only; omega
end Go.Proofs.YthppbcnejapbiaaGreatDoor.PaO

-- YthppbcnejapbiaaGreatDoorPaP
/- Contract: the program's PathOf: the names from an inode up, turned about, joined. Conditions: as each theorem types them. -/
namespace Go.Proofs.YthppbcnejapbiaaGreatDoor.PaP
open Go.ChangeShapes Go.WideShapes Go.ChangeAt Go.RowKit Go.Sort
open Foot Bx
open InoV (I)
open FsV (F okF)
open FsY (ino)
open EnV OpF PaO
open PrS (parV parT)
open PaJ (pathJ)
open SplitAny (strInfo own_fresh)
set_option linter.unusedVariables false

theorem enc_map (l : List ByteArray) : (l.map fun b => b.data.toList).map encStr = l.map Value.string := by
  rw [List.map_map]
  exact List.map_congr_left fun b _ => rfl
set_option maxHeartbeats 1600000 in
theorem reversed (W : World) (base : Nat) (v : Value) (k : Nat) (l : List ByteArray) (hk : l.length = k) (h : W.ownsRow base 9 1 v k (l.map Value.string)) (hb : base ≤ W.heap.size) :
    Calls Tryz.prog 90 #[v] W fun e w' => e = .returned (.tuple #[]) ∧ w'.ownsRow base 9 1 v k (l.reverse.map Value.string) ∧ Below base W w' := by
  have h0 := h
  rcases h.2 with ⟨rfl, hk0⟩ | ⟨g, cap, cur, rfl, hg, hbk, hc1, hc2, hc3, ht⟩
  · have hl : l = [] := List.eq_nil_of_length_eq_zero (by omega)
    subst hl
    refine (Tryz.slices_Reverse_string_empty none 0 W).mono ?_
    rintro e w' ⟨rfl, rfl⟩
    exact ⟨rfl, h0, Below.refl _ _⟩
  · subst hk
    have hl : (l.map fun b => b.data.toList).length = l.length := List.length_map _
    have hH := holds_of_block (g := g) (ss := l.map fun b => b.data.toList) hbk (by rw [hl, enc_map, ← ht, Nat.mul_one])
    have hR := Tryz.slices_Reverse_string g 0 cap (l.map fun b => b.data.toList) W hH (by rw [hl]; unfold maxLen at hc2; omega)
    rw [hl] at hR
    refine hR.mono ?_
    rintro e w' ⟨rfl, n, rfl⟩
    have hO := ownsRow_sorted (n := n) (os := #[]) (base := base) (ss := l.map fun b => b.data.toList) (ts := (l.map fun b => b.data.toList).reverse) (by simp) hg hbk (by rw [hl]; exact hc1) hc2 hc3
    rw [hl, ← List.map_reverse, enc_map, grow_empty] at hO
    have hG := grownBy_sorted (w := W) (g := g) (n := n) (os := #[]) (l.map fun b => b.data.toList).reverse.toArray
    rw [grow_empty] at hG
    rw [← List.map_reverse] at hG ⊢
    exact ⟨rfl, hO, (Below.refl base W).grown hG hb (fun x hx => by cases hx; exact hg)⟩

set_option maxRecDepth 100000 in
set_option maxHeartbeats 6400000 in
theorem path_impl (w : World) (v : Value) (f : F) (i : Int) (hc : FsF.cost f ≤ 1073741824) (hl : FsF.Lim f) (hv : InOk.Vars w) (h : FsF.Holds w v f) :
    Calls Tryz.prog 40 #[v, .int .i64 i] w fun e w' => e = .returned (.tuple #[.string (pathOfV f i).1, .bool (pathOfV f i).2]) ∧ Below w.heap.size w w' := by
  have HFS := Lib.hid h
  obtain ⟨T, qa, Q, qc, ia, M, ic, da, D, dc, rfl⟩ := form_fs h
  obtain ⟨w0, hw0⟩ : ∃ w0, w.alloc (.cells #[.int .i64 T, .slice qa Q qc, .slice ia M ic, .slice da D dc] 33) = w0 := ⟨_, rfl⟩
  have hB : Below w.heap.size w w0 := by rw [← hw0]; exact (Below.refl _ w).alloc (Nat.le_refl _) _
  have bF : Bk w0 w.heap.size #[.int .i64 T, .slice qa Q qc, .slice ia M ic, .slice da D dc] 33 := by rw [← hw0]; exact new w _ _
  have HB := Lib.hid hB
  have HBF := Lib.hid bF
  obtain ⟨x0, x1, x2, x3⟩ := Bk.c4 bF
  obtain ⟨B, hBe⟩ : ∃ B, B = okF f := ⟨_, rfl⟩
  have HIS := Lib.hid (show Calls Tryz.prog 75 #[.agg #[.int .i64 T, .slice qa Q qc, .slice ia M ic, .slice da D dc]] w0 fun e w' => e = .returned (.bool B) ∧ Below w0.heap.size w0 w' from by rw [hBe]; exact FsE.is_impl w0 _ f hc hl (hv.all hB) (FsF.holds_below HFS.out hB))
  cases B
  · have HV := Lib.hid (show pathOfV f i = (⟨#[]⟩, false) from if_neg (by rw [← hBe]; simp))
    clear hBe h hB bF hc hl hv
    go_enter Tryz.func40, Tryz.ntmps40
    go_wp2_with fail
    refine (HIS.out).mono ?_
    rintro e w2 ⟨rfl, hb2⟩
    go_wp2
    go_ret2
    exact ⟨ret_sb (by rw [HV.out]) (by rw [HV.out]), HB.out.trans (hb2.mono HB.out.size)⟩
  · obtain ⟨R, hR⟩ : ∃ R, R = upV f 8 i [] := ⟨_, rfl⟩
    have HV := Lib.hid (show pathOfV f i = pathT R from by rw [hR]; exact if_pos hBe.symm)
    have HR := Lib.hid hR
    have HPA := Lib.hid (fun (W : World) (hb : Below w.heap.size w W) (q : Int) => show Calls Tryz.prog 29 #[.agg #[.int .i64 T, .slice qa Q qc, .slice ia M ic, .slice da D dc], .int .i64 q] W fun e w' => e = .returned (.tuple #[.int .i64 (parT (parV f q)).1, .string (parT (parV f q)).2.1, .bool (parT (parV f q)).2.2]) ∧ Below W.heap.size W w' from by
      have := PrI.parent_all W _ f q hc hl (hv.all hb) (FsF.holds_below HFS.out hb)
      rwa [show PrS.parentV f q = parT (parV f q) from if_pos hBe.symm] at this)
    obtain ⟨i0, hi, hz0, hz1, hz2⟩ := info_parts strInfo
    clear hBe h hB bF hc hl hv hR
    go_enter Tryz.func40, Tryz.ntmps40
    go_wp2_with fail
    refine (HIS.out).mono ?_
    rintro e w2 ⟨rfl, hb2⟩
    have HB2 := Lib.hid hb2
    clear x0 x1 x2 x3 hb2
    go_wp2
    go_loopw [1, 6] (fun iv nv wr => ∃ (k : Nat) (acc : List ByteArray) (q : Int), iv = .int .i64 q ∧ k ≤ 8 ∧ acc.length = k ∧ wr.ownsRow w0.heap.size 9 1 nv k (acc.map Value.string) ∧ (∀ x ∈ acc, x.size ≤ 12) ∧ upV f (8 - k) q acc = R ∧ Below w0.heap.size w0 wr) (fun _ nv _ => 8 - (match nv with | .slice _ n _ => n | _ => 0))
    case atStart => exact ⟨0, [], i, rfl, by omega, rfl, SplitAny.own_nil _ _ _, fun x hx => by (cases hx), HR.out.symm, HB2.out⟩
    case round =>
      obtain ⟨k, acc, q, rfl, hk, hlen, how, hsz, hup, hbel⟩ := hrel
      obtain ⟨ao, c, rfl⟩ := Dk.slice_of how
      have HO := Lib.hid how
      have HL := Lib.hid hlen
      have HSZ := Lib.hid hsz
      have HUP := Lib.hid hup
      have HBE := Lib.hid hbel
      have HBR := Lib.hid (HB.out.trans (hbel.mono HB.out.size))
      have hsr := hbel.size
      obtain ⟨v0, v1, v2, v3⟩ := Bk.c4 (HBF.out.all HBE.out)
      clear hlen how hsz hup hbel
      by_cases hq0 : q = 0
      · subst hq0
        have HE := Lib.hid (show pathOfV f i = (pathJ acc.reverse, true) from by rw [HV.out, ← HUP.out, up_zero]; rfl)
        have HRV := Lib.hid (reversed wr w0.heap.size (.slice ao k c) k acc HL.out HO.out hsr)
        clear v0 v1 v2 v3
        go_wp2_with fail
        refine (HRV.out).mono ?_
        rintro e w3 ⟨rfl, how3, hb3⟩
        have HB3 := Lib.hid (HBE.out.trans hb3)
        have HJ := Lib.hid (PaJ.join_impl w3 (.slice ao k c) acc.reverse (short HL.out hk HSZ.out) (Strs.holds_of_own how3) (own_cap how3))
        clear how3 hb3
        go_wp2_with fail
        refine (HJ.out).mono ?_
        rintro e w4 ⟨rfl, hb4⟩
        have HB4 := Lib.hid (HB.out.trans ((HB3.out.trans (hb4.mono HB3.out.size)).mono HB.out.size))
        clear hb4
        go_wp2
        go_ret2
        exact ⟨ret_sb (by rw [HE.out]) (by rw [HE.out]), HB4.out⟩
      · have hqn : (q != 0) = true := by simpa using hq0
        have HQ := Lib.hid hq0
        obtain ⟨P, hP⟩ : ∃ P, parV f q = P := ⟨_, rfl⟩
        have HP := Lib.hid hP
        have HC := Lib.hid (HPA.out wr HBR.out q)
        rw [hP] at HC
        clear hP hq0
        cases P
        · have HE := Lib.hid (show pathOfV f i = (⟨#[]⟩, false) from by rw [HV.out, ← HUP.out, up_none HQ.out HP.out]; rfl)
          go_wp2_with fail
          refine (HC.out).mono ?_
          rintro e w3 ⟨rfl, hb3⟩
          have HB3 := Lib.hid (HBR.out.trans (hb3.mono HBR.out.size))
          clear hb3
          unfold parT
          go_wp2
          go_ret2
          exact ⟨ret_sb (by rw [HE.out]) (by rw [HE.out]), HB3.out⟩
        · rename_i p
          obtain ⟨pk, nm⟩ := p
          have HPS := Lib.hid (par_size HP.out)
          go_wp2_with fail
          refine (HC.out).mono ?_
          rintro e w3 ⟨rfl, hb3⟩
          have HB3 := Lib.hid (HBE.out.trans (hb3.mono HBE.out.size))
          have HBW := Lib.hid (HBR.out.trans (hb3.mono HBR.out.size))
          have HO3 := Lib.hid (row_below HO.out hb3)
          have hs3 := hb3.size
          clear hb3
          unfold parT
          dsimp only
          by_cases hk8 : k = 8
          · subst hk8
            have HE := Lib.hid (show pathOfV f i = (⟨#[]⟩, false) from by rw [HV.out, ← HUP.out]; exact (congrArg pathT (up_full HQ.out)).trans rfl)
            go_wp2
            go_ret2
            exact ⟨ret_sb (by rw [HE.out]) (by rw [HE.out]), HBW.out⟩
          · have hk8n : ((k : Int) == 8) = false := by simp; omega
            have HU2 := Lib.hid (show upV f (8 - (k + 1)) (pk : Int) (acc ++ [nm]) = R from by
              rw [← HUP.out, show 8 - k = (8 - (k + 1)) + 1 from by omega]
              exact (up_next HQ.out HP.out).symm)
            go_wp2_with (at_builtin; go_loud (refine wpList_append_own _ rfl _ _ 24 rfl w0.heap.size 9 i0 (.string ⟨#[]⟩) 1 16 Tryz.underlying24 hi hz0 hz1 hz2 rfl (by decide) _ _ _ rfl (HO3.out.alloc _) ⟨w3.heap.size, 0, none⟩ 1 1 [.string nm] rfl rfl (cell_one_new _ _ _) (by simp [Value.oneCell']) ?c3 ?c4 ?c5 ?_))
            case c3 => unfold maxLen; omega
            case c4 => omega
            case c5 => simp only [World.size_alloc]; omega
            intro v9 w9 hown9 hg9 _
            have HBX := Lib.hid ((HB3.out.alloc HB3.out.size (.cells #[.string nm] 9)).grown hg9 (by simp only [World.size_alloc]; omega) (fun x hx => (HO3.out.lt x hx).1))
            have HO9 := Lib.hid (show w9.ownsRow w0.heap.size 9 1 v9 (k + 1) ((acc ++ [nm]).map Value.string) from by
              rw [show (acc ++ [nm]).map Value.string = acc.map Value.string ++ [Value.string nm] from by simp]
              exact hown9)
            have HL9 := Lib.hid (show (acc ++ [nm]).length = k + 1 from by rw [List.length_append, HL.out]; rfl)
            have HSX := Lib.hid (size_app HSZ.out HPS.out)
            clear hg9 v0 v1 v2 v3
            obtain ⟨g9, c9, rfl⟩ := Dk.slice_of hown9
            clear hown9
            go_wp2
            go_roundw
            case rel => exact ⟨k + 1, acc ++ [nm], (pk : Int), rfl, by omega, HL9.out, HO9.out, HSX.out, HU2.out, HBX.out⟩
            case measure => dsimp only; omega
end Go.Proofs.YthppbcnejapbiaaGreatDoor.PaP
