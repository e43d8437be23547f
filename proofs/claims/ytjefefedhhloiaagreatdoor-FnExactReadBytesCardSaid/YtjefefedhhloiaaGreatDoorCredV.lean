/- Credentials as values; who may do what: what the lists, the classes and the mask say. Plain facts, no condition. -/
import Derived.Test.YtjefefedhhloiaaGreatDoorModeV
import Derived.Test.YtjefefedhhloiaaGreatDoorAclQ
namespace Go.Proofs.YtjefefedhhloiaaGreatDoor.CredV
open Go
open AclV ModeV
set_option linter.unusedVariables false

/-- Credentials: user, group, further groups. -/
abbrev Cr := Int × Int × List Int
def userB (n : Int) : Bool := decide (0 ≤ n) && decide (n ≤ 3)
theorem user_iff (n : Int) : userB n = true ↔ 0 ≤ n ∧ n ≤ 3 := by simp [userB]
/-- The first k groups are users' numbers and ascend. -/
def ascB (l : List Int) (k : Nat) : Bool := (List.range k).all fun i => userB (l.getD i 0) && (i == 0 || decide (l.getD (i - 1) 0 < l.getD i 0))
theorem ascB_succ (l : List Int) (k : Nat) : ascB l (k + 1) = (ascB l k && (userB (l.getD k 0) && (k == 0 || decide (l.getD (k - 1) 0 < l.getD k 0)))) := by
  simp [ascB, List.range_succ]
theorem ascB_mono {l : List Int} {j k : Nat} (h : ascB l k = true) (hjk : j ≤ k) : ascB l j = true := by
  unfold ascB at *
  rw [List.all_eq_true] at *
  exact fun i hi => h i (by rw [List.mem_range] at *; omega)
def credB (c : Cr) : Bool := ascB c.2.2 c.2.2.length && userB c.1 && userB c.2.1
theorem asc_least {l : List Int} : ∀ (k : Nat), ascB l (k + 1) = true → (k : Int) ≤ l.getD k 0
  | 0, h => by
    rw [ascB_succ] at h
    simp only [Bool.and_eq_true] at h
    have := (user_iff _).1 h.2.1
    omega
  | k + 1, h => by
    have h1 := asc_least k (ascB_mono h (by omega))
    rw [ascB_succ] at h
    simp at h
    have := h.2.2
    simp only [List.getD_eq_getElem?_getD] at *
    omega
/-- There are four groups at most. -/
theorem asc_len {l : List Int} (h : ascB l l.length = true) : l.length ≤ 4 := by
  rcases Nat.lt_or_ge 4 l.length with hl | hl
  · have h5 := ascB_mono h (show 4 + 1 ≤ l.length by omega)
    have h4 := asc_least 4 h5
    rw [ascB_succ] at h5
    simp only [Bool.and_eq_true] at h5
    have := (user_iff _).1 h5.2.1
    omega
  · exact hl
theorem cred_zero : credB (0, 0, []) = true := rfl
/-- A group of the credentials. -/
def inB (c : Cr) (g : Int) : Bool := decide (c.2.1 = g) || c.2.2.any fun x => decide (x = g)
theorem in_gid (c : Cr) : inB c c.2.1 = true := by simp [inB]
/-- A permission has all bits of another one. -/
def andP (a b : Int) : Int := ((a.toNat &&& b.toNat : Nat) : Int)
def covB (a b : Int) : Bool := decide (andP a b = b)
theorem and_all : ∀ a, a < 8 → ∀ b, b < 8 → bits .and .i64 ((a : Nat) : Int) ((b : Nat) : Int) = ((a &&& b : Nat) : Int) := by decide +kernel
theorem and_bits {a b : Int} (ha : 0 ≤ a) (ha' : a ≤ 7) (hb : 0 ≤ b) (hb' : b ≤ 7) : bits .and .i64 a b = andP a b := by
  obtain ⟨x, rfl⟩ := Int.eq_ofNat_of_zero_le ha
  obtain ⟨y, rfl⟩ := Int.eq_ofNat_of_zero_le hb
  have := and_all x (by omega) y (by omega)
  unfold andP
  simpa using this
theorem cov_tr : ∀ a, a < 8 → ∀ b, b < 8 → ∀ c, c < 8 → ((a &&& b : Nat) = b) → ((b &&& c : Nat) = c) → (a &&& c : Nat) = c := by decide +kernel
theorem cov_and : ∀ a, a < 8 → ∀ b, b < 8 → ∀ c, c < 8 → (((a &&& b : Nat) &&& c) = c) → (b &&& c : Nat) = c := by decide +kernel
theorem and_lt : ∀ a, a < 8 → ∀ b, b < 8 → (a &&& b : Nat) < 8 := by decide +kernel
def In8 (a : Int) : Prop := 0 ≤ a ∧ a ≤ 7
theorem and_in {a b : Int} (ha : In8 a) (hb : In8 b) : In8 (andP a b) := by
  have := and_lt a.toNat (by have := ha.2; have := ha.1; omega) b.toNat (by have := hb.2; have := hb.1; omega)
  unfold In8 andP
  omega
theorem cov_iff {a b : Int} (hb : 0 ≤ b) : covB a b = true ↔ (a.toNat &&& b.toNat) = b.toNat := by
  unfold covB andP
  rw [decide_eq_true_eq]
  omega
/-- A permission includes all smaller ones. -/
theorem cov_trans {a b c : Int} (ha : In8 a) (hb : In8 b) (hc : In8 c) (h1 : covB a b = true) (h2 : covB b c = true) : covB a c = true := by
  rw [cov_iff hb.1] at h1
  rw [cov_iff hc.1] at h2 ⊢
  exact cov_tr a.toNat (by have := ha.1; have := ha.2; omega) b.toNat (by have := hb.1; have := hb.2; omega) c.toNat (by have := hc.1; have := hc.2; omega) h1 h2
theorem cov_mask {a b c : Int} (ha : In8 a) (hb : In8 b) (hc : In8 c) (h : covB (andP a b) c = true) : covB b c = true := by
  rw [cov_iff hc.1] at h ⊢
  exact cov_and a.toNat (by have := ha.1; have := ha.2; omega) b.toNat (by have := hb.1; have := hb.2; omega) c.toNat (by have := hc.1; have := hc.2; omega) (by simpa [andP] using h)

theorem ent_in {l : List At} (h : okB l = true) {x : At} (hx : x ∈ l) : In8 x.2.2 := by
  have := ent_facts (ok_ent h x hx)
  exact ⟨this.1, this.2.1⟩
theorem mask_in {l : List At} (h : okB l = true) : In8 (maskV l) := by
  unfold maskV
  split
  · rename_i x hx
    exact ent_in h (List.mem_of_find?_eq_some hx)
  · exact ⟨by omega, by omega⟩
theorem perm_in {l : List At} (h : okB l = true) (t i : Int) : In8 (permV l t i).1 := by
  unfold permV
  split
  · rename_i x hx
    exact ent_in h (List.mem_of_find?_eq_some hx)
  · exact ⟨by show (0 : Int) ≤ 0; omega, by show (0 : Int) ≤ 7; omega⟩

/-- The arguments of Allowed are valid. -/
def argsB (c : Cr) (uid gid mode : Int) (l : List At) (want : Int) : Bool := credB c && okB l && userB uid && userB gid && modeB mode && decide (0 ≤ want) && decide (want ≤ 7)
/-- An entry of a group of the credentials. -/
def grpB (c : Cr) (x : At) : Bool := decide (x.1 = 2) && inB c x.2.1
/-- What the classes, the list and its mask decide, want being 0 to 7. -/
def decideV (c : Cr) (uid gid mode : Int) (l : List At) (want : Int) : Bool :=
  if c.1 = 0 then true
  else if c.1 = uid then covB (permOfV mode 0) want
  else if (permV l 1 c.1).2 = true then covB (andP (permV l 1 c.1).1 (maskV l)) want
  else if (inB c gid || l.any (grpB c)) = true then ((inB c gid && covB (permOfV mode 1) want) || l.any fun x => grpB c x && covB x.2.2 want) && covB (maskV l) want
  else covB (permOfV mode 2) want
def allowedV (c : Cr) (uid gid mode : Int) (l : List At) (want : Int) : Bool := argsB c uid gid mode l want && decideV c uid gid mode l want
/-- The superuser has all. -/
theorem allowed_super {c : Cr} {uid gid mode : Int} {l : List At} {want : Int} (h : argsB c uid gid mode l want = true) (h0 : c.1 = 0) : allowedV c uid gid mode l want = true := by
  rw [allowedV, h, decideV, if_pos h0]; rfl
/-- A permission includes all smaller ones. -/
theorem allowed_less {c : Cr} {uid gid mode : Int} {l : List At} {want less : Int} (hl : okB l = true) (hw : In8 want) (hs : In8 less) (h : allowedV c uid gid mode l want = true) (hsub : covB want less = true) : allowedV c uid gid mode l less = true := by
  unfold allowedV at *
  rw [Bool.and_eq_true] at *
  obtain ⟨ha, hd⟩ := h
  have ha2 : argsB c uid gid mode l less = true := by
    simp only [argsB, Bool.and_eq_true, decide_eq_true_eq] at ha ⊢
    exact ⟨⟨ha.1.1, hs.1⟩, hs.2⟩
  refine ⟨ha2, ?_⟩
  unfold decideV at *
  by_cases h0 : c.1 = 0
  · rw [if_pos h0]
  · rw [if_neg h0] at hd ⊢
    by_cases h1 : c.1 = uid
    · rw [if_pos h1] at hd ⊢
      exact cov_trans (permOf_range _ _) hw hs hd hsub
    · rw [if_neg h1] at hd ⊢
      by_cases h2 : (permV l 1 c.1).2 = true
      · rw [if_pos h2] at hd ⊢
        exact cov_trans (and_in (perm_in hl _ _) (mask_in hl)) hw hs hd hsub
      · rw [if_neg h2] at hd ⊢
        by_cases h3 : (inB c gid || l.any (grpB c)) = true
        · rw [if_pos h3] at hd ⊢
          rw [Bool.and_eq_true, Bool.or_eq_true] at hd ⊢
          refine ⟨?_, cov_trans (mask_in hl) hw hs hd.2 hsub⟩
          rcases hd.1 with h4 | h4
          · rw [Bool.and_eq_true] at h4 ⊢
            exact .inl ⟨h4.1, cov_trans (permOf_range _ _) hw hs h4.2 hsub⟩
          · rw [List.any_eq_true] at h4 ⊢
            obtain ⟨x, hx, h5⟩ := h4
            rw [Bool.and_eq_true] at h5
            exact .inr ⟨x, hx, by rw [Bool.and_eq_true]; exact ⟨h5.1, cov_trans (ent_in hl hx) hw hs h5.2 hsub⟩⟩
        · rw [if_neg h3] at hd ⊢
          exact cov_trans (permOf_range _ _) hw hs hd hsub
/-- The mask limits a user whom the list names. -/
theorem allowed_mask {c : Cr} {uid gid mode : Int} {l : List At} {want : Int} (hl : okB l = true) (hw : In8 want) (h : allowedV c uid gid mode l want = true) (hn : (permV l 1 c.1).2 = true) (h0 : c.1 ≠ 0) (h1 : c.1 ≠ uid) : covB (maskV l) want = true := by
  rw [allowedV, Bool.and_eq_true, decideV, if_neg h0, if_neg h1, if_pos hn] at h
  exact cov_mask (perm_in hl _ _) (mask_in hl) hw h.2
/-- The owner's class decides about the owner. -/
theorem allowed_owner {c : Cr} {uid gid mode : Int} {l : List At} {want : Int} (h : argsB c uid gid mode l want = true) (h0 : c.1 ≠ 0) (h1 : c.1 = uid) : allowedV c uid gid mode l want = covB (permOfV mode 0) want := by
  rw [allowedV, h, decideV, if_neg h0, if_pos h1, Bool.true_and]
/-- Who may remove from a directory. -/
def mayV (c : Cr) (d m u : Int) : Bool := credB c && modeB m && (!stickyB m || decide (c.1 = 0) || decide (c.1 = d) || decide (c.1 = u))
end Go.Proofs.YtjefefedhhloiaaGreatDoor.CredV
