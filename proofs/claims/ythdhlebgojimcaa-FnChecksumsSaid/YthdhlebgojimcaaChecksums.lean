/- Proved: for every code, the law FnChecksums returns true and leaves its argument as it was: a changed byte changes the checksum, and the empty string's is 1. No condition beyond the row's own. -/
import Derived.Test.YthdhlebgojimcaaChecksum
import Derived.Test.YthdhlebgojimcaaMakeBytes
import Derived.Test.YthdhlebgojimcaaCode
namespace Go.Proofs.Ythdhlebgojimcaa.Checksums
open Go.ChangeShapes Go.WideShapes Go.ChangeAt Go.RowKit
open Cur (CodeIn code_kept)
open RowG (OwnG bytes_own cellsB cellsB_set back)
open Checksum (sumC stepC crc sumC_lt)
set_option linter.unusedVariables false

theorem fold_one : ∀ (l : List UInt8) (p : Nat × Nat), (l.foldl stepC p).1 % 65521 = (p.1 + (l.map (·.toNat)).sum) % 65521
  | [], p => by simp
  | c :: l, p => by
    rw [List.foldl_cons, fold_one l]
    simp only [stepC, List.map_cons, List.sum_cons]
    omega
theorem sum_one (l : List UInt8) : (sumC l).1 = (1 + (l.map (·.toNat)).sum) % 65521 := by
  have h := fold_one l (1, 0)
  have := (sumC_lt l).1
  unfold sumC at *
  rw [Nat.mod_eq_of_lt this] at h
  exact h
theorem crc_one (l : List UInt8) : crc l % 65536 = (sumC l).1 := by
  have := (sumC_lt l).1
  unfold crc
  omega
theorem sum_set (l : List UInt8) (i : Nat) (b : UInt8) (h : i < l.length) : ((l.set i b).map (·.toNat)).sum + l[i].toNat = (l.map (·.toNat)).sum + b.toNat := by
  induction l generalizing i with
  | nil => simp at h
  | cons c l ih =>
    cases i with
    | zero => simp; omega
    | succ i =>
      have := ih i (by simpa using h)
      simp only [List.set_cons_succ, List.map_cons, List.sum_cons, List.getElem_cons_succ]
      omega
/-- One byte, raised by one, changes the checksum. -/
theorem crc_ne (l : List UInt8) (i : Nat) (b : UInt8) (h : i < l.length) (hb : b.toNat = (l[i].toNat + 1) % 256) : crc (l.set i b) ≠ crc l := by
  intro e
  have h1 := crc_one (l.set i b)
  have h2 := crc_one l
  rw [e, h2, sum_one, sum_one] at h1
  have h3 := sum_set l i b h
  have h4 := l[i].toNat_lt
  generalize ((l.set i b).map (·.toNat)).sum = x at *
  generalize (l.map (·.toNat)).sum = y at *
  omega
theorem code_at {w w' : World} {cv : Value} {ns : List Nat} (h : CodeIn w w.heap.size cv ns) (hb : Below w.heap.size w w') : CodeIn w' w'.heap.size cv ns := by
  obtain ⟨a, cap, rfl, hn, hx, hc⟩ := code_kept h hb.block
  refine ⟨a, cap, rfl, hn, hx, fun hp => ?_⟩
  obtain ⟨b, o, h1, h2, h3⟩ := hc hp
  exact ⟨b, o, h1, Nat.lt_of_lt_of_le h2 hb.size, h3⟩

set_option maxHeartbeats 1000000 in
theorem law_any (cv : Value) (ns : List Nat) (w : World) (hc : CodeIn w w.heap.size cv ns) :
    Calls Try.prog 3 #[cv] w fun e w' => e = .returned (.bool true) ∧ Below w.heap.size w w' := by
  have HC := Lib.hid hc
  have hlen := hc.choose_spec.choose_spec.2.1
  obtain ⟨a, cap, rfl⟩ : ∃ a cap, cv = .slice a ns.length cap := ⟨_, _, hc.choose_spec.choose_spec.1⟩
  clear hc
  have hl2 : ¬ (1048576 : Int) < (ns.length : Int) := by omega
  go_enter Try.func3, Try.ntmps3
  go_wp2_with fail
  refine (MakeBytes.make_any _ _ ns 5 (by omega) HC.out).mono ?_
  rintro e w1 ⟨s0, hs0, rfl, hb1⟩
  have HB1 := Lib.hid hb1
  clear hb1
  have hone : (⟨#[107]⟩ : ByteArray).size = 1 := rfl
  have hsz : (s0 ++ ⟨#[107]⟩).size = s0.size + 1 := by rw [ByteArray.size_append, hone]
  have hs1 : 1 ≤ (s0 ++ ⟨#[107]⟩).size := by omega
  have hs2 : (s0 ++ ⟨#[107]⟩).size ≤ 41 := by omega
  have hone' : (⟨#[107]⟩ : ByteArray).size ≤ 1 := Nat.le_refl _
  clear hone hsz
  go_wp2_with fail
  generalize (s0 ++ ⟨#[107]⟩ : ByteArray) = s at hs1 hs2 ⊢
  refine (Make.num_any _ _ ns 1 (by omega) (code_at HC.out HB1.out)).mono ?_
  rintro e w2 ⟨n, hn, rfl, hb2⟩
  have HB2 := Lib.hid (HB1.out.trans (hb2.mono HB1.out.size))
  clear hb2
  have hby := bytes_own w2 5 s (by unfold maxLen; omega)
  have hkc := Lib.run_convert_string_bytes (P := Try.prog) w2 9 22 5 s Try.underlying9 Try.underlying22 Try.underlying5
  have hi : n % s.size < s.size := Nat.mod_lt _ (by omega)
  have hs0 : ¬ s.size = 0 := by omega
  generalize Lib.bytesWorld w2 5 s = w3 at hby hkc
  obtain ⟨hown, hb3⟩ := hby
  have HOWN := Lib.hid hown
  have HB3 := Lib.hid (HB2.out.trans (hb3.mono HB2.out.size))
  clear hb3
  have hil : n % s.size < s.data.toList.length := by simpa using hi
  have hcc : ∃ c, s.data.toList[n % s.size]'hil = c := ⟨_, rfl⟩
  obtain ⟨c, hc0⟩ := hcc
  have c0 : w3.cell? ⟨w2.heap.size, n % s.size, none⟩ = some (.int .u8 (c.toNat : Int)) := by
    rw [HOWN.out.cellAt _ hi, ← hc0]
    simp [List.getElem?_eq_getElem hil]
  have f0 : w3.frozen? ⟨w2.heap.size, n % s.size, none⟩ = false := HOWN.out.frozenAt _ hi
  obtain ⟨b, hb⟩ : ∃ b : UInt8, b.toNat = (c.toNat + 1) % 256 := ⟨UInt8.ofNat ((c.toNat + 1) % 256), by rw [UInt8.toNat_ofNat']; omega⟩
  have HNE := Lib.hid (crc_ne s.data.toList (n % s.size) b hil (by rw [hc0]; exact hb))
  have hst := (HOWN.out.stored (n % s.size) (.int .u8 (b.toNat : Int))).1
  rw [show (s.data.toList.map fun b => Value.int .u8 (b.toNat : Int)) = cellsB s.data.toList from rfl, cellsB_set] at hst
  have hbk := back hst
  have hbi : ((b.toNat : Nat) : Int) = ((c.toNat : Int) + 1) % 256 := by omega
  rw [hbi] at hbk
  have HB4 := Lib.hid (HB3.out.setCell (p := ⟨w2.heap.size, n % s.size, none⟩) HB2.out.size (.int .u8 (((c.toNat : Int) + 1) % 256)))
  have htz : (⟨(s.data.toList.set (n % s.size) b).toArray⟩ : ByteArray).size = s.size := by simp only [ByteArray.size, List.size_toArray, List.length_set, Array.length_toList]
  have hts : (⟨(s.data.toList.set (n % s.size) b).toArray⟩ : ByteArray).size ≤ 41 := by omega
  clear hown hc0 hb hst hbi htz
  generalize hg : s.data.toList.set (n % s.size) b = l at *
  have hcl := c.toNat_lt
  clear hg
  go_wp2_with fail
  refine (Checksum.impl_any _ _ (by omega)).mono ?_
  rintro e w4 ⟨rfl, hb4⟩
  have HB5 := Lib.hid (HB4.out.trans (hb4.mono HB4.out.size))
  rw [show (ByteArray.mk l.toArray).data.toList = l from by simp]
  clear hb4
  go_wp2_with fail
  refine (Checksum.impl_any _ _ (by omega)).mono ?_
  rintro e w5 ⟨rfl, hb5⟩
  have HB6 := Lib.hid (HB5.out.trans (hb5.mono HB5.out.size))
  clear hb5
  have hne : (((crc l : Nat) : Int) != ((crc s.data.toList : Nat) : Int)) = true := by
    have := HNE.out
    rw [bne_iff_ne]; omega
  generalize crc s.data.toList = y at hne ⊢
  generalize crc l = x at hne ⊢
  go_wp2_with fail
  refine (Checksum.impl_any _ _ (by decide)).mono ?_
  rintro e w6 ⟨rfl, hb6⟩
  have HB7 := Lib.hid (HB6.out.trans (hb6.mono HB6.out.size))
  clear hb6
  rw [show crc (ByteArray.mk #[]).data.toList = 1 from rfl]
  go_wp2_with fail
  go_ret
  exact ⟨rfl, HB7.out⟩

theorem law_big (a0 : Option Addr) (len0 cap0 : Nat) (w : World) (h : 1048576 < len0) :
    Calls Try.prog 3 #[.slice a0 len0 cap0] w fun e w' => e = .returned (.bool true) ∧ Below w.heap.size w w' := by
  have h2 : (1048576 : Int) < (len0 : Int) := by omega
  go_enter Try.func3, Try.ntmps3
  go_wp2_with fail
  go_ret
  exact ⟨rfl, Below.refl _ _⟩

set_option maxRecDepth 100000 in
theorem lifted (os : Os) (started : os.Started) (H : Type) (enc : TypeId × Value → H) :
    ReturnsInHanded {} Try.checked os 3 .any (Rows.fnChecksumsSpec.pre6 enc Try.prog Try.f3 Rows.fnChecksumsRow.domain false) (Rows.fnChecksumsSpec.post enc Try.prog Try.f3 false true false false) := by
  refine returnsInHanded_of_change (C := Try.checked) Kit.own started (by kernel_rfl) Try.func3
    (ChangeSpec.witness6 (enc := enc) (C := Try.checked) false ⟨#[], #[.slice none 0 0], []⟩ 8 (by kernel_rfl) (by kernel_rfl) (by kernel_rfl) (by kernel_rfl)) ?_
  intro W base args ds gs before hval0 hW hcnd _
  have hval : ∀ (j : Nat) t v, Try.f3.params[j]? = some t → args[j]? = some v → Value.okWide Try.prog W .any base t v := hval0
  have hW' := hW
  obtain ⟨p, q, hA0, hV, rfl, hfz, hnd⟩ := hW
  have hA : DataW.TrodAll enc Try.prog W 0 (fun _ => true) true Try.f3.params.toList args.toList ds p := hA0
  rw [Try.params3] at hA hval
  obtain ⟨v0, d0, rfl, rfl, h0⟩ := trodAll_one hA
  obtain ⟨a0, len0, cap0, rfl⟩ := okWide_slice Try.underlying22 (hval 0 22 v0 rfl rfl)
  have hlaw : Calls Try.prog 3 #[.slice a0 len0 cap0] W fun e w' => e = .returned (.bool true) ∧ Below W.heap.size W w' := by
    by_cases hbig : 1048576 < len0
    · exact law_big _ _ _ W hbig
    · obtain ⟨ns, hns, hcode⟩ := Cur.open_code h0 (by omega)
      exact law_any _ ns W hcode
  refine hlaw.mono fun e W' ⟨he, hb⟩ => ?_
  subst he
  exact ⟨_, rfl, Kit.law_post Kit.laidOut (by kernel_rfl) Try.underlying4 rfl rfl (fun H ds hl => by match ds, hl with | [d0], _ => rfl) hW' hb⟩

theorem holds : Rows.FnChecksumsSaid :=
  OpenClaim.holds_of_wide 3 Try.f3 rfl rfl rfl rfl rfl rfl rfl ⟨rfl, rfl, rfl, rfl, rfl⟩ rfl rfl rfl rfl rfl (by kernel_rfl) Try.func3 (by kernel_rfl)
    (of_decide_eq_true (by kernel_rfl)) (by unfold Func.isWrapper; first | (rw [if_pos (by decide +kernel)]; kernel_rfl) | (rw [if_neg (by decide +kernel)]; exact ⟨rfl, rfl⟩))
    (fun os started H enc _ => lifted os started H enc)
#print axioms holds
end Go.Proofs.Ythdhlebgojimcaa.Checksums
