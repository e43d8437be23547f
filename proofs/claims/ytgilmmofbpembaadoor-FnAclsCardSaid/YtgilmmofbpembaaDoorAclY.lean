/- Contracts: strings.Cut at a colon; the program's parseEntry reads a word. Conditions: the word's length; the library's table of powers of ten and its two sentinel errors read as laid. -/
import Derived.Test.YtgilmmofbpembaaDoorAclW
import Derived.Test.YtgilmmofbpembaaDoorAclI
namespace Go.Proofs.YtgilmmofbpembaaDoor.AclY
open Go.ChangeShapes Go.WideShapes Go.ChangeAt Go.RowKit
open AclV AclB AclW
open ParseInt (parseP)
set_option linter.unusedVariables false

/-- What the library's variables read as. -/
structure Vars (w : World) : Prop where
  tab : Lib.TabIs Tryd.prog w "internal/strconv.uint64pow10" .u64 Lib.pow10Tab
  syn : ∃ u v, w.var? Tryd.prog "strconv.ErrSyntax" = some #[.iface u v]
  ran : ∃ u v, w.var? Tryd.prog "strconv.ErrRange" = some #[.iface u v]
theorem Vars.below {w w' : World} (h : Vars w) (hb : Below w.heap.size w w') : Vars w' := by
  obtain ⟨h1, ⟨tp, p, h2⟩, ⟨tq, q, h3⟩⟩ := h
  exact ⟨FormatInt.tab_below Laid.gTab (Laid.tab_lt h1) h1 hb, ⟨tp, p, Laid.var_below Laid.gSyn (Laid.var_lt Laid.gSyn h2 (by simp)) h2 hb⟩, ⟨tq, q, Laid.var_below Laid.gRan (Laid.var_lt Laid.gRan h3 (by simp)) h3 hb⟩⟩
theorem int_any (s : ByteArray) (w : World) (hs : s.size ≤ 1048576) (hv : Vars w) :
    Calls Tryd.prog 47 #[.string s] w fun e w' => e = .returned (.tuple #[.int .i64 (parseP s).1, .bool (parseP s).2]) ∧ Below w.heap.size w w' := by
  obtain ⟨h1, ⟨tp, p, h2⟩, ⟨tq, q, h3⟩⟩ := hv
  exact ParseInt.impl_any s w hs (Laid.tab_lt h1) h1 tp p h2 tq q h3

set_option maxRecDepth 100000 in
set_option maxHeartbeats 1600000 in
theorem slCut_any (x : ByteArray) (w : World) (hx : x.size ≤ 1048576) :
    Calls Tryd.prog 59 #[.string x, .string ⟨#[58]⟩] w fun e w' => ∃ b, e = .returned (.tuple #[.string (cutN x), .string (cutR x), .bool b]) ∧ Below w.heap.size w w' := by
  have HI := Lib.hid (Tryd.stringslite_Index_one x 58 w)
  rcases col_range x with h | ⟨m, h, hm⟩
  · have HN := Lib.hid (show cutN x = x by rw [cutN, if_pos h])
    have HR := Lib.hid (show cutR x = ⟨#[]⟩ by rw [cutR, if_pos h])
    unfold colI at h
    rw [h] at HI
    clear h
    go_enter Tryd.func59, Tryd.ntmps59
    go_wp2_with fail
    refine HI.out.mono ?_
    rintro e wq ⟨rfl, rfl⟩
    go_wp2
    refine bodyPost_ret (v := .tuple #[.string x, .string ⟨#[]⟩, .bool false]) (by simp [results, Tryd.results59, go_sem]) rfl ⟨false, by rw [HN.out, HR.out], Below.refl _ _⟩
  · have HN := Lib.hid (show cutN x = x.extract 0 m by rw [cutN, if_neg (by rw [h]; omega), h]; rfl)
    have HR := Lib.hid (show cutR x = x.extract (m + 1) x.size by rw [cutR, if_neg (by rw [h]; omega), h]; rfl)
    unfold colI at h
    rw [h] at HI
    clear h
    have hw : IntKind.i64.wrap ((m : Int) + 1) = (m : Int) + 1 := IntWalk.i64_in _ (by omega)
    have h58 : (⟨#[58]⟩ : ByteArray).size = 1 := rfl
    go_enter Tryd.func59, Tryd.ntmps59
    go_wp2_with fail
    refine HI.out.mono ?_
    rintro e wq ⟨rfl, rfl⟩
    go_wp2
    refine Fam.region (by kernel_rfl) (by kernel_rfl) ?_
    repeat (go_big_quiet_step (fail))
    refine wpQuiet_nil ?_
    intro _ hw'
    obtain ⟨nq, hw''⟩ := hw'
    subst hw''
    have hbq := Fam.wld_below wq nq
    generalize Fam.wld wq nq = w9 at hbq ⊢
    go_wp2
    refine bodyPost_ret (v := .tuple #[.string (x.extract 0 m), .string (x.extract (m + 1) x.size), .bool true]) (by simp [results, Tryd.results59, go_sem]) rfl ⟨true, by rw [HN.out, HR.out], hbq⟩
theorem cut_any (x : ByteArray) (w : World) (hx : x.size ≤ 1048576) :
    Calls Tryd.prog 45 #[.string x, .string ⟨#[58]⟩] w fun e w' => ∃ b, e = .returned (.tuple #[.string (cutN x), .string (cutR x), .bool b]) ∧ Below w.heap.size w w' := by
  have HC := Lib.hid (slCut_any x w hx)
  generalize cutN x = p at HC ⊢
  generalize cutR x = q at HC ⊢
  go_enter Tryd.func45, Tryd.ntmps45
  go_wp2_with fail
  refine HC.out.mono ?_
  rintro e w1 ⟨b, rfl, hb⟩
  go_wp2
  exact bodyPost_ret (v := .tuple #[.string p, .string q, .bool b]) (by simp [results, Tryd.results45, go_sem]) rfl ⟨b, rfl, hb⟩

/-- An entry's variable: its block. -/
def BX (w : World) (b : Nat) (x : At) : Prop := w.heap[b]? = some (.cells #[.int .i64 x.1, .int .i64 x.2.1, .int .i64 x.2.2] 30 (0, 0))
theorem BX.new (w : World) (x : At) : BX (w.alloc (.cells #[.int .i64 x.1, .int .i64 x.2.1, .int .i64 x.2.2] 30)) w.heap.size x := Dk.blk_new w (.cells #[.int .i64 x.1, .int .i64 x.2.1, .int .i64 x.2.2] 30)
theorem BX.below {w w' : World} {b : Nat} {x : At} (h : BX w b x) (hb : Below w.heap.size w w') : BX w' b x := (hb.block b (Array.getElem?_eq_some_iff.1 h).1).trans h
theorem BX.lt {w : World} {b : Nat} {x : At} (h : BX w b x) : b < w.heap.size := (Array.getElem?_eq_some_iff.1 h).1
theorem BX.cells {w : World} {b : Nat} {x : At} (h : BX w b x) : w.cell? ⟨b, 0, none⟩ = some (.int .i64 x.1) ∧ w.cell? ⟨b, 1, none⟩ = some (.int .i64 x.2.1) ∧ w.cell? ⟨b, 2, none⟩ = some (.int .i64 x.2.2) ∧ w.frozen? ⟨b, 0, none⟩ = false ∧ w.frozen? ⟨b, 1, none⟩ = false ∧ w.frozen? ⟨b, 2, none⟩ = false := by
  unfold BX at h
  refine ⟨?_, ?_, ?_, ?_, ?_, ?_⟩ <;> first | simp [World.cell?, h] | simp [World.frozen?, h]
theorem BX.set1 {w : World} {b : Nat} {x : At} (h : BX w b x) (n : Int) : BX (w.setCell ⟨b, 1, none⟩ (.int .i64 n)) b (x.1, n, x.2.2) := Joins.block_setCell h _
theorem BX.set2 {w : World} {b : Nat} {x : At} (h : BX w b x) (n : Int) : BX (w.setCell ⟨b, 2, none⟩ (.int .i64 n)) b (x.1, x.2.1, n) := Joins.block_setCell h _
theorem BX.set0 {w : World} {b : Nat} {x : At} (h : BX w b x) (n : Int) : BX (w.setCell ⟨b, 0, none⟩ (.int .i64 n)) b (n, x.2.1, x.2.2) := Joins.block_setCell h _
theorem str_none {a : ByteArray} (h : a.size ≠ 0) : a.toList.isEmpty = false := by
  rw [ByteArray.toList_eq]
  have h2 : a.data.toList.length ≠ 0 := by rw [Array.length_toList]; exact h
  cases hl : a.data.toList with
  | nil => rw [hl] at h2; exact absurd rfl h2
  | cons _ _ => rfl

theorem empty_of {a : ByteArray} (h : a.size = 0) : a = ⟨#[]⟩ := by
  apply AclP.ext
  have h2 : a.data.toList.length = 0 := by rw [Array.length_toList]; exact h
  rw [List.eq_nil_of_length_eq_zero h2]
theorem idx_any (c : UInt8) (W : World) : Calls Tryd.prog 46 #[.string ⟨#[117, 103, 109]⟩, .int .u8 (c.toNat : Int)] W fun e w' => e = .returned (.int .i64 (tagI c - 1)) ∧ W = w' := by
  have := Tryd.strings_IndexByte ⟨#[117, 103, 109]⟩ (c.toNat : Int) W
  refine this.mono ?_
  rintro e w' ⟨rfl, rfl⟩
  refine ⟨?_, rfl⟩
  have hc : ((c.toNat : Int)).toNat.toUInt8 = c := by simp
  rw [hc, show tagI c - 1 = Lib.indexByte [117, 103, 109] c by unfold tagI; omega]
theorem below_three {w w1 : World} {b : Nat} (h : Below w.heap.size w w1) (hb : w.heap.size ≤ b) (u v z : Value) : Below w.heap.size w (((w1.setCell ⟨b, 0, none⟩ u).setCell ⟨b, 1, none⟩ v).setCell ⟨b, 2, none⟩ z) := ((h.setCell (p := ⟨b, 0, none⟩) hb u).setCell (p := ⟨b, 1, none⟩) hb v).setCell (p := ⟨b, 2, none⟩) hb z

set_option maxRecDepth 100000 in
set_option maxHeartbeats 1600000 in
theorem pent_any (x : ByteArray) (w : World) (hx : x.size ≤ 1048576) (hv : Vars w) :
    Calls Tryd.prog 24 #[.string x] w fun e w' => ∃ y : At, e = .returned (.tuple #[.agg #[.int .i64 y.1, .int .i64 y.2.1, .int .i64 y.2.2], .bool (wordI x).isSome]) ∧ (∀ z, wordI x = some z → y = z) ∧ Below w.heap.size w w' := by
  have HV := Lib.hid hv
  clear hv
  have HC := Lib.hid (fun W => cut_any x W hx)
  by_cases hz : (cutN x).size = 0
  · have HW := Lib.hid (show wordI x = none by rw [wordI, if_pos hz])
    have hn := empty_of hz
    rw [hn] at HC
    clear hn hz
    generalize cutR x = Q at HC
    have hb0 := (Below.refl w.heap.size w).alloc (Nat.le_refl _) (.cells #[.int .i64 0, .int .i64 0, .int .i64 0] 30)
    have hx0 : BX (w.alloc (.cells #[.int .i64 0, .int .i64 0, .int .i64 0] 30)) w.heap.size (0, 0, 0) := BX.new w (0, 0, 0)
    go_enter Tryd.func24, Tryd.ntmps24
    go_wp2_with fail
    generalize w.alloc (.cells #[.int .i64 0, .int .i64 0, .int .i64 0] 30) = w0 at hb0 hx0 ⊢
    refine (HC.out _).mono ?_
    rintro e w1 ⟨b, rfl, hb⟩
    have HB := Lib.hid (hb0.trans (hb.mono hb0.size))
    have HX := Lib.hid (hx0.below hb)
    clear hb hb0 hx0
    obtain ⟨x0, x1, x2, x3, x4, x5⟩ := HX.out.cells
    obtain ⟨z0, z1, z2, _, _, _⟩ := (((HX.out.set0 0).set1 0).set2 0).cells
    go_wp2
    refine bodyPost_ret (v := .tuple #[.agg #[.int .i64 0, .int .i64 0, .int .i64 0], .bool false]) (by simp [results, Tryd.results24, go_sem, z0, z1, z2]) rfl ⟨(0, 0, 0), by rw [HW.out]; rfl, fun z h => ?_, below_three HB.out (Nat.le_refl _) _ _ _⟩
    rw [HW.out] at h; cases h
  · have hws : wordI x = (if ((parseP ((cutN x).extract 1 (cutN x).size)).2 && (parseP (cutR x)).2) = true then some (tagI ((cutN x).data.toList.getD 0 0), (parseP ((cutN x).extract 1 (cutN x).size)).1, (parseP (cutR x)).1) else none) := by rw [wordI, if_neg hz]
    have hsn := str_none hz
    have hps := cutN_size x
    have hqs := cutR_size x
    have hix := AclU.index_at (cutN x) 0 (by omega) 0 rfl
    have hz1 : 1 ≤ (cutN x).size := by omega
    have hi1 := fun W (h : Vars W) => int_any ((cutN x).extract 1 (cutN x).size) W (by rw [ByteArray.size_extract]; omega) h
    have hi2 := fun W (h : Vars W) => int_any (cutR x) W (by omega) h
    have htg := tagI_range ((cutN x).data.toList.getD 0 0)
    have hid := fun W => idx_any ((cutN x).data.toList.getD 0 0) W
    clear hz
    generalize parseP ((cutN x).extract 1 (cutN x).size) = I at hws hi1
    generalize parseP (cutR x) = J at hws hi2
    generalize (cutN x).data.toList.getD 0 0 = c at hws hix htg hid
    generalize cutN x = P at HC hsn hps hix hz1 hi1
    generalize cutR x = Q at HC hqs hi2
    obtain ⟨i, ib⟩ := I
    obtain ⟨j, jb⟩ := J
    dsimp only at hws hi1 hi2
    have hcb := c.toNat_lt
    generalize c.toNat = cn at hix hid hcb
    have hw : IntKind.i64.wrap (1 + (tagI c - 1)) = tagI c := by rw [show 1 + (tagI c - 1) = tagI c by omega]; exact IntWalk.i64_in _ (by omega)
    generalize hT : tagI c = T at hws hid hw
    generalize hT2 : T - 1 = T2 at hid hw
    have H1 := Lib.hid hi1
    have H2 := Lib.hid hi2
    have HD := Lib.hid hid
    have HW := Lib.hid hws
    clear hi1 hi2 hid hws hT htg
    have hb0 := (Below.refl w.heap.size w).alloc (Nat.le_refl _) (.cells #[.int .i64 0, .int .i64 0, .int .i64 0] 30)
    have hx0 : BX (w.alloc (.cells #[.int .i64 0, .int .i64 0, .int .i64 0] 30)) w.heap.size (0, 0, 0) := BX.new w (0, 0, 0)
    go_enter Tryd.func24, Tryd.ntmps24
    go_wp2_with fail
    generalize w.alloc (.cells #[.int .i64 0, .int .i64 0, .int .i64 0] 30) = w0 at hb0 hx0 ⊢
    refine (HC.out _).mono ?_
    rintro e w1 ⟨b, rfl, hb⟩
    have HB := Lib.hid (hb0.trans (hb.mono hb0.size))
    have HX := Lib.hid (hx0.below hb)
    clear hb hb0 hx0
    go_wp2_with fail
    refine (HD.out _).mono ?_
    rintro e wq ⟨rfl, rfl⟩
    go_wp2_with fail
    refine (H1.out _ (HV.out.below HB.out)).mono ?_
    rintro e w2 ⟨rfl, hb⟩
    replace HB := Lib.hid (HB.out.trans (hb.mono HB.out.size))
    replace HX := Lib.hid (HX.out.below hb)
    clear hb
    go_wp2_with fail
    refine (H2.out _ (HV.out.below HB.out)).mono ?_
    rintro e w3 ⟨rfl, hb⟩
    replace HB := Lib.hid (HB.out.trans (hb.mono HB.out.size))
    replace HX := Lib.hid (HX.out.below hb)
    clear hb
    obtain ⟨x0, x1, x2, x3, x4, x5⟩ := HX.out.cells
    obtain ⟨z0, z1, z2, _, _, _⟩ := (((HX.out.set0 T).set1 i).set2 j).cells
    cases ib
    · go_wp2
      refine bodyPost_ret (v := .tuple #[.agg #[.int .i64 T, .int .i64 i, .int .i64 j], .bool false]) (by simp [results, Tryd.results24, go_sem, z0, z1, z2]) rfl ⟨(T, i, j), by rw [HW.out]; rfl, fun z h => ?_, below_three HB.out (Nat.le_refl _) _ _ _⟩
      rw [HW.out] at h; cases h
    · go_wp2
      refine bodyPost_ret (v := .tuple #[.agg #[.int .i64 T, .int .i64 i, .int .i64 j], .bool jb]) (by simp [results, Tryd.results24, go_sem, z0, z1, z2]) rfl ⟨(T, i, j), by rw [HW.out]; cases jb <;> rfl, fun z h => ?_, below_three HB.out (Nat.le_refl _) _ _ _⟩
      rw [HW.out] at h
      cases jb
      · cases h
      · exact Option.some.inj h

end Go.Proofs.YtgilmmofbpembaaDoor.AclY
