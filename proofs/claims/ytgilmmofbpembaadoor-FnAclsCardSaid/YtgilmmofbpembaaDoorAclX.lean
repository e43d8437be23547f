/- Contracts: the program's ParseAcl and the model's return, for every string of at most 2^20 bytes, the access list whose text it is. Conditions: the string's length; for the program the library's table of powers of ten and its two sentinel errors read as laid. -/
import Derived.Test.YtgilmmofbpembaaDoorAclY
import Derived.Test.YtgilmmofbpembaaDoorAclF
namespace Go.Proofs.YtgilmmofbpembaaDoor.AclX
open Go.ChangeShapes Go.WideShapes Go.ChangeAt Go.RowKit
open AclV AclB AclW AclY
open SplitAny (parts)
open ParseInt (parseP)
open AclU (resR str_ne own_nil3 own_fresh3)
set_option linter.unusedVariables false

theorem fin_yes {f : ByteArray → Option At} (hf : ∀ x, entB x = true → f (AclP.entT x) = some x) (hnil : f ⟨#[]⟩ = none) {t : ByteArray} (ht : t ≠ ⟨#[45]⟩) {out : List At} (hlen : out.length = (parts t ⟨#[44]⟩).length) (hr : WordsRead f t out) (h : formatV out = t) : parseV t = some out := by
  rw [parse_all hf ht hlen hr, if_pos ⟨ok_of_fmt hnil hlen hr h, h⟩]
theorem fin_no {f : ByteArray → Option At} (hf : ∀ x, entB x = true → f (AclP.entT x) = some x) {t : ByteArray} (ht : t ≠ ⟨#[45]⟩) {out : List At} (hlen : out.length = (parts t ⟨#[44]⟩).length) (hr : WordsRead f t out) (h : formatV out ≠ t) : parseV t = none := by
  rw [parse_all hf ht hlen hr, if_neg (fun hh => h hh.2)]
theorem dash_r : resR (parseV ⟨#[45]⟩) = ([], true) := by rw [parse_dash]; rfl
theorem len_succ {f : ByteArray → Option At} {t : ByteArray} {out : List At} {y : At} {k : Nat} (hl : out.length = k) (h : WordsRead f t out) (hx : f ((parts t ⟨#[44]⟩).getD k ⟨#[]⟩) = some y) : WordsRead f t (out ++ [y]) ∧ (out ++ [y]).length = k + 1 := by
  subst hl
  exact ⟨read_snoc h hx, by simp⟩
theorem own_snoc {w1 : World} {base : Nat} {v : Value} {out : List At} {y : At} {k : Nat} (h : w1.ownsRow base 30 3 v (k + 1) (Ae.cells out ++ [.int .i64 y.1, .int .i64 y.2.1, .int .i64 y.2.2])) : w1.ownsRow base 30 3 v (k + 1) (Ae.cells (out ++ [y])) := by
  rw [Ae.cells_snoc]; exact h
/-- A word of the row of words, in whatever world has grown. -/
theorem row_word {w0 w1 : World} {lo : Nat} {v : Value} {xs : List ByteArray} (h : w0.ownsRow lo 9 1 v xs.length (xs.map Value.string)) (hb : Below w0.heap.size w0 w1) :
    ∃ a c, v = .slice a xs.length c ∧ ∀ i, i < xs.length → ∃ g, a = some ⟨g, 0, none⟩ ∧ g < w0.heap.size ∧ w1.cell? ⟨g, i, none⟩ = some (.string (xs.getD i ⟨#[]⟩)) := by
  obtain ⟨a, c, rfl⟩ := Dk.slice_of h
  refine ⟨a, c, rfl, fun i hi => ?_⟩
  rcases h.2 with ⟨hv, hn⟩ | ⟨g, cap, cur, hv, _, hg, _⟩
  · omega
  · obtain ⟨e1, _⟩ : a = some ⟨g, 0, none⟩ ∧ c = cap := by simpa using hv
    refine ⟨g, e1, (Array.getElem?_eq_some_iff.1 hg).1, ?_⟩
    subst e1
    have hc := (Strs.own_below h hb).cellAt i (by omega)
    rw [hc]
    rw [List.getElem?_map, List.getElem?_eq_getElem hi]
    simp [List.getD, List.getElem?_eq_getElem hi]


set_option maxRecDepth 100000 in
set_option maxHeartbeats 3200000 in
theorem impl_any (t : ByteArray) (w : World) (hs : t.size ≤ 1048576) (hv : Vars w) :
    Calls Tryd.prog 7 #[.string t] w fun e w' => ∃ v, e = .returned (.tuple #[v, .bool (resR (parseV t)).2]) ∧ w'.ownsRow w.heap.size 30 3 v (resR (parseV t)).1.length (Ae.cells (resR (parseV t)).1) ∧ Below w.heap.size w w' := by
  by_cases ht : t = ⟨#[45]⟩
  · subst ht
    have HD := Lib.hid dash_r
    clear hs
    go_enter Tryd.func7, Tryd.ntmps7
    go_wp2
    go_ret2
    refine ⟨_, by rw [HD.out]; rfl, ?_, Below.refl _ _⟩
    rw [HD.out]
    exact own_nil3 _ _ _
  · obtain ⟨i0, hi, hz0, hz1, hz2⟩ := info_parts Ae.info
    have HF0 := Lib.hid hi
    have HF1 := Lib.hid hz0
    have HF2 := Lib.hid hz1
    have HF3 := Lib.hid hz2
    clear hi hz0 hz1 hz2
    have hne := str_ne ht
    rw [show (⟨#[45]⟩ : ByteArray).toList = [45] from by rw [ByteArray.toList_eq]] at hne
    have HV := Lib.hid hv
    have HSP := Lib.hid (fun W => SplitAny.impl_any t ⟨#[44]⟩ W hs (by decide))
    have HWS := Lib.hid (fun i => Nat.le_trans (part_size t ⟨#[44]⟩ i) hs)
    have hcnt := parts_count t ⟨#[44]⟩
    have HYES := Lib.hid (fun (out : List At) h1 h2 h3 => fin_yes (out := out) (fun x h => wordI_ent h) wordI_nil ht h1 h2 h3)
    have HNO := Lib.hid (fun (out : List At) h1 h2 h3 => fin_no (out := out) (fun x h => wordI_ent h) ht h1 h2 h3)
    have HFAIL := Lib.hid (fun i hi h => parse_fail (i := i) (fun x h => wordI_ent h) ht hi h)
    obtain ⟨n, hn⟩ : ∃ n, n = (parts t ⟨#[44]⟩).length := ⟨_, rfl⟩
    rw [← hn] at hcnt
    have HN := Lib.hid hn
    clear ht hv hn
    go_enter Tryd.func7, Tryd.ntmps7
    go_wp2_with fail
    refine (HSP.out _).mono ?_
    rintro e w1 ⟨rv, rfl, hown, hb⟩
    have HB1 := Lib.hid hb
    have HR := Lib.hid hown
    obtain ⟨ra, rc, rfl, _⟩ := row_word hown (Below.refl _ _)
    clear hb hown
    rw [← HN.out]
    go_wp2_with fail
    go_loopw [4, 14] (fun sv iv wr => ∃ (k : Nat) (out : List At), k ≤ n ∧ iv = .int .i64 k ∧ out.length = k ∧ WordsRead wordI t out ∧ wr.ownsRow w1.heap.size 30 3 sv k (Ae.cells out) ∧ Below w1.heap.size w1 wr) (fun _ iv _ => n - (intOf iv).toNat)
    case atStart => exact ⟨0, [], Nat.zero_le _, rfl, rfl, read_nil _ _, own_nil3 _ _ _, Below.refl _ _⟩
    case round =>
      obtain ⟨k, out, hk, rfl, hol, hrd, hown, hbel⟩ := hrel
      have HBEL := Lib.hid hbel
      have HOWN := Lib.hid hown
      have HRD := Lib.hid hrd
      have HOL := Lib.hid hol
      have hsz := hbel.size
      have hs1 := HB1.out.size
      clear hbel hown hrd hol
      by_cases hlt : k < n
      · obtain ⟨a', c', heq, hw⟩ := row_word HR.out HBEL.out
        obtain ⟨g, hg, hg1, hcell⟩ := hw k (by rw [← HN.out]; exact hlt)
        obtain ⟨e1, e2⟩ : ra = a' ∧ rc = c' := by simpa using heq
        subst e1
        subst e2
        subst hg
        have hxs := HWS.out k
        have HF := Lib.hid (HFAIL.out k (by rw [← HN.out]; exact hlt))
        have HL := Lib.hid (fun y => len_succ (y := y) HOL.out HRD.out)
        clear hw heq
        generalize (parts t ⟨#[44]⟩).getD k ⟨#[]⟩ = x at hcell hxs HF HL
        have HP := Lib.hid (fun W (hv : Vars W) => pent_any x W hxs hv)
        have HB := Lib.hid (HB1.out.trans (HBEL.out.mono hs1))
        clear hxs
        go_wp2_with fail
        refine (HP.out _ (HV.out.below HB.out)).mono ?_
        rintro e w2 ⟨y, rfl, hy, hb⟩
        have HY := Lib.hid hy
        have HB2 := Lib.hid (HB.out.trans (hb.mono HB.out.size))
        have HBL2 := Lib.hid (HBEL.out.trans (hb.mono hsz))
        have HO := Lib.hid (Strs.own_below HOWN.out hb)
        have hs2 := HB2.out.size
        have hs3 := HBL2.out.size
        clear hb hy
        cases hwi : wordI x with
        | none =>
          have HX := Lib.hid (HF.out hwi)
          clear hwi
          go_wp2
          go_ret2
          refine ⟨_, by rw [HX.out]; rfl, ?_, HB2.out.alloc hs2 _⟩
          rw [HX.out]
          exact own_nil3 _ _ _
        | some z =>
          obtain rfl := HY.out z hwi
          obtain ⟨hr1, hl1⟩ := HL.out y hwi
          have HR1 := Lib.hid hr1
          have HL1 := Lib.hid hl1
          clear hwi hr1 hl1
          obtain ⟨y0, y1, y2⟩ := y
          dsimp only
          go_wp2_with (first | (at_builtin; refine wpList_append_own _ rfl _ _ 23 rfl w1.heap.size 30 i0 (.agg #[.int .i64 0, .int .i64 0, .int .i64 0]) 3 24 Tryd.underlying23 HF0.out HF1.out HF2.out HF3.out rfl (by decide) _ _ _ rfl ((HO.out.alloc _).alloc _) ⟨w2.heap.size + 1, 0, none⟩ 1 1 [.int .i64 y0, .int .i64 y1, .int .i64 y2] rfl rfl ?c1 ?c2 ?c3 ?c4 ?c5 ?_))
          case c1 =>
            have := AclU.cells3_at (w2.alloc (.cells #[.int .i64 y0, .int .i64 y1, .int .i64 y2] 30)) (.int .i64 y0) (.int .i64 y1) (.int .i64 y2) 30
            simpa using this
          case c2 => simp [Value.oneCell']
          case c3 => unfold maxLen; omega
          case c4 => omega
          case c5 => simp; omega
          intro v' w9 hown1 hg1 _
          have HO9 := Lib.hid (own_snoc (y := (y0, y1, y2)) hown1)
          have HB9 := Lib.hid (((HBL2.out.alloc hs3 (.cells #[.int .i64 y0, .int .i64 y1, .int .i64 y2] 30)).alloc (by simp; omega) (.cells #[.int .i64 y0, .int .i64 y1, .int .i64 y2] 30)).grown hg1 (by simp; omega) (fun k hk => (HO.out.lt k hk).1))
          clear hown1 hg1
          go_wp2
          go_roundw
          case rel =>
            exact ⟨k + 1, out ++ [(y0, y1, y2)], by omega, by go_num, HL1.out, HR1.out, HO9.out, HB9.out⟩
          case measure => simp [intOf]; omega
      · obtain rfl : k = n := by omega
        have HHH := Lib.hid (Ae.holds_of_own HOWN.out)
        have HB := Lib.hid (HB1.out.trans (HBEL.out.mono hs1))
        have hb30 : out.length ≤ 1073741824 := by rw [HOL.out]; omega
        have HLN := Lib.hid (HOL.out.trans HN.out)
        go_wp2_with fail
        refine (AclF.impl_any _ _ out hb30 HHH.out).mono ?_
        rintro e w2 ⟨rfl, hb⟩
        have HB2 := Lib.hid (HB.out.trans (hb.mono HB.out.size))
        have HO2 := Lib.hid (SplitAny.own_mono (Strs.own_below HOWN.out hb) hs1)
        clear hb hb30
        by_cases he : formatV out = t
        · have HX := Lib.hid (HYES.out out HLN.out HRD.out he)
          rw [he]
          clear he
          go_wp2
          go_ret2
          refine ⟨_, by rw [HX.out]; rfl, ?_, HB2.out⟩
          rw [HX.out]
          show World.ownsRow _ _ _ _ _ out.length (Ae.cells out)
          rw [HOL.out]
          exact HO2.out
        · have hnf := str_ne he
          have HX := Lib.hid (HNO.out out HLN.out HRD.out he)
          clear he
          generalize formatV out = P at hnf
          go_wp2
          go_ret2
          refine ⟨_, by rw [HX.out]; rfl, ?_, HB2.out⟩
          rw [HX.out]
          exact own_nil3 _ _ _


/-- A row that the call owns: among the new blocks, or the empty one that it began with. -/
def OwnE (w : World) (lo base : Nat) (v : Value) (n : Nat) (xs : List Value) : Prop :=
  w.ownsRow base 30 3 v n xs ∨ (w.ownsRow lo 30 3 v n xs ∧ ∃ b, v = .slice (some ⟨b, 0, none⟩) 0 0)
theorem OwnE.own {w : World} {lo base : Nat} {v : Value} {n : Nat} {xs : List Value} (h : OwnE w lo base v n xs) (hl : lo ≤ base) : w.ownsRow lo 30 3 v n xs := by
  rcases h with h | ⟨h, _⟩
  · exact SplitAny.own_mono h hl
  · exact h
theorem OwnE.below {w w' : World} {lo base : Nat} {v : Value} {n : Nat} {xs : List Value} (h : OwnE w lo base v n xs) (hb : Below w.heap.size w w') : OwnE w' lo base v n xs := by
  rcases h with h | ⟨h, hv⟩
  · exact .inl (Strs.own_below h hb)
  · exact .inr ⟨Strs.own_below h hb, hv⟩
theorem own_far {w : World} {lo b i : Nat} {u : Value} {e : TypeId} {size : Nat} {v : Value} {n : Nat} {xs : List Value} (h : w.ownsRow lo e size v n xs) (hne : v.ownBlock ≠ some b) : (w.setCell ⟨b, i, none⟩ u).ownsRow lo e size v n xs := by
  refine ⟨h.1, ?_⟩
  rcases h.2 with hn | ⟨g, cap, cur, rfl, hg, hgb, rest⟩
  · exact .inl hn
  · refine .inr ⟨g, cap, cur, rfl, hg, ?_, rest⟩
    have hgne : g ≠ b := fun e => hne (by rw [← e]; rfl)
    exact (Below.heap_setCell w ⟨b, i, none⟩ u g hgne).trans hgb
theorem OwnE.far {w : World} {lo base b i : Nat} {u : Value} {v : Value} {n : Nat} {xs : List Value} (h : OwnE w lo base v n xs) (hne : v.ownBlock ≠ some b) : OwnE (w.setCell ⟨b, i, none⟩ u) lo base v n xs := by
  rcases h with h | ⟨h, hv⟩
  · exact .inl (own_far h hne)
  · exact .inr ⟨own_far h hne, hv⟩
theorem OwnE.lt {w : World} {lo base : Nat} {v : Value} {n : Nat} {xs : List Value} (h : OwnE w lo base v n xs) (k : Nat) (hk : v.ownBlock = some k) : k < w.heap.size := by
  rcases h with h | ⟨h, _⟩
  · exact (h.lt k hk).2
  · exact (h.lt k hk).2
theorem OwnE.holds {w : World} {lo base : Nat} {v : Value} {n : Nat} {out : List At} (h : OwnE w lo base v n (Ae.cells out)) : Ae.Holds w v out := by
  rcases h with h | ⟨h, _⟩
  · exact Ae.holds_of_own h
  · exact Ae.holds_of_own h
/-- An append to such a row. -/
theorem append_e {w : World} {ops : Array Oper} {rest : List Oper} {o : Oper} {a : Act} {Q : Exit → Act → World → Prop} (hgd : o.guard = none) (s x : Operand)
    (ho : o.op = .call { callee := .builtin .append, args := #[s, x], argTypes := #[23, 23] }) (lo base : Nat) (i : TypeInfo)
    (hi : Tryd.prog.info? 30 = some i) (hz : i.zero = some (.agg #[.int .i64 0, .int .i64 0, .int .i64 0])) (hsize : i.size = 3) (hby : i.bytes = 24)
    (v : Value) (n : Nat) (out : List At) (hs : a.eval s = v) (hown : OwnE w lo base v n (Ae.cells out))
    (ad : Addr) (y : At) (hx : a.eval x = .slice (some ad) 1 1) (hnews : ∀ j u, [Value.int .i64 y.1, .int .i64 y.2.1, .int .i64 y.2.2][j]? = some u → w.cell? (ad.add j) = some u)
    (h63 : n ≤ 1073741824) (hbase : base ≤ w.heap.size)
    (h : ∀ v' w', w'.ownsRow base 30 3 v' (n + 1) (Ae.cells (out ++ [y])) → Below base w w' → wpList Tryd.prog ops Q rest (a.put o.dst v') w') : wpList Tryd.prog ops Q (o :: rest) a w := by
  rcases hown with hown | ⟨hown, b, rfl⟩
  · refine wpList_append_own w hgd s x 23 ho base 30 i (.agg #[.int .i64 0, .int .i64 0, .int .i64 0]) 3 24 Tryd.underlying23 hi hz hsize hby rfl (by decide) v n _ hs hown ad 1 1 _ hx rfl hnews (by simp [Value.oneCell']) (by unfold maxLen; omega) (by omega) hbase fun v' w' h2 h3 _ => ?_
    refine h v' w' (by rw [Ae.cells_snoc]; exact h2) ((Below.refl base w).grown h3 hbase (fun k hk => (hown.lt k hk).1))
  · have h0 : n = 0 := by
      rcases hown.2 with ⟨hh, _⟩ | ⟨g, cap, cur, hh, _⟩
      · cases hh
      · cases hh; rfl
    subst h0
    have hl := hown.1
    have hl2 : out = [] := by
      rw [Ae.cells_length] at hl
      exact List.eq_nil_of_length_eq_zero (by omega)
    subst hl2
    refine wpList_append_grows w hgd s x 23 ho 30 i (.agg #[.int .i64 0, .int .i64 0, .int .i64 0]) 3 24 Tryd.underlying23 hi hz hsize hby rfl (by decide) (some ⟨b, 0, none⟩) 0 0 [] hs (fun hh => by cases hh) rfl (fun b' _ j u hj => by simp at hj) ad 1 1 _ hx rfl hnews (by simp [Value.oneCell']) (by omega) (by unfold maxLen; omega) (by omega) fun v' w' h2 h3 => ?_
    refine h v' w' (by rw [Ae.cells_snoc]; exact SplitAny.own_mono h2 hbase) ((Below.refl base w).grown h3 hbase (fun k hk => by cases hk))

end Go.Proofs.YtgilmmofbpembaaDoor.AclX
