/- Contracts: the program's completion and stepsOf; TxnSteps: the steps of a transaction, in a row of their own. Conditions: the lengths. -/
import Derived.Test.YtgapjdkelkmdgaaSteps
import Derived.Test.YtgapjdkelkmdgaaSpTwo
import Derived.Lib.SliceRun
import Derived.Lib.Strings
namespace Go.Proofs.Ytgapjdkelkmdgaa.Steps
open Go.ChangeShapes Go.WideShapes Go.ChangeAt Go.RowKit
open Wr (Wt d0 datas wcells)
open Dk (AtW atW ret_bool blk_new blk_of blk_two RowIn Box)
open Strs (own_below total)
open Txn (St s0 fl zero endV jourV commitV stepsV)
open Sp (scells scell spInfo)
open Journal (own_wide own_cong)
set_option linter.unusedVariables false

/-- A write alone in a block. -/
theorem one_write (w : World) (x : Wt) (t : TypeId) : Wr.Holds (w.alloc (.cells #[.int .i64 x.1, .string x.2] t)) (.slice (some ⟨w.heap.size, 0, none⟩) 1 1) [x] := by
  refine ⟨some ⟨w.heap.size, 0, none⟩, 1, rfl, fun _ => ⟨w.heap.size, 0, rfl, by simp, fun j hj => ?_⟩⟩
  have hj0 : j = 0 := by simpa using hj
  subst hj0
  obtain ⟨c0, c1, _, _⟩ := blk_two (blk_new w (.cells #[.int .i64 x.1, .string x.2] t))
  exact ⟨by simp, by simp⟩
theorem zero_size : zero.size ≤ 1048576 := by
  have h : zero.size = 32 := by
    show (PadTo.padB ⟨#[]⟩ 32).size = 32
    rw [PadTo.padB, if_neg (by decide)]
    show (PadTo.zend ⟨#[]⟩ 32).toArray.size = 32
    simp [PadTo.zend_length]
    rfl
  omega

theorem cells_new (w : World) (xs : List Value) (e : TypeId) (g : Nat) (hg : g = w.heap.size) : ∀ j u, xs[j]? = some u → (w.alloc (.cells xs.toArray e)).cell? ((⟨g, 0, none⟩ : Addr).add j) = some u := by
  intro j u hj
  subst hg
  rw [Addr.add_lit, Nat.zero_add, Checksum.cell_of (blk_new w (.cells xs.toArray e))]
  simpa using hj
set_option maxRecDepth 100000 in
set_option maxHeartbeats 1600000 in
theorem completion_any (w : World) (lv : Value) (l : List Wt) (h3 : l.length ≤ 1000000) (hl : Wr.Holds w lv l) :
    Calls Try.prog 58 #[lv] w fun e w' => ∃ v, e = .returned v ∧ w'.ownsRow w.heap.size 90 1 v (l.length + 3) (pcells (endV l)) ∧ Below w.heap.size w w' := by
  obtain ⟨j0, hj, hy0, hy1, hy2⟩ := info_parts ifInfo
  have HJ := Lib.hid hj
  have HY0 := Lib.hid hy0
  have HY1 := Lib.hid hy1
  have HY2 := Lib.hid hy2
  clear hj hy0 hy1 hy2
  have HL := Lib.hid hl
  clear hl
  have HZ := Lib.hid (show PadTo.padB ⟨#[]⟩ 32 = zero from rfl)
  go_enter Try.func58, Try.ntmps58
  go_wp2_with fail
  refine (flushed_any w lv l h3 HL.out).mono ?_
  rintro e w1 ⟨v, rfl, hown, hb⟩
  have s1 := hb.size
  have HB := Lib.hid hb
  have HO := Lib.hid hown
  obtain ⟨qa, qc, rfl⟩ := Dk.slice_of hown
  clear hown hb
  go_wp2_with fail
  refine (PadTo.impl_any ⟨#[]⟩ 32 _ (by decide) (by decide)).mono ?_
  rintro e w2 ⟨rfl, hb⟩
  have s2 := hb.size
  replace HB := Lib.hid (HB.out.trans (hb.mono HB.out.size))
  replace HO := Lib.hid (own_below HO.out hb)
  clear hb
  rw [HZ.out]
  generalize hzz : zero = Z
  have HZZ := Lib.hid hzz
  clear hzz
  go_wp2_with fail
  refine (commit_any Z w2).mono ?_
  rintro e w3 ⟨rfl, hb⟩
  have s3 := hb.size
  replace HB := Lib.hid (HB.out.trans (hb.mono HB.out.size))
  replace HO := Lib.hid (own_below HO.out hb)
  clear hb
  have HW := Lib.hid (one_write w3 (1, Z) 39)
  replace HB := Lib.hid (HB.out.alloc (by omega) (.cells #[.int .i64 1, .string Z] 39))
  replace HO := Lib.hid (World.ownsRow.alloc HO.out (.cells #[.int .i64 1, .string Z] 39))
  have s4 : w3.heap.size < (w3.alloc (.cells #[.int .i64 1, .string Z] 39)).heap.size := by simp
  go_wp2_with fail
  generalize w3.alloc (.cells #[.int .i64 1, .string Z] 39) = w4 at HW HB HO s4 ⊢
  refine (flushed_any w4 _ [(1, Z)] (by simp) HW.out).mono ?_
  rintro e w5 ⟨v, rfl, hown, hb⟩
  have s5 := hb.size
  replace HB := Lib.hid (HB.out.trans (hb.mono HB.out.size))
  replace HO := Lib.hid (own_below HO.out hb)
  have HS := Lib.hid (src_own hown (pcells_one _) (by decide))
  obtain ⟨ra, rc, rfl⟩ := Dk.slice_of hown
  clear hown hb
  go_wp2_with (first | (at_builtin; refine App.wpList_append_src rfl _ _ 75 rfl w.heap.size 90 j0 .nilIface 1 16 Try.underlying75 HJ.out HY0.out HY1.out HY2.out rfl (by decide) _ _ _ rfl HO.out _ _ HS.out ?c1 ?c2 ?c3 ?_))
  case c1 => unfold maxLen; simp only [List.length_cons, List.length_nil]; omega
  case c2 => simp only [List.length_cons, List.length_nil]; omega
  case c3 => omega
  intro a9 c9 w9 hown9 hg9
  have HB9 := Lib.hid (HB.out.grown hg9 (by omega) (fun k hk => (HO.out.lt k hk).1))
  have HO9 := Lib.hid (own_cong (n' := l.length + 3) (xs' := pcells (endV l)) hown9 (by simp only [List.length_cons, List.length_nil]) (by rw [← pcells_append, ← HZZ.out]; simp [endV]))
  clear hown9 hg9
  go_wp2_with fail
  go_ret
  exact ⟨_, rfl, HO9.out, HB9.out⟩

/-- The cells of a row of interface values. -/
def AtP (w : World) (a : Option Addr) (l : List St) : Prop :=
  ∀ i, i < l.length → ∃ b o, a = some ⟨b, o, none⟩ ∧ b < w.heap.size ∧ w.cell? ⟨b, o + i, none⟩ = some (pcell (l.getD i s0))
theorem atP {w : World} {base : Nat} {e : TypeId} {v : Value} {n : Nat} {l : List St} (h : w.ownsRow base e 1 v n (pcells l)) : ∃ a cap, v = .slice a l.length cap ∧ AtP w a l := by
  have hl := h.1
  rw [pcells_len] at hl
  have hn : n = l.length := by omega
  rcases h.2 with ⟨rfl, h0⟩ | ⟨g, cap, cur, rfl, hb, hg, hn', _, _, htake⟩
  · have : l = [] := List.eq_nil_of_length_eq_zero (by omega)
    subst this
    exact ⟨none, 0, rfl, fun i hi => by simp at hi⟩
  · refine ⟨some ⟨g, 0, none⟩, cap, by rw [hn], fun i hi => ⟨g, 0, rfl, (Array.getElem?_eq_some_iff.1 hg).1, ?_⟩⟩
    rw [Nat.zero_add, h.cellAt i (by omega)]
    simp [pcells, List.getD, List.getElem?_eq_getElem hi]

theorem ta1 (w : World) : Sem.run Try.prog (Instr.typeAssert (.iface 131 (.agg #[])) 90 129 true) w = .ok (.tuple #[.agg #[.int .i64 0, .string ⟨#[]⟩], .bool false]) w := by kernel_rfl
theorem ta2 (w : World) : Sem.run Try.prog (Instr.typeAssert (.iface 131 (.agg #[])) 90 131 true) w = .ok (.tuple #[.agg #[], .bool true]) w := by kernel_rfl
theorem ta3 (n : Int) (s : ByteArray) (w : World) : Sem.run Try.prog (Instr.typeAssert (.iface 129 (.agg #[.int .i64 n, .string s])) 90 129 true) w = .ok (.tuple #[.agg #[.int .i64 n, .string s], .bool true]) w := by kernel_rfl

set_option maxRecDepth 100000 in
set_option maxHeartbeats 3200000 in
theorem stepsOf_any (w : World) (lv : Value) (l : List St) (h3 : l.length ≤ 1000000) (hf : ∀ i, i < l.length → (l.getD i s0).1 = true → l.getD i s0 = fl) (a : Option Addr) (cap : Nat) (hv : lv = .slice a l.length cap) (hl : AtP w a l) :
    Calls Try.prog 57 #[lv] w fun e w' => ∃ v, e = .returned v ∧ w'.ownsRow w.heap.size 88 3 v l.length (scells l) ∧ Below w.heap.size w w' := by
  subst hv
  obtain ⟨j0, hj, hy0, hy1, hy2⟩ := info_parts spInfo
  have HJ := Lib.hid hj
  have HY0 := Lib.hid hy0
  have HY1 := Lib.hid hy1
  have HY2 := Lib.hid hy2
  clear hj hy0 hy1 hy2
  have HC := Lib.hid hl
  have HF := Lib.hid hf
  clear hl hf
  obtain ⟨N, hN⟩ : ∃ N, N = l.length := ⟨_, rfl⟩
  rw [← hN] at h3 ⊢
  have HN := Lib.hid hN
  clear hN
  go_enter Try.func57, Try.ntmps57
  go_wp2_with fail
  go_loopw [3, 10] (fun v iv wx => ∃ i : Nat, i ≤ N ∧ iv = .int .i64 i ∧ wx.ownsRow w.heap.size 88 3 v i (scells (l.take i)) ∧ Below w.heap.size w wx) (fun _ iv _ => N - (intOf iv).toNat)
  case atStart => exact ⟨0, Nat.zero_le _, rfl, World.ownsRow_nil _ _ _ _, Below.refl _ _⟩
  case round =>
    obtain ⟨i, hii, rfl, hown, hbel⟩ := hrel
    have HO := Lib.hid hown
    have HB := Lib.hid hbel
    have hsz := hbel.size
    obtain ⟨qa, qc, rfl⟩ := Dk.slice_of hown
    clear hown hbel
    by_cases hlt : i < N
    · have hlx : i < l.length := by rw [← HN.out]; exact hlt
      obtain ⟨bw, ow, rfl, hbw, hc1⟩ := HC.out i hlx
      rw [← HB.out.cell (p := ⟨bw, _, none⟩) hbw] at hc1
      have HT := Lib.hid (show scells (l.take (i + 1)) = scells (l.take i) ++ [.bool (l.getD i s0).1, .int .i64 (l.getD i s0).2.1, .string (l.getD i s0).2.2] by
        rw [List.take_succ_eq_append_getElem hlx, Sp.scells_snoc]
        simp [List.getD, List.getElem?_eq_getElem hlx])
      have HFI := Lib.hid (HF.out i hlx)
      generalize l.getD i s0 = x at hc1 HT HFI
      cases hx : x.1 with
      | true =>
        have hxf := HFI.out hx
        subst hxf
        rw [show pcell fl = .iface 131 (.agg #[]) from rfl] at hc1
        clear hx
        have q1 := ta1
        have q2 := ta2
        have HBA := Lib.hid (HB.out.alloc hsz (.cells #[] 131))
        have HOA := Lib.hid (World.ownsRow.alloc HO.out (.cells #[] 131))
        have hsa : w.heap.size ≤ (wr.alloc (.cells #[] 131)).heap.size := by simp; omega
        have HBK := Lib.hid (show wr.heap.size + 1 = (wr.alloc (.cells #[] 131)).heap.size by simp)
        go_wp2_with (first | (at_builtin; refine wpList_append_own _ rfl _ _ 29 rfl w.heap.size 88 j0 (.agg #[.bool false, .int .i64 0, .string ⟨#[]⟩]) 3 32 Try.underlying29 HJ.out HY0.out HY1.out HY2.out rfl (by decide) _ _ _ rfl (World.ownsRow.alloc HOA.out _) ⟨wr.heap.size + 1, 0, none⟩ 1 1 [.bool true, .int .i64 0, .string ⟨#[]⟩] rfl rfl (cells_new _ [.bool true, .int .i64 0, .string ⟨#[]⟩] _ _ HBK.out) (by simp [Value.oneCell']) ?c1 ?c2 ?c3 ?_))
        case c1 => unfold maxLen; omega
        case c2 => omega
        case c3 => first | omega | (simp only [World.size_alloc]; omega)
        intro v9 w9 hown9 hg9 _
        have HB9 := Lib.hid ((HBA.out.alloc hsa _).grown hg9 (by simp only [World.size_alloc]; omega) (fun k hk => (HOA.out.lt k hk).1))
        have HO9 := Lib.hid (own_cong (n' := i + 1) (xs' := scells (l.take (i + 1))) hown9 rfl (by rw [HT.out]; try rfl))
        clear hown9 hg9
        go_wp2_with fail
        go_roundw
        case rel => exact ⟨i + 1, by omega, by go_num, HO9.out, HB9.out⟩
        case measure => simp [intOf]; omega
      | false =>
        obtain ⟨f, n, t⟩ := x
        have hxf : f = false := hx
        subst hxf
        rw [show pcell (false, n, t) = .iface 129 (.agg #[.int .i64 n, .string t]) from rfl] at hc1
        clear hx
        have q3 := ta3 n t
        obtain ⟨z0, z1⟩ := Dk.Box.cells (show Box (wr.alloc (.cells #[.int .i64 n, .string t] 129)) wr.heap.size (.int .i64 n) (.string t) 129 from blk_new wr (.cells #[.int .i64 n, .string t] 129))
        have HBA := Lib.hid (HB.out.alloc hsz (.cells #[.int .i64 n, .string t] 129))
        have HOA := Lib.hid (World.ownsRow.alloc HO.out (.cells #[.int .i64 n, .string t] 129))
        have hsa : w.heap.size ≤ (wr.alloc (.cells #[.int .i64 n, .string t] 129)).heap.size := by simp; omega
        have HBK := Lib.hid (show wr.heap.size + 1 = (wr.alloc (.cells #[.int .i64 n, .string t] 129)).heap.size by simp)
        go_wp2_with (first | (at_builtin; refine wpList_append_own _ rfl _ _ 29 rfl w.heap.size 88 j0 (.agg #[.bool false, .int .i64 0, .string ⟨#[]⟩]) 3 32 Try.underlying29 HJ.out HY0.out HY1.out HY2.out rfl (by decide) _ _ _ rfl (World.ownsRow.alloc HOA.out _) ⟨wr.heap.size + 1, 0, none⟩ 1 1 [.bool false, .int .i64 n, .string t] rfl rfl (cells_new _ [.bool false, .int .i64 n, .string t] _ _ HBK.out) (by simp [Value.oneCell']) ?c1 ?c2 ?c3 ?_))
        case c1 => unfold maxLen; omega
        case c2 => omega
        case c3 => first | omega | (simp only [World.size_alloc]; omega)
        intro v9 w9 hown9 hg9 _
        have HB9 := Lib.hid ((HBA.out.alloc hsa _).grown hg9 (by simp only [World.size_alloc]; omega) (fun k hk => (HOA.out.lt k hk).1))
        have HO9 := Lib.hid (own_cong (n' := i + 1) (xs' := scells (l.take (i + 1))) hown9 rfl (by rw [HT.out]; try rfl))
        clear hown9 hg9
        go_wp2_with fail
        go_roundw
        case rel => exact ⟨i + 1, by omega, by go_num, HO9.out, HB9.out⟩
        case measure => simp [intOf]; omega
    · have hiN : i = N := by omega
      have HO9 := Lib.hid (own_cong (n' := N) (xs' := scells l) HO.out (by omega) (by rw [hiN, HN.out, List.take_of_length_le (Nat.le_refl _)]))
      clear hiN
      go_wp2_with fail
      go_ret
      exact ⟨_, rfl, HO9.out, HB.out⟩

/-- A row of the call's own as its source. -/
theorem stepsOf_own (w : World) (base : Nat) (lv : Value) (n : Nat) (l : List St) (h3 : l.length ≤ 1000000) (hf : ∀ x ∈ l, x.1 = true → x = fl) (h : w.ownsRow base 90 1 lv n (pcells l)) :
    Calls Try.prog 57 #[lv] w fun e w' => ∃ v, e = .returned v ∧ w'.ownsRow w.heap.size 88 3 v l.length (scells l) ∧ Below w.heap.size w w' := by
  obtain ⟨a, cap, rfl, hat⟩ := atP h
  exact stepsOf_any w _ l h3 (fun i hi => hf _ (by rw [List.getD_eq_getElem?_getD, List.getElem?_eq_getElem hi]; exact List.getElem_mem _)) a cap rfl hat
theorem end_fl (l : List Wt) : ∀ x ∈ endV l, x.1 = true → x = fl := by
  intro x hx h
  simp only [endV, List.mem_append, List.mem_map, List.mem_cons, List.not_mem_nil, or_false] at hx
  rcases hx with ⟨y, _, rfl⟩ | rfl | rfl | rfl
  · cases h
  · rfl
  · cases h
  · rfl
theorem end_len (l : List Wt) : (endV l).length = l.length + 3 := by simp [endV]
theorem steps_fl (seq : Int) (l : List Wt) : ∀ x ∈ (jourV l).map Txn.wr ++ [fl, Txn.wr (1, commitV seq l), fl] ++ endV l, x.1 = true → x = fl := by
  intro x hx h
  rw [List.mem_append, List.mem_append] at hx
  rcases hx with (hx | hx) | hx
  · obtain ⟨y, _, rfl⟩ := List.mem_map.1 hx
    cases h
  · simp only [List.mem_cons, List.not_mem_nil, or_false] at hx
    rcases hx with rfl | rfl | rfl
    · rfl
    · cases h
    · rfl
  · exact end_fl l x hx h
theorem jour_small (l : List Wt) : (jourV l).length ≤ 448 := by
  by_cases hh : Txn.Tgt l ∧ Txn.Full l
  · rw [Txn.jour_yes hh.1 hh.2, List.length_append, Txn.tgtW_len, Txn.payW_len]
    have h1 := CutAll.cutAll_len (Txn.tgts l) 32
    have h2 := Txn.tgts_size l
    have h3 := hh.1.1.2
    omega
  · rw [Txn.jour_no hh]
    exact Nat.zero_le _

set_option maxRecDepth 100000 in
set_option maxHeartbeats 3200000 in
theorem impl_any (w : World) (lv : Value) (seq : Int) (l : List Wt) (h3 : l.length ≤ 1048576) (hd : total (datas l) ≤ 1048576) (hl : Wr.Holds w lv l) :
    Calls Try.prog 15 #[.int .i64 seq, lv] w fun e w' => ∃ v, e = .returned v ∧ w'.ownsRow w.heap.size 88 3 v (stepsV seq l).length (scells (stepsV seq l)) ∧ Below w.heap.size w w' := by
  obtain ⟨j0, hj, hy0, hy1, hy2⟩ := info_parts ifInfo
  have HJ := Lib.hid hj
  have HY0 := Lib.hid hy0
  have HY1 := Lib.hid hy1
  have HY2 := Lib.hid hy2
  clear hj hy0 hy1 hy2
  have HL := Lib.hid hl
  obtain ⟨c, cc, rfl, _⟩ := atW hl
  clear hl
  have HNIL := Lib.hid (fun (w' : World) (h : stepsV seq l = []) => (show w'.ownsRow w.heap.size 88 3 (.slice none 0 0) (stepsV seq l).length (scells (stepsV seq l)) from own_cong (World.ownsRow_nil _ _ _ _) (by rw [h]; rfl) (by rw [h]; rfl)))
  have HSNO := Lib.hid (show jourV l = [] ∨ commitV seq l = ⟨#[]⟩ → stepsV seq l = [] from fun h => if_pos h)
  have HSYES := Lib.hid (show ¬ (jourV l = [] ∨ commitV seq l = ⟨#[]⟩) → stepsV seq l = (jourV l).map Txn.wr ++ [fl, Txn.wr (1, commitV seq l), fl] ++ endV l from fun h => if_neg h)
  have HFL := Lib.hid (steps_fl seq l)
  have hjs := jour_small l
  have HENDL := Lib.hid (end_len l)
  obtain ⟨J, hJ⟩ : ∃ J, J = jourV l := ⟨_, rfl⟩
  obtain ⟨CV, hCV⟩ : ∃ C, C = commitV seq l := ⟨_, rfl⟩
  rw [← hJ, ← hCV] at HSNO HSYES HFL
  rw [← hJ] at hjs
  have HJJ := Lib.hid hJ
  have HCV := Lib.hid hCV
  clear hJ hCV
  obtain ⟨N, hN⟩ : ∃ N, N = l.length := ⟨_, rfl⟩
  rw [← hN] at HL h3 ⊢
  have HN := Lib.hid hN
  clear hN
  go_enter Try.func15, Try.ntmps15
  go_wp2_with fail
  refine (Journal.impl_any w _ l (by rw [← HN.out]; omega) HL.out).mono ?_
  rintro e w1 ⟨v, rfl, hown, hnil, hb⟩
  rw [← HJJ.out] at hown hnil
  have s1 := hb.size
  have HB := Lib.hid hb
  have HO := Lib.hid hown
  have HNI := Lib.hid hnil
  obtain ⟨qa, qc, rfl⟩ := Dk.slice_of hown
  clear hown hb hnil
  go_wp2_with fail
  refine (Commit.impl_any w1 _ seq l (by rw [← HN.out]; omega) hd (Wr.holds_below (B := 0) HL.out HB.out)).mono ?_
  rintro e w2 ⟨rfl, hb⟩
  rw [← HCV.out]
  have s2 := hb.size
  replace HB := Lib.hid (HB.out.trans (hb.mono HB.out.size))
  replace HO := Lib.hid (own_below HO.out hb)
  clear hb
  have hq := fun w => Lib.run_eql_slice_nil (P := Try.prog) w 24 39 qa J.length qc 0 0 Try.underlying24
  by_cases hJ0 : J = []
  · have HZ := Lib.hid (HSNO.out (.inl hJ0))
    have hqa : qa.isNone = true := by
      have := HNI.out hJ0
      obtain ⟨e1, _, _⟩ : qa = none ∧ J.length = 0 ∧ qc = 0 := by simpa using this
      rw [e1]; rfl
    have HQA := Lib.hid hqa
    clear hJ0
    rw [hqa] at hq
    clear hqa
    go_wp2_with fail
    go_ret
    exact ⟨_, rfl, HNIL.out _ HZ.out, HB.out⟩
  · have hqa : qa.isNone = false := by
      rcases HO.out.2 with ⟨_, h0⟩ | ⟨g, cap, cur, hv, _⟩
      · exact absurd (List.eq_nil_of_length_eq_zero h0) hJ0
      · cases hv; rfl
    rw [hqa] at hq
    clear hqa
    by_cases hC0 : CV = ⟨#[]⟩
    · have HZ := Lib.hid (HSNO.out (.inr hC0))
      have hce : CV.toList.isEmpty = true := by rw [hC0, ByteArray.toList_eq]; rfl
      clear hC0 hJ0
      go_wp2_with fail
      go_ret
      exact ⟨_, rfl, HNIL.out _ HZ.out, HB.out⟩
    · have HY := Lib.hid (HSYES.out (fun h => h.elim hJ0 hC0))
      have hce : CV.toList.isEmpty = false := by
        rw [ByteArray.toList_eq, List.isEmpty_eq_false_iff]
        intro hh
        exact hC0 (by apply ByteArray.ext; apply Array.toList_inj.1; simpa using hh)
      have hnz : N ≤ 64 := by
        by_cases ht : Txn.Tgt l
        · have := ht.1.2; have := HN.out; omega
        · exact absurd (by rw [HJJ.out]; exact Txn.jour_no (fun h => ht h.1)) hJ0
      clear hC0 hJ0
      go_wp2_with fail
      refine (flushed_any w2 _ J (by omega) (Wr.holds_of_own HO.out)).mono ?_
      rintro e w3 ⟨v, rfl, hown, hb⟩
      have s3 := hb.size
      replace HB := Lib.hid (HB.out.trans (hb.mono HB.out.size))
      have HA := Lib.hid (own_wide hown (show w.heap.size ≤ w2.heap.size by omega))
      obtain ⟨ra, rc, rfl⟩ := Dk.slice_of hown
      clear hown hb
      go_wp2_with fail
      refine (commit_any CV w3).mono ?_
      rintro e w4 ⟨rfl, hb⟩
      have s4 := hb.size
      replace HB := Lib.hid (HB.out.trans (hb.mono HB.out.size))
      replace HA := Lib.hid (own_below HA.out hb)
      clear hb
      have HW := Lib.hid (one_write w4 (1, CV) 39)
      replace HB := Lib.hid (HB.out.alloc (by omega) (.cells #[.int .i64 1, .string CV] 39))
      replace HA := Lib.hid (World.ownsRow.alloc HA.out (.cells #[.int .i64 1, .string CV] 39))
      have s5 : w4.heap.size < (w4.alloc (.cells #[.int .i64 1, .string CV] 39)).heap.size := by simp
      go_wp2_with fail
      generalize w4.alloc (.cells #[.int .i64 1, .string CV] 39) = w5 at HW HB HA s5 ⊢
      refine (flushed_any w5 _ [(1, CV)] (by simp) HW.out).mono ?_
      rintro e w6 ⟨v, rfl, hown, hb⟩
      have s6 := hb.size
      replace HB := Lib.hid (HB.out.trans (hb.mono HB.out.size))
      replace HA := Lib.hid (own_below HA.out hb)
      have HS := Lib.hid (src_own hown (pcells_one _) (by decide))
      obtain ⟨ta, tc, rfl⟩ := Dk.slice_of hown
      clear hown hb
      go_wp2_with (first | (at_builtin; refine App.wpList_append_src rfl _ _ 75 rfl w.heap.size 90 j0 .nilIface 1 16 Try.underlying75 HJ.out HY0.out HY1.out HY2.out rfl (by decide) _ _ _ rfl HA.out _ _ HS.out ?c1 ?c2 ?c3 ?_))
      case c1 => unfold maxLen; simp only [List.length_cons, List.length_nil]; omega
      case c2 => simp only [List.length_cons, List.length_nil]; omega
      case c3 => omega
      intro a9 c9 w9 hown9 hg9
      have s9 := hg9.size
      replace HB := Lib.hid (HB.out.grown hg9 (by omega) (fun k hk => (HA.out.lt k hk).1))
      have HA9 := Lib.hid (own_cong (n' := J.length + 3) (xs' := pcells (J.map Txn.wr ++ [fl, Txn.wr (1, CV), fl])) hown9 (by simp only [List.length_cons, List.length_nil]) (by rw [← pcells_append]; simp))
      clear hown9 hg9
      go_wp2_with fail
      refine (completion_any w9 _ l (by rw [← HN.out]; omega) (Wr.holds_below (B := 0) HL.out HB.out)).mono ?_
      rintro e w10 ⟨v, rfl, hown, hb⟩
      rw [← HN.out] at hown
      have s10 := hb.size
      replace HB := Lib.hid (HB.out.trans (hb.mono HB.out.size))
      replace HA9 := Lib.hid (own_below HA9.out hb)
      replace HS := Lib.hid (src_own hown (pcells_one _) (by decide))
      obtain ⟨ua, uc, rfl⟩ := Dk.slice_of hown
      clear hown hb
      go_wp2_with (first | (at_builtin; refine App.wpList_append_src rfl _ _ 75 rfl w.heap.size 90 j0 .nilIface 1 16 Try.underlying75 HJ.out HY0.out HY1.out HY2.out rfl (by decide) _ _ _ rfl HA9.out _ _ HS.out ?d1 ?d2 ?d3 ?_))
      case d1 => unfold maxLen; omega
      case d2 => omega
      case d3 => omega
      intro b9 e9 w11 hown9 hg9
      have s11 := hg9.size
      replace HB := Lib.hid (HB.out.grown hg9 (by omega) (fun k hk => (HA9.out.lt k hk).1))
      rw [← pcells_append, ← HY.out] at hown9
      rw [← HY.out] at HFL
      have HSL := Lib.hid (show (stepsV seq l).length ≤ 1000000 by rw [HY.out, List.length_append, HENDL.out, List.length_append, List.length_map, ← HN.out]; simp only [List.length_cons, List.length_nil]; omega)
      have HX := Lib.hid hown9
      clear hown9 hg9
      go_wp2_with fail
      refine (stepsOf_own w11 _ _ _ (stepsV seq l) HSL.out HFL.out HX.out).mono ?_
      rintro e w12 ⟨v, rfl, hown, hb⟩
      have HO12 := Lib.hid (own_wide hown (show w.heap.size ≤ w11.heap.size by omega))
      have HB12 := Lib.hid (HB.out.trans (hb.mono HB.out.size))
      clear hown hb
      go_wp2_with fail
      go_ret
      exact ⟨_, rfl, HO12.out, HB12.out⟩
end Go.Proofs.Ytgapjdkelkmdgaa.Steps
