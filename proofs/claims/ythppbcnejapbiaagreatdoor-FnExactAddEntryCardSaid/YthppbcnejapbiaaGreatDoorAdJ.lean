/- Helper texts joined, one behind another (a claim has at most 60 files): what each proves, its own head says: YthppbcnejapbiaaGreatDoorLaidN, YthppbcnejapbiaaGreatDoorLaidM, YthppbcnejapbiaaGreatDoorKitV, YthppbcnejapbiaaGreatDoorSpR. -/
import Derived.Test.YthppbcnejapbiaaGreatDoorAdD
import Derived.LaidMore
import Derived.MakeChecks
import Derived.Lib.LaidTab
import Derived.OpenShut
import Derived.Stop.LaidErr
import Derived.Stop.Joined
import Derived.Lay
import Derived.Test.YthppbcnejapbiaaGreatDoorKit
import Derived.OpenVars
import Derived.Test.YthppbcnejapbiaaGreatDoorAdG
import Derived.Test.YthppbcnejapbiaaGreatDoorAdI

-- YthppbcnejapbiaaGreatDoorLaidN
/- A part. -/
namespace Go.Proofs.YthppbcnejapbiaaGreatDoor.LaidN
open Go.ChangeShapes Go.WideShapes Go.ChangeAt Go.RowKit
open InOk (Vars NF)
set_option linter.unusedVariables false
theorem gN : Tryz.prog.globalNamed "loop.example/g00817/impl.numberFields" = some 0 := by kernel_rfl
theorem gNType : (Tryz.prog.globals[0]?).map (·.type) = some 239 := by kernel_rfl
theorem elem_of {H : Type} {enc : TypeId × Value -> H} {w : World} {base : Nat} {sp : Nat -> Bool} {held : Bool} {m : Nat} {a b : Int} {u v : Value} {z : DataW H × List MemPlace}
  (h : DataW.trod enc Tryz.prog w base sp held m 238 [u, v] = some z) (hz : z.1 = .agg [.lit (.int .i64 a), .lit (.int .i64 b)]) : u = .int .i64 a /\ v = .int .i64 b := by
 obtain ⟨y0, y1, n, rfl, hl, h0, h1⟩ := trod_struct2 Tryz.underlying238 h
 have hci : Tryz.prog.cellsOf 3 = 1 := by kernel_rfl
 obtain ⟨i0, e0, rfl, _⟩ := DataW.trod_int Tryz.underlying3 h0
 obtain ⟨i1, e1, rfl, _⟩ := DataW.trod_int Tryz.underlying3 h1
 simp only [DataW.agg.injEq, List.cons.injEq, DataW.lit.injEq, Lit.int.injEq, true_and, and_true] at hz
 obtain ⟨rfl, rfl⟩ := hz
 exact ⟨by simpa [hci] using e0, by simpa [hci] using e1⟩
set_option maxRecDepth 100000 in
theorem cells_of {H : Type} {enc : TypeId × Value -> H} {w : World} {base : Nat} {sp : Nat -> Bool} {held : Bool} {fuel : Nat} {cs : List Value} {p : List MemPlace}
  (h : DataW.trod enc Tryz.prog w base sp held fuel 239 cs = some (Rows.laid_loop_example_g00817_impl_numberFields, p)) : cs = NF.map (Value.int .i64) := by
 obtain ⟨xs, m, rfl, hx, hl, hxl, hf⟩ := DataW.trod_array Tryz.underlying239 h
 rw [show Tryz.prog.cellsOf 239 = 14 from by kernel_rfl] at hl
 rw [show Tryz.prog.cellsOf 238 = 2 from by kernel_rfl] at hf
 obtain ⟨z0, z1, z2, z3, z4, z5, z6, rfl⟩ : ∃ z0 z1 z2 z3 z4 z5 z6, xs = [z0, z1, z2, z3, z4, z5, z6] := by
  match xs, hxl with
  | [z0, z1, z2, z3, z4, z5, z6], _ => exact ⟨_, _, _, _, _, _, _, rfl⟩
 obtain ⟨c0, c1, c2, c3, c4, c5, c6, c7, c8, c9, ca, cb, cc, cd, rfl⟩ : ∃ c0 c1 c2 c3 c4 c5 c6 c7 c8 c9 ca cb cc cd, cs = [c0, c1, c2, c3, c4, c5, c6, c7, c8, c9, ca, cb, cc, cd] := by
  match cs, hl with
  | [c0, c1, c2, c3, c4, c5, c6, c7, c8, c9, ca, cb, cc, cd], _ => exact ⟨_, _, _, _, _, _, _, _, _, _, _, _, _, _, rfl⟩
 have hx1 := congrArg Prod.fst hx
 simp only [Rows.laid_loop_example_g00817_impl_numberFields, List.map_cons, List.map_nil, DataW.agg.injEq, List.cons.injEq, and_true] at hx1
 obtain ⟨q0, q1, q2, q3, q4, q5, q6⟩ := hx1
 obtain ⟨rfl, rfl⟩ := elem_of (hf 0 (by omega)) q0.symm
 obtain ⟨rfl, rfl⟩ := elem_of (hf 1 (by omega)) q1.symm
 obtain ⟨rfl, rfl⟩ := elem_of (hf 2 (by omega)) q2.symm
 obtain ⟨rfl, rfl⟩ := elem_of (hf 3 (by omega)) q3.symm
 obtain ⟨rfl, rfl⟩ := elem_of (hf 4 (by omega)) q4.symm
 obtain ⟨rfl, rfl⟩ := elem_of (hf 5 (by omega)) q5.symm
 obtain ⟨rfl, rfl⟩ := elem_of (hf 6 (by omega)) q6.symm
 rfl
end Go.Proofs.YthppbcnejapbiaaGreatDoor.LaidN

-- YthppbcnejapbiaaGreatDoorLaidM
/- A part. -/
namespace Go.Proofs.YthppbcnejapbiaaGreatDoor.LaidM
open Go.ChangeShapes Go.WideShapes Go.ChangeAt Go.RowKit
open InOk (Vars NF)
open LaidN (gN gNType cells_of)
set_option linter.unusedVariables false
def list3 : List (String × DataW Unit) := [("unicode/utf8.acceptRanges", Rows.laid_unicode_utf8_acceptRanges), ("loop.example/g00817/impl.numberFields", Rows.laid_loop_example_g00817_impl_numberFields), ("unicode/utf8.first", Rows.laid_unicode_utf8_first)]
theorem vars_at {W : World} {rest : List (String × DataW Unit)} (h : laidMet Tryz.prog (("loop.example/g00817/impl.numberFields", Rows.laid_loop_example_g00817_impl_numberFields) :: rest) W) : Vars W := by
 obtain ⟨ps, ⟨g', t', cs, fuel, p, q, hg', ht', hvar, hd, _, _⟩, _⟩ := h
 obtain rfl := Option.some.inj (gN.symm.trans hg')
 obtain rfl := Option.some.inj (gNType.symm.trans ht')
 have hcs := cells_of hd
 have hc : ∀ j, j < 14 -> W.cell? ⟨0, j, none⟩ = some (.int .i64 (NF.getD j 0)) := by
  intro j hj
  have := World.var?_cell gN hvar j
  rw [this, <- Array.getElem?_toList, hcs, List.getElem?_map]
  have hl : j < NF.length := by simpa [NF] using hj
  rw [List.getElem?_eq_getElem hl, List.getD_eq_getElem?_getD, List.getElem?_eq_getElem hl]; rfl
 refine ⟨?_, hc⟩
 have := hc 0 (by omega)
 simp only [World.cell?] at this
 split at this
 ·rename_i heq; exact (Array.getElem?_eq_some_iff.1 heq).1
 ·cases this
theorem vars_of {W : World} (h : laidMetH Tryz.prog list3 W) : Vars W := by
 rw [MakeChecks.laidMetH_plain _ _ _ (by kernel_rfl)] at h
 exact vars_at (laidMet.tail h)
end Go.Proofs.YthppbcnejapbiaaGreatDoor.LaidM

-- YthppbcnejapbiaaGreatDoorKitV
/- A part. -/
namespace Go.Proofs.YthppbcnejapbiaaGreatDoor.KitV
open Go.ChangeShapes Go.WideShapes Go.ChangeAt Go.RowKit
set_option linter.unusedVariables false
theorem vars_length {H : Type} {enc : TypeId × Value -> H} {P : Program} {W : World} {sp : Nat -> Bool} : ∀ {ns : List String} {gs : List (DataW H)} {ps : List MemPlace}, DataW.TrodVars enc P W sp ns gs ps -> gs.length = ns.length
 | [], [], _, _ => rfl
 | [], _ :: _, _, h => h.elim
 | _ :: _, [], _, h => h.elim
 | n :: ns, d :: ds, ps, h => by
  obtain ⟨g, t, cs, fuel, p, q, h1, h2, h3, h4, hs, e⟩ := h
  simp [vars_length hs]
theorem all_length {H : Type} {enc : TypeId × Value -> H} {P : Program} {W : World} {b : Nat} {sp : Nat -> Bool} {hh : Bool} : ∀ (ts : List TypeId) (vs : List Value) (ds : List (DataW H)) (ps : List MemPlace), DataW.TrodAll enc P W b sp hh ts vs ds ps -> ds.length = ts.length := by
 intro ts
 induction ts with
 | nil => intro vs ds ps h; cases vs <;> cases ds <;> first | rfl | exact h.elim
 | cons t ts ih =>
  intro vs ds ps h
  cases vs with
  | nil => cases ds <;> exact h.elim
  | cons v vs =>
   cases ds with
   | nil => exact h.elim
   | cons d ds => obtain ⟨p, q, _, h1, _⟩ := h; simp [ih _ _ _ h1]
theorem law_post {H : Type} {enc : TypeId × Value -> H} {P : Program} {f : Func} {s : ChangeSpec} {T : TypeId} {W W' : World} {args : Array Value} {ds gs : List (DataW H)} {before : List MemPlace}
  (hl : laidOutB P = true) (hr0 : (f.params.toList.all fun t => P.readableRec t && decide (t < P.types.size)) = true) (hv : varsRowed P s.vars = true) (hT : P.underlying T = some .bool)
  (hres : f.resultTypes = #[T])
  (hs : ∀ (H : Type) (ds gs : List (DataW H)), ds.length = f.params.toList.length -> gs.length = s.vars.length -> s.fn H (ds ++ gs) = { results := [.lit (.bool true)], args := ds, vars := gs })
  (hW : DataW.Whole enc P f.params.toList s.vars false W args.toList ds gs before)
  (hb : Below W.heap.size W W') :
  s.post enc P f false true false false W args (.bool true) W' := by
 have hW0 := hW
 have hr : ∀ t ∈ f.params.toList, P.readableRec t = true /\ t < P.types.size := by
  intro t ht
  have := List.all_eq_true.1 hr0 t ht
  simpa using this
 obtain ⟨p, q, hA, hV, hpq, hfz, hnd⟩ := hW
 have hfn := hs H ds gs (all_length _ _ _ _ hA) (vars_length hV)
 refine ⟨ds, gs, before, [], p, q, hW0, ?_, ?_, ?_, hb.frame _, fun h => by cases h⟩
 ·rw [hfn, hres]
  exact trodAll_mk1 (shut_bool hT _)
 ·rw [hfn]
  exact Kit.trodAll_below hl hb _ _ _ _ hr hA
 ·rw [hfn]
  exact Below.trodVars hl hb hv hV
end Go.Proofs.YthppbcnejapbiaaGreatDoor.KitV

-- YthppbcnejapbiaaGreatDoorSpR
/- A part. -/
namespace Go.Proofs.YthppbcnejapbiaaGreatDoor.SpR
set_option maxHeartbeats 6400000
set_option maxRecDepth 100000
open Go.ChangeShapes Go.WideShapes Go.ChangeAt Go.RowKit
open Foot Bx
open InoV (I)
open FsV (F okF e0 z32)
open FsY FsZ CoC
open Dk (ret_bool)
set_option linter.unusedVariables false
theorem ret_str {a b : ByteArray} (h : a = b) : Ending.returned (.string a) = .returned (.string b) := by rw [h]
theorem use_spec (w : World) (v : Value) (f : F) (i : Int) (hc : FsF.cost f <= 1073741824) (hl : FsF.Lim f) (h : FsF.Holds w v f) :
  Calls Tryz.prog 77 #[v, .int .i64 i] w fun e w' => e = .returned (.bool (hasObjB f i)) /\ Below w.heap.size w w' := by
 have HFS := Lib.hid h
 have HCC := Lib.hid hc
 have HLM := Lib.hid hl
 obtain ⟨r0, r1, r2, rfl, g0, g1, g2⟩ := h
 have HI1 := Lib.hid g1
 obtain ⟨qa, qc, rfl⟩ := QF.form g0
 obtain ⟨ia, ic, rfl⟩ := IF.form g1
 obtain ⟨da, dc, rfl⟩ := SF.form g2
 clear g0 g1 g2 hc hl
 obtain ⟨T, hT⟩ : ∃ T, T = f.tick := ⟨_, rfl⟩
 obtain ⟨Q, hQ⟩ : ∃ Q, Q = f.quotas.length := ⟨_, rfl⟩
 obtain ⟨M, hM⟩ : ∃ M, M = f.inodes.length := ⟨_, rfl⟩
 obtain ⟨D, hD⟩ : ∃ D, D = f.data.length := ⟨_, rfl⟩
 rw [<- hT, <- hQ, <- hM, <- hD] at HFS ⊢
 rw [<- hM] at HI1
 have HM := Lib.hid hM
 clear hT hQ hM hD
 have HB0 := Lib.hid ((Below.refl w.heap.size w).alloc (Nat.le_refl _) (.cells #[.int .i64 T, .slice qa Q qc, .slice ia M ic, .slice da D dc] 33))
 have HX0 := Lib.hid (new w #[.int .i64 T, .slice qa Q qc, .slice ia M ic, .slice da D dc] 33)
 obtain ⟨C, hC⟩ : ∃ C, C = okF f := ⟨_, rfl⟩
 have HIS := Lib.hid (fun W v (hF : FsF.Holds W v f) => show Calls Tryz.prog 73 #[v] W fun e w' => e = .returned (.bool C) /\ Below W.heap.size W w' from by rw [hC]; exact FsS.is_spec W v f HCC.out HLM.out hF)
 have HCE := Lib.hid hC
 obtain ⟨A, hA⟩ : ∃ A, (decide ((0 : Int) <= i) && decide (i <= 19)) = A := ⟨_, rfl⟩
 have HIN := Lib.hid (fun W => FsS.in_any i 0 19 hA W)
 cases C
 ·have HF := Lib.hid (show hasObjB f i = false from by unfold hasObjB; rw [<- hC, Bool.and_false]; rfl)
  clear hC hA
  go_enter Tryz.func77, Tryz.ntmps77
  go_wp2_with fail
  refine (HIS.out _ _ (FsF.holds_below HFS.out HB0.out)).mono ?_
  rintro e w1 ⟨rfl, hb⟩
  have HB1 := Lib.hid (HB0.out.trans (hb.mono HB0.out.size))
  clear hb
  go_wp2
  go_ret
  exact ⟨ret_bool HF.out.symm, HB1.out⟩
 ·cases A
  ·have HF := Lib.hid (show hasObjB f i = false from by unfold hasObjB; rw [hA]; rfl)
   clear hC hA
   go_enter Tryz.func77, Tryz.ntmps77
   go_wp2_with fail
   refine (HIS.out _ _ (FsF.holds_below HFS.out HB0.out)).mono ?_
   rintro e w1 ⟨rfl, hb⟩
   have HB1 := Lib.hid (HB0.out.trans (hb.mono HB0.out.size))
   clear hb
   go_wp2_with fail
   refine (HIN.out _).mono ?_
   rintro e w2 ⟨rfl, rfl⟩
   go_wp2
   go_ret
   exact ⟨ret_bool HF.out.symm, HB1.out⟩
  ·have hb2 := hA
   rw [Bool.and_eq_true, decide_eq_true_eq, decide_eq_true_eq] at hb2
   obtain ⟨k, rfl⟩ : ∃ k : Nat, i = k := ⟨i.toNat, by omega⟩
   have hk : k < 20 := by omega
   have HVV := Lib.hid (show hasObjB f k = !decide ((ino f k).kind = 0) from by unfold hasObjB; rw [hA, <- hC]; rfl)
   have hM20 : M = 20 := by rw [HM.out]; exact (FsV.parts_of (FsV.ok_parts hC.symm).2.1).2.1
   clear hC hA hb2
   subst hM20
   obtain ⟨a9, c9, e9, l9, hat⟩ := HI1.out
   rw [Value.slice.injEq] at e9
   obtain ⟨rfl, e8, rfl⟩ := e9
   clear e8 l9
   obtain ⟨b, o, rfl, hb, r0, r1, r2, hCl, hP⟩ := hat k (by rw [<- HM.out]; exact hk)
   have hc0 := hCl.1
   rw [show f.inodes.getD k IF.z0 = ino f k from rfl] at hc0
   have HHB := Lib.hid hb
   clear hat hCl hP hb
   obtain ⟨K, hK⟩ : ∃ K, K = (ino f k).kind := ⟨_, rfl⟩
   rw [<- hK] at hc0 HVV
   clear hK
   have HC0 := Lib.hid hc0
   have hk0 : (0 : Int) <= k := by omega
   have hk1 : (k : Int) < 20 := by omega
   clear hc0
   go_enter Tryz.func77, Tryz.ntmps77
   go_wp2_with fail
   refine (HIS.out _ _ (FsF.holds_below HFS.out HB0.out)).mono ?_
   rintro e w1 ⟨rfl, hb⟩
   have HB1 := Lib.hid (HB0.out.trans (hb.mono HB0.out.size))
   have HX1 := Lib.hid (HX0.out.all hb)
   clear hb
   go_wp2_with fail
   refine (HIN.out _).mono ?_
   rintro e w2 ⟨rfl, rfl⟩
   obtain ⟨x0, x1, x2, x3⟩ := Bk.c4 HX1.out
   have c0 := HB1.out.cell (p := ⟨b, o + k * 10, none⟩) HHB.out
   rw [HC0.out] at c0
   by_cases hz : K = 0
   ·have HF := Lib.hid (show hasObjB f k = false from by rw [HVV.out, decide_eq_true hz]; rfl)
    subst hz
    go_wp2
    go_ret
    exact ⟨ret_bool HF.out.symm, HB1.out⟩
   ·have HF := Lib.hid (show hasObjB f k = true from by rw [HVV.out, decide_eq_false hz]; rfl)
    have z1 : (K != 0) = true := by simpa using hz
    have z2 : (K == 0) = false := by simpa using hz
    clear hz
    go_wp2
    go_ret
    exact ⟨ret_bool HF.out.symm, HB1.out⟩
theorem ext_list (s : ByteArray) (a b : Nat) : s.extract a b = ⟨((s.data.toList.drop a).take (b - a)).toArray⟩ := by
 apply ByteArray.ext
 apply Array.toList_inj.1
 rw [ByteArray.data_extract, Array.toList_extract, List.extract_eq_take_drop]
def textV (d : List ByteArray) (n : I) : ByteArray := ⟨((cont d n.blocks).take n.size.toNat).toArray⟩
theorem str_app (l : List UInt8) (s : ByteArray) : (⟨l.toArray⟩ : ByteArray) ++ s = ⟨(l ++ s.data.toList).toArray⟩ := by
 apply ByteArray.ext
 apply Array.toList_inj.1
 rw [ByteArray.data_append, Array.toList_append]
theorem z32_list : z32.data.toList = Z 32 := rfl
theorem arr_size (l : List UInt8) : (⟨l.toArray⟩ : ByteArray).size = l.length := by show l.toArray.size = _; simp
theorem text_spec (w : World) (vf vn : Value) (f : F) (n : I) (h8 : Ok8 f.data n.blocks) (h0 : 0 <= n.size) (hF : FsF.Holds w vf f) (hN : In.Holds w vn n) :
  Calls Tryz.prog 101 #[vf, vn] w fun e w' => e = .returned (.string (textV f.data n)) /\ Below w.heap.size w w' := by
 have H8 := Lib.hid h8
 obtain ⟨r0, r1, r2, rfl, g0, g1, g2⟩ := hF
 obtain ⟨qa, qc, rfl⟩ := QF.form g0
 obtain ⟨ia, ic, rfl⟩ := IF.form g1
 obtain ⟨da, dc, rfl, hD⟩ := g2
 have hD56 := h8.len
 obtain ⟨bd, od, rfl, hbd, hDat⟩ := hD (by intro e; rw [e] at hD56; simp at hD56)
 obtain ⟨s0, s1, s2, rfl, k0, k1, k2⟩ := hN
 obtain ⟨a, c, rfl, _, hB⟩ := k0
 obtain ⟨a1, d1, rfl⟩ := AeF.form k1
 obtain ⟨a2, d2, rfl⟩ := AeF.form k2
 have HBL := Lib.hid hB
 have HDat := Lib.hid hDat
 have HHD := Lib.hid hbd
 rw [hD56]
 obtain ⟨T, hT⟩ : ∃ T, T = f.tick := ⟨_, rfl⟩
 obtain ⟨Q, hQ⟩ : ∃ Q, Q = f.quotas.length := ⟨_, rfl⟩
 obtain ⟨M, hM⟩ : ∃ M, M = f.inodes.length := ⟨_, rfl⟩
 rw [<- hT, <- hQ, <- hM]
 clear g0 g1 hD k1 k2 hB hDat hbd hD56 h8 hT hQ hM
 obtain ⟨z, hz⟩ : ∃ z : Nat, n.size = z := ⟨n.size.toNat, by omega⟩
 have HTX := Lib.hid (show textV f.data n = ⟨((cont f.data n.blocks).take z).toArray⟩ by rw [textV, hz]; rfl)
 rw [HTX.out]
 rw [hz]
 clear hz h0
 obtain ⟨bs, hbs⟩ : ∃ bs, bs = n.blocks := ⟨_, rfl⟩
 rw [<- hbs] at H8 HBL ⊢
 clear hbs HTX
 obtain ⟨L, hL⟩ : ∃ L, L = bs.length := ⟨_, rfl⟩
 rw [<- hL] at HBL ⊢
 have hL8 : L <= 8 := by rw [hL]; exact H8.out.eight
 have HL := Lib.hid hL
 clear hL
 obtain ⟨K0, K1, K2, K3, K4, K6, A1, A2, hK⟩ : ∃ K0 K1 K2 K3 K4 K6 A1 A2, K0 = n.kind /\ K1 = n.mode /\ K2 = n.uid /\ K3 = n.gid /\ K4 = n.links /\ K6 = n.tick /\ A1 = n.acl.length /\ A2 = n.dflt.length := ⟨_, _, _, _, _, _, _, _, rfl, rfl, rfl, rfl, rfl, rfl, rfl, rfl⟩
 obtain ⟨k0, k1, k2, k3, k4, k6, k7, k8⟩ := hK
 rw [<- k0, <- k1, <- k2, <- k3, <- k4, <- k6, <- k7, <- k8]
 clear k0 k1 k2 k3 k4 k6 k7 k8
 have HB0 := Lib.hid (((Below.refl w.heap.size w).alloc (Nat.le_refl _) (.cells #[.int .i64 T, .slice qa Q qc, .slice ia M ic, .slice (some ⟨bd, od, none⟩) 56 dc] 33)).alloc (by simp) (.cells #[.int .i64 K0, .int .i64 K1, .int .i64 K2, .int .i64 K3, .int .i64 K4, .int .i64 z, .int .i64 K6, .slice a L c, .slice a1 A1 d1, .slice a2 A2 d2] 89))
 have HX0 := Lib.hid ((new w #[.int .i64 T, .slice qa Q qc, .slice ia M ic, .slice (some ⟨bd, od, none⟩) 56 dc] 33).alloc (.cells #[.int .i64 K0, .int .i64 K1, .int .i64 K2, .int .i64 K3, .int .i64 K4, .int .i64 z, .int .i64 K6, .slice a L c, .slice a1 A1 d1, .slice a2 A2 d2] 89))
 have HY0 := Lib.hid (new_at (w.alloc (.cells #[.int .i64 T, .slice qa Q qc, .slice ia M ic, .slice (some ⟨bd, od, none⟩) 56 dc] 33)) #[.int .i64 K0, .int .i64 K1, .int .i64 K2, .int .i64 K3, .int .i64 K4, .int .i64 z, .int .i64 K6, .slice a L c, .slice a1 A1 d1, .slice a2 A2 d2] 89 (w.heap.size + 1) (by simp))
 go_enter Tryz.func101, Tryz.ntmps101
 go_wp2
 generalize (w.alloc (.cells #[.int .i64 T, .slice qa Q qc, .slice ia M ic, .slice (some ⟨bd, od, none⟩) 56 dc] 33)).alloc (.cells #[.int .i64 K0, .int .i64 K1, .int .i64 K2, .int .i64 K3, .int .i64 K4, .int .i64 z, .int .i64 K6, .slice a L c, .slice a1 A1 d1, .slice a2 A2 d2] 89) = w0 at *
 go_loopw [5, 11] (fun sv jv wr => ∃ (j : Nat) (s : ByteArray), j <= L /\ jv = .int .i64 j /\ sv = .string s /\ s = ⟨(cont f.data (bs.take j)).toArray⟩ /\ Bk wr w.heap.size #[.int .i64 T, .slice qa Q qc, .slice ia M ic, .slice (some ⟨bd, od, none⟩) 56 dc] 33 /\ Bk wr (w.heap.size + 1) #[.int .i64 K0, .int .i64 K1, .int .i64 K2, .int .i64 K3, .int .i64 K4, .int .i64 z, .int .i64 K6, .slice a L c, .slice a1 A1 d1, .slice a2 A2 d2] 89 /\ Below w.heap.size w wr) (fun _ jv _ => L - (intOf jv).toNat)
 case atStart => exact ⟨0, _, Nat.zero_le _, rfl, rfl, by simp [cont], HX0.out, HY0.out, HB0.out⟩
 case round =>
  obtain ⟨j, s, hj, rfl, rfl, hs, hx, hy, hb⟩ := hrel
  have HS := Lib.hid hs
  have HX := Lib.hid hx
  have HY := Lib.hid hy
  have HB := Lib.hid hb
  clear hx hy hb HB0 HX0 HY0
  have hssz : s.size = 32 * j := by rw [hs, arr_size, H8.out.tk j (by rw [<- HL.out]; exact hj)]
  have hssz2 : s.size <= 256 := by omega
  have HSS := Lib.hid hssz
  clear hs hssz
  by_cases hlt : j < L
  ·have hjl : j < bs.length := by rw [<- HL.out]; exact hlt
   obtain ⟨bb, ob, rfl, hbb, hcb⟩ := HBL.out j hlt
   have cb := HB.out.cell (p := ⟨bb, ob + j, none⟩) hbb
   rw [hcb] at cb
   have hir := H8.out.inr _ (FsV.mem_getD (z := 0) hjl)
   have HCT := Lib.hid (cont_take (d := f.data) hjl)
   clear hcb hbb
   generalize bs.getD j 0 = b at cb hir HCT
   by_cases hm : b = -1
   ·subst hm
    have HN := Lib.hid (show s ++ z32 = ⟨(cont f.data (bs.take (j + 1))).toArray⟩ from by rw [HS.out, str_app, z32_list, HCT.out, one, if_pos rfl])
    have hz0 : (9223372036854775807 < s.size + z32.size) = False := by
     have : z32.size = 32 := rfl
     rw [this]; exact eq_false (by omega)
    go_wp2_with fail
    refine (PadTo.spec_any ⟨#[]⟩ 32 _ (by decide)).mono ?_
    rintro e w1 ⟨rfl, hb⟩
    rw [show PadTo.padB ⟨#[]⟩ 32 = z32 from rfl]
    have HX1 := Lib.hid (HX.out.all hb)
    have HY1 := Lib.hid (HY.out.all hb)
    have HB1 := Lib.hid (HB.out.trans (hb.mono HB.out.size))
    clear hb cb
    go_wp2
    go_roundw
    case rel => exact ⟨j + 1, _, by omega, by go_num, rfl, HN.out, HX1.out, HY1.out, HB1.out⟩
    case measure => simp [intOf]; omega
   ·obtain ⟨k, rfl⟩ : ∃ k : Nat, b = k := ⟨b.toNat, by omega⟩
    have hk : k < 56 := by omega
    have hcd := HDat.out k (by rw [H8.out.len]; exact hk)
    have hsz32 : (f.data.getD k e0).size = 32 := H8.out.sz _ (FsV.mem_getD (by rw [H8.out.len]; exact hk))
    have HN := Lib.hid (show s ++ f.data.getD k e0 = ⟨(cont f.data (bs.take (j + 1))).toArray⟩ from by rw [HS.out, str_app, HCT.out, one, if_neg hm]; rfl)
    have cd := HB.out.cell (p := ⟨bd, od + k, none⟩) HHD.out
    rw [hcd] at cd
    rw [show (⟨#[]⟩ : ByteArray) = e0 from rfl] at cd
    have hz0 : (9223372036854775807 < s.size + (f.data.getD k e0).size) = False := by rw [hsz32]; exact eq_false (by omega)
    have q1 : ((k : Int) == -1) = false := by simp
    have q2 : ((k : Int) != -1) = true := by simp
    clear hcd hsz32 hm hir HCT
    generalize f.data.getD k e0 = t at cd HN hz0
    obtain ⟨x0, x1, x2, x3⟩ := Bk.c4 HX.out
    have hk0 : (0 : Int) <= k := by omega
    have hk1 : (k : Int) < 56 := by omega
    go_wp2
    go_roundw
    case rel => exact ⟨j + 1, _, by omega, by go_num, rfl, HN.out, HX.out, HY.out, HB.out⟩
    case measure => simp [intOf]; omega
  ·obtain rfl : j = L := by omega
   have HE := Lib.hid (show s = ⟨(cont f.data bs).toArray⟩ from by rw [HS.out, HL.out, List.take_length])
   obtain ⟨y0, y1, y2, y3, y4, y5, y6, y7, y8, y9⟩ := Bk.c10 HY.out
   by_cases hzs : z < s.size
   ·have HR := Lib.hid (show s.extract 0 z = ⟨((cont f.data bs).take z).toArray⟩ from by rw [ext_list, HE.out]; simp)
    go_wp2
    go_ret
    exact ⟨ret_str HR.out, HB.out⟩
   ·have HR := Lib.hid (show s = ⟨((cont f.data bs).take z).toArray⟩ from by rw [HE.out, List.take_of_length_le (by have := HE.out; rw [this, arr_size] at hzs; omega)])
    go_wp2
    go_ret
    exact ⟨ret_str HR.out, HB.out⟩
end Go.Proofs.YthppbcnejapbiaaGreatDoor.SpR
