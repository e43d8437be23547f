/- Helper texts joined, one behind another (a claim has at most 60 files): what each proves, its own head says: YthppbcnejapbiaaGreatDoorDe, YthppbcnejapbiaaGreatDoorEnS, YthppbcnejapbiaaGreatDoorEnT, YthppbcnejapbiaaGreatDoorOpF. -/
import Derived.Test.YthppbcnejapbiaaGreatDoorAdA
import Derived.Deep.RegionHeld3
import Derived.Test.YthppbcnejapbiaaGreatDoorAdL
import Derived.Test.YthppbcnejapbiaaGreatDoorDk
import Derived.Test.YthppbcnejapbiaaGreatDoorFam
import Derived.Deep.RegionLaw
import Derived.Test.YthppbcnejapbiaaGreatDoorAdB
import Derived.Test.YthppbcnejapbiaaGreatDoorAdF

-- YthppbcnejapbiaaGreatDoorDe
/- A part. -/
namespace Go.Proofs.YthppbcnejapbiaaGreatDoor.De
open Go.ChangeShapes Go.WideShapes Go.ChangeAt Go.RowKit Go.Deep
open Foot
open Strs (markT grow_below grow_trans own_below below_of_drew ret_int)
set_option linter.unusedVariables false
abbrev Et := ByteArray × Int
abbrev L := List Et
def d0 : Et := (⟨#[]⟩, 0)
def ecell (x : Et) : List Value := [.string x.1, .int .i64 x.2]
def ecells (ws : L) : List Value := ws.flatMap ecell
theorem ecells_length (ws : L) : (ecells ws).length = ws.length * 2 := by
 induction ws with
 | nil => rfl
 | cons a l ih => rw [ecells, List.flatMap_cons, List.length_append, <- ecells, ih]; simp [ecell]; omega
theorem ecells_app (a b : L) : ecells (a ++ b) = ecells a ++ ecells b := by simp [ecells]
theorem ecells_at (ws : L) (j : Nat) (h : j < ws.length) : (ecells ws)[j * 2]? = some (.string (ws.getD j d0).1) /\ (ecells ws)[j * 2 + 1]? = some (.int .i64 (ws.getD j d0).2) := by
 have e : ws = ws.take j ++ (ws.getD j d0 :: ws.drop (j + 1)) := by
  rw [List.getD_eq_getElem?_getD, List.getElem?_eq_getElem h]
  simp
 have e2 : ecells ws = ecells (ws.take j) ++ ([.string (ws.getD j d0).1, .int .i64 (ws.getD j d0).2] ++ ecells (ws.drop (j + 1))) := by
  conv => lhs; rw [e]
  rw [ecells_app]; rfl
 have hl : (ecells (ws.take j)).length = j * 2 := by rw [ecells_length, List.length_take, Nat.min_eq_left (Nat.le_of_lt h)]
 rw [e2]
 constructor
 ·rw [List.getElem?_append_right (by omega), hl]; simp
 ·rw [List.getElem?_append_right (by omega), hl]; simp
theorem cell_two (w : World) (x y : Value) (t : TypeId) (j : Nat) (u : Value) (hj : [x, y][j]? = some u) : (w.alloc (.cells #[x, y] t)).cell? ((⟨w.heap.size, 0, none⟩ : Addr).add j) = some u := by
 rw [Addr.add_lit, Nat.zero_add, World.cell?_alloc_at _ _ _ _ rfl]
 simpa using hj
section
variable {w w' : World} {base : Nat} {v : Value} {l : L} {S T : List Nat}
end
end Go.Proofs.YthppbcnejapbiaaGreatDoor.De

-- YthppbcnejapbiaaGreatDoorEnS
/- A part. -/
namespace Go.Proofs.YthppbcnejapbiaaGreatDoor.EnS
open Go.ChangeShapes Go.WideShapes Go.ChangeAt Go.RowKit
open Foot Bx
open InoV (I usedV needV)
open FsV (F okF e0 z32)
open FsY FsZ FoB CoC CoN SpR
open EnV EnD
open EnN (nameB)
open De (ecells ecells_app)
set_option linter.unusedVariables false
theorem dirInfo : (Tryz.prog.info? 75).map (fun i => (i.zero, i.size, i.bytes)) = some (some (.agg #[.string ⟨#[]⟩, .int .i64 0]), 2, 24) := by kernel_rfl
def recAt (s : ByteArray) (j : Nat) : ByteArray := s.extract (16 * j) (16 * j + 16)
def entsS (s : ByteArray) (j : Nat) : List (ByteArray × Int) := (List.range j).filterMap fun i => entB (recAt s i)
theorem entsS_succ (s : ByteArray) (k : Nat) : entsS s (k + 1) = entsS s k ++ (match entB (recAt s k) with | some e => [e] | none => []) := by
 unfold entsS
 rw [List.range_succ, List.filterMap_append]
 congr 1
 simp only [List.filterMap_cons, List.filterMap_nil]
 cases entB (recAt s k) <;> rfl
theorem entsS_len (s : ByteArray) (k : Nat) : (entsS s k).length <= k := by
 have := List.length_filterMap_le (fun i => entB (recAt s i)) (List.range k)
 simpa [entsS] using this
theorem rec_list (s : ByteArray) (j : Nat) : (recAt s j).data.toList = (s.data.toList.drop (16 * j)).take 16 := by
 unfold recAt
 rw [ext_data, List.drop_take, show 16 * j + 16 - 16 * j = 16 from by omega]
theorem num_at (s : ByteArray) (j : Nat) : Nums.getL (GetNumber.seg s (16 * j) 2) = numI (recAt s j) := by
 unfold numI GetNumber.seg
 rw [rec_list, List.drop_zero, List.take_take]
 rfl
theorem len_at (s : ByteArray) (j : Nat) (h : 16 * j + 2 < s.size) : (s[16 * j + 2]).toNat = lenI (recAt s j) := by
 unfold lenI
 rw [rec_list]
 have hl : 16 * j + 2 < s.data.toList.length := by simp; exact h
 rw [List.getD_eq_getElem?_getD, List.getElem?_take_of_lt (by omega), List.getElem?_drop, List.getElem?_eq_getElem hl]
 simp
 rfl
theorem name_at (s : ByteArray) (j n : Nat) (hn : n <= 12) : s.extract (16 * j + 3) (16 * j + 3 + n) = (recAt s j).extract 3 (3 + n) := by
 apply ByteArray.ext
 apply Array.toList_inj.1
 rw [ext_data, ext_data, rec_list, List.take_take, show min (3 + n) 16 = 3 + n from by omega, List.drop_take, List.drop_take, List.drop_drop, show 16 * j + 3 + n - (16 * j + 3) = n from by omega, show 3 + n - 3 = n from by omega, ]
theorem fm_congr {α β : Type} {f g : α -> Option β} : ∀ {l : List α}, (∀ a ∈ l, f a = g a) -> l.filterMap f = l.filterMap g
 | [], _ => rfl
 | a :: l, h => by rw [List.filterMap_cons, List.filterMap_cons, h a (by simp), fm_congr (fun b hb => h b (by simp [hb]))]
theorem text_size {f : F} {k : Nat} (g : GoodF f k) : (textV f.data (ino f k)).size = (ino f k).size.toNat /\ (textV f.data (ino f k)).data.toList = (cont f.data (ino f k).blocks).take (ino f k).size.toNat /\ (ino f k).size.toNat <= (cont f.data (ino f k).blocks).length := by
 have hsz := g.size
 have hlen := (cont_at f.data _ g.dsz g.dlen g.inr).1
 have hzl : (ino f k).size.toNat <= (cont f.data (ino f k).blocks).length := by
  rw [hlen]
  have h3 := hsz.2.2.1
  unfold InoV.needV at h3
  split at h3 <;> omega
 refine ⟨?_, rfl, hzl⟩
 rw [textV, arr_size, List.length_take]; omega
theorem ent_num {r : ByteArray} (h : ¬ (1 <= numI r /\ numI r <= 20)) : entB r = none := by unfold entB; rw [if_neg (fun h' => h h'.1)]
theorem ent_len {r : ByteArray} (h : ¬ lenI r <= 12) : entB r = none := by unfold entB; rw [if_neg (fun h' => h h'.2)]
theorem ent_no {r nm : ByteArray} (h : nm = r.extract 3 (3 + lenI r)) (hn : ¬ (nameB nm = true /\ recB nm ((numI r : Int) - 1) = r)) : entB r = none := by
 unfold entB
 rw [<- h]
 split
 ·first | rfl | rw [if_neg hn]
 ·rfl
theorem ent_yes {r nm : ByteArray} (h : nm = r.extract 3 (3 + lenI r)) (h1 : 1 <= numI r /\ numI r <= 20) (h2 : lenI r <= 12) (h3 : nameB nm = true) (h4 : recB nm ((numI r : Int) - 1) = r) : entB r = some (nm, (numI r : Int) - 1) := by
 unfold entB
 rw [<- h, if_pos ⟨h1, h2⟩, if_pos ⟨h3, h4⟩]
theorem same_of {s : ByteArray} {l : List (ByteArray × Int)} {j : Nat} (hl : l = entsS s j) (h : entB (recAt s j) = none) : l = entsS s (j + 1) := by rw [entsS_succ, h, List.append_nil]; exact hl
theorem more_of {s : ByteArray} {l : List (ByteArray × Int)} {j : Nat} {x : ByteArray × Int} (hl : l = entsS s j) (h : entB (recAt s j) = some x) : l ++ [x] = entsS s (j + 1) := by rw [entsS_succ, h, <- hl]
theorem entsS_text {f : F} {k j : Nat} (g : GoodF f k) (h : 16 * j <= (ino f k).size.toNat) : entsS (textV f.data (ino f k)) j = entsL (content f.data (ino f k).blocks) j := by
 obtain ⟨h1, h2, h3⟩ := text_size g
 unfold entsS entsL
 refine fm_congr (fun i hi => ?_)
 have hi' : i < j := by simpa using hi
 have he : recAt (textV f.data (ino f k)) i = ⟨(((content f.data (ino f k).blocks).drop (16 * i)).take 16).toArray⟩ := by
  apply ByteArray.ext
  apply Array.toList_inj.1
  rw [rec_list, h2]
  show _ = ((content f.data (ino f k).blocks).drop (16 * i)).take 16
  rw [List.drop_take, List.take_take, show min 16 ((ino f k).size.toNat - 16 * i) = 16 from by omega, content, List.drop_append_of_le_length (by omega), List.take_append_of_le_length (by rw [List.length_drop]; omega)]
 rw [he]
set_option maxRecDepth 100000 in
set_option maxHeartbeats 6400000 in
theorem ents_spec (w : World) (v : Value) (f : F) (k : Nat) (g : GoodF f k) (h : FsF.Holds w v f) :
  Calls Tryz.prog 54 #[v, .int .i64 k] w fun e w' => ∃ vo, e = .returned vo /\ w'.ownsRow w.heap.size 75 2 vo (entsV f k).length (ecells (entsV f k)) /\ Below w.heap.size w w' := by
 obtain ⟨j0, hy, hy0, hy1, hy2⟩ := info_parts dirInfo
 have HFS := Lib.hid h
 have hk := g.lt
 have hsz := g.size
 have HSZ := Lib.hid hsz.1
 have H8 := Lib.hid (ok8_of g)
 obtain ⟨r0, r1, r2, rfl, g0, g1, g2⟩ := h
 have HI1 := Lib.hid g1
 obtain ⟨qa, qc, rfl⟩ := QF.form g0
 obtain ⟨ia, ic, rfl⟩ := IF.form g1
 obtain ⟨da, dc, rfl⟩ := SF.form g2
 clear g0 g1 g2
 obtain ⟨T, hT⟩ : ∃ T, T = f.tick := ⟨_, rfl⟩
 obtain ⟨Q, hQ⟩ : ∃ Q, Q = f.quotas.length := ⟨_, rfl⟩
 obtain ⟨M, hM⟩ : ∃ M, M = f.inodes.length := ⟨_, rfl⟩
 obtain ⟨D, hD⟩ : ∃ D, D = f.data.length := ⟨_, rfl⟩
 rw [<- hT, <- hQ, <- hM, <- hD] at HFS ⊢
 rw [<- hM] at HI1
 have HM := Lib.hid hM
 clear hT hQ hM hD
 have HB0 := Lib.hid ((Below.refl w.heap.size w).alloc (Nat.le_refl _) (.cells #[.int .i64 T, .slice qa Q qc, .slice ia M ic, .slice da D dc] 33))
 have HX0 := Lib.hid (new w #[.int .i64 T, .slice qa Q qc, .slice ia M ic, .slice da D dc] 33)
 have hM20 : M = 20 := by rw [HM.out]; exact (FsV.parts_of (FsV.ok_parts g.ok).2.1).2.1
 subst hM20
 obtain ⟨a9, c9, e9, l9, hat⟩ := HI1.out
 rw [Value.slice.injEq] at e9
 obtain ⟨rfl, e8, rfl⟩ := e9
 clear e8 l9
 obtain ⟨b, o, rfl, hb, r0, r1, r2, hCl, hP⟩ := hat k (by rw [<- HM.out]; exact hk)
 rw [show f.inodes.getD k IF.z0 = ino f k from rfl] at hCl hP
 have HIN := Lib.hid (IF.parts_holds hP)
 obtain ⟨p0, p1, p2⟩ := hP
 obtain ⟨b0, e0', rfl⟩ := NiF.form p0
 obtain ⟨b1, e1', rfl⟩ := AeF.form p1
 obtain ⟨b2, e2', rfl⟩ := AeF.form p2
 have HHB := Lib.hid hb
 have HCL := Lib.hid hCl
 have htl := (text_size g).1
 have htk : (textV f.data (ino f k)).size <= 256 := by rw [htl]; have := hsz.2; omega
 have HEV := Lib.hid (show entsS (textV f.data (ino f k)) ((textV f.data (ino f k)).size / 16) = entsV f k from by rw [entsS_text g (by rw [htl]; omega), htl]; rfl)
 have HTX := Lib.hid (fun (W : World) (hw : Below w.heap.size w W) => text_spec W _ _ f (ino f k) H8.out HSZ.out (FsF.holds_below HFS.out hw) (In.holds_below HIN.out hw))
 have hk0 : (0 : Int) <= k := by omega
 have hk1 : (k : Int) < 20 := by omega
 clear hat hCl p0 p1 p2 hb g hsz htl
 rw [<- HEV.out]
 obtain ⟨tx, htx⟩ : ∃ t, t = textV f.data (ino f k) := ⟨_, rfl⟩
 rw [<- htx] at HTX htk ⊢
 clear htx HEV
 obtain ⟨N, hN⟩ : ∃ N, N = ino f k := ⟨_, rfl⟩
 rw [<- hN] at HTX HCL HIN
 clear hN H8 HSZ
 obtain ⟨K, hK⟩ : ∃ K, K = tx.size / 16 := ⟨_, rfl⟩
 rw [<- hK]
 have HKQ := Lib.hid hK
 clear hK
 have HOW0 := World.ownsRow_made (w.alloc (.cells #[.int .i64 T, .slice qa Q qc, .slice (some ⟨b, o, none⟩) 20 ic, .slice da D dc] 33)) #[] 0 (e := 75) (size := 2) (base := w.heap.size) (by simp) (Nat.zero_le _) rfl
 simp only [World.size_alloc] at HOW0
 have hb0 : Below w.heap.size w ((w.alloc (.cells #[.int .i64 T, .slice qa Q qc, .slice (some ⟨b, o, none⟩) 20 ic, .slice da D dc] 33)).alloc (.cells #[] 75)) := HB0.out.alloc (by simp) _
 have hx0 := HX0.out.alloc (.cells #[] 75)
 obtain ⟨w0, hw0⟩ : ∃ W, ((w.alloc (.cells #[.int .i64 T, .slice qa Q qc, .slice (some ⟨b, o, none⟩) 20 ic, .slice da D dc] 33)).alloc (.cells #[] 75)) = W := ⟨_, rfl⟩
 rw [hw0] at HOW0 hb0 hx0
 have HB1 := Lib.hid hb0
 have HX1 := Lib.hid hx0
 obtain ⟨x0, x1, x2, x3⟩ := Bk.c4 hx0
 obtain ⟨d0, d1, d2, d3, d4, d5, d6, d7, d8, d9⟩ := HCL.out.below HHB.out hb0
 clear hb0 hx0 HB0 HX0
 go_enter Tryz.func54, Tryz.ntmps54
 go_wp2
 go_region_law (go_simp; go_at_call 101; ((with_reducible refine (HTX.out _ HB1.out.drew).mono ?_)); rintro e w2 ⟨rfl, hb⟩; have HB2 := Lib.hid (HB1.out.drew.trans (hb.mono HB1.out.drew.size)); have HOW2 := Lib.hid (row_below HOW0 ((Below.refl w0.heap.size w0).drew.trans hb)); clear hb)
 all_goals
  go_wp2
  go_loopw [5, 7] (fun ov av wr => ∃ (j A n : Nat) (l : List (ByteArray × Int)), j <= K /\ A = 16 * j /\ av = .int .i64 A /\ l = entsS tx j /\ n = l.length /\ wr.ownsRow w.heap.size 75 2 ov n (ecells l) /\ Below w.heap.size w wr) (fun _ av _ => K - (intOf av).toNat / 16)
  case atStart => exact ⟨0, 0, 0, [], Nat.zero_le _, rfl, rfl, rfl, rfl, HOW2.out, HB2.out⟩
  case round =>
   obtain ⟨j, A, n, l, hj, hA, rfl, hl, hn, how, hb⟩ := hrel
   have HO := Lib.hid how
   have HB := Lib.hid hb
   have HA := Lib.hid hA
   have HL := Lib.hid hl
   have HN := Lib.hid hn
   clear how hb HOW2 HB2 hl
   by_cases hlt : j < K
   ·have hin : A + 16 <= tx.size := by have := HKQ.out; omega
    have hr0 : (A : Int) + 16 <= tx.size := by omega
    have hw1 : IntKind.i64.wrap ((A : Int) + 16) = (A : Int) + 16 := IntWalk.i64_in _ (by omega)
    have hw2 : IntKind.i64.wrap ((A : Int) + 2) = (A : Int) + 2 := IntWalk.i64_in _ (by omega)
    have hw3 : IntKind.i64.wrap ((A : Int) + 3) = (A : Int) + 3 := IntWalk.i64_in _ (by omega)
    obtain ⟨NI, hNI⟩ : ∃ x, x = numI (recAt tx j) := ⟨_, rfl⟩
    have HGN := Lib.hid (fun W => show Calls Tryz.prog 102 #[.string tx, .int .i64 A, .int .i64 2] W fun e w' => e = .returned (.tuple #[.int .i64 NI, .bool true]) /\ W = w' from by
     have := GetNumber.spec_yes tx A 2 W (by omega) (by decide) (by decide) (by omega)
     rw [hA, num_at tx j, <- hNI, <- hA] at this
     exact this)
    have HNI := Lib.hid hNI
    clear hNI
    have hi1 : (A : Int) + 2 < tx.size := by omega
    have hi0 : (0 : Int) <= (A : Int) + 2 := by omega
    have hi2 : A + 2 < tx.size := by omega
    have hi3 : ((A : Int) + 2).toNat = A + 2 := by omega
    obtain ⟨LI, hLI⟩ : ∃ x, x = lenI (recAt tx j) := ⟨_, rfl⟩
    have hby0 : (tx[A + 2]).toNat = LI := by
     have := len_at tx j (by omega)
     subst hA
     rw [hLI]; exact this
    have hlb : LI < 256 := by rw [<- hby0]; exact (tx[A + 2]).toNat_lt
    have hby2 : wrap64 ((tx[A + 2]).toNat : Int) = (LI : Int) := by
     rw [hby0]; unfold wrap64; omega
    have HLI := Lib.hid hLI
    have HBY := Lib.hid hby2
    clear hby2
    clear hA hn hLI hby0
    have hm0 : (0 : Int) <= A := by omega
    have hNE := HNI.out
    by_cases h1 : 1 <= NI /\ NI <= 20
    ·have HI := Lib.hid (fun W => show Calls Tryz.prog 103 #[.int .i64 NI, .int .i64 1, .int .i64 20] W fun e w' => e = .returned (.bool true) /\ W = w' from by
      have := EnN.in_spec NI 1 20 W
      rw [decide_eq_true (show (1 : Int) <= NI by omega), decide_eq_true (show (NI : Int) <= 20 by omega)] at this
      exact this)
     have H1 := Lib.hid h1
     clear h1 hNE
     by_cases h2 : LI <= 12
     ·have H2 := Lib.hid h2
      have hg1 : (LI : Int) <= 12 := by omega
      have hg2 : decide ((12 : Int) < (LI : Int)) = false := decide_eq_false (by omega)
      have hg3 : ((12 : Int) < (LI : Int)) = False := eq_false (by omega)
      have hg4 : (12 < LI) = False := eq_false (by omega)
      have hs1 : (A : Int) + 3 + LI <= tx.size := by omega
      have hw4 : IntKind.i64.wrap ((A : Int) + 3 + LI) = (A : Int) + 3 + LI := IntWalk.i64_in _ (by omega)
      have hw5 : IntKind.i64.wrap ((NI : Int) - 1) = (NI : Int) - 1 := IntWalk.i64_in _ (by have := H1.out; omega)
      obtain ⟨nm, hnm⟩ : ∃ x, x = tx.extract (A + 3) (A + 3 + LI) := ⟨_, rfl⟩
      have hns : nm.size <= 12 := by rw [hnm, ByteArray.size_extract]; omega
      have hs3 : (0 : Int) <= (A : Int) + 3 := by omega
      have hs4 : (A : Int) + 3 <= (A : Int) + 3 + LI := by omega
      have hcq : ∀ W : World, (Instr.slice 9 (.string tx) (some (.int .i64 ((A : Int) + 3))) (some (.int .i64 ((A : Int) + 3 + LI))) none).run Tryz.prog W = .ok (.string nm) W := fun W => by
       rw [run_slice_string W 9 tx .i64 .i64 _ _ Tryz.underlying9 hs3 hs4 hs1, show ((A : Int) + 3).toNat = A + 3 from by omega, show ((A : Int) + 3 + LI).toNat = A + 3 + LI from by omega, hnm]
      have HNM := Lib.hid (show nm = (recAt tx j).extract 3 (3 + lenI (recAt tx j)) from by
       rw [hnm, HA.out, HLI.out]; exact name_at tx j _ (by rw [<- HLI.out]; exact h2))
      clear hnm h2
      go_wp2_with fail
      have hby2 := HBY.out
      refine (HGN.out _).mono ?_
      rintro e w3 ⟨rfl, rfl⟩
      go_wp2_with fail
      refine (HI.out _).mono ?_
      rintro e w3 ⟨rfl, rfl⟩
      go_wp2_with fail
      clear hby2
      have hs16a : (0 : Int) <= A := hm0
      have hs16b : (A : Int) <= (A : Int) + 16 := by omega
      obtain ⟨rc, hrc⟩ : ∃ x, x = tx.extract A (A + 16) := ⟨_, rfl⟩
      have hcr : ∀ W : World, (Instr.slice 9 (.string tx) (some (.int .i64 (A : Int))) (some (.int .i64 ((A : Int) + 16))) none).run Tryz.prog W = .ok (.string rc) W := fun W => by
       rw [run_slice_string W 9 tx .i64 .i64 _ _ Tryz.underlying9 hs16a hs16b hr0, show ((A : Int)).toNat = A from by omega, show ((A : Int) + 16).toNat = A + 16 from by omega, hrc]
      have HRC := Lib.hid (show rc = recAt tx j from by rw [hrc, HA.out]; rfl)
      have bE := new wr #[.string nm, .int .i64 ((NI : Int) - 1)] 75
      have hOE := HO.out.alloc (.cells #[.string nm, .int .i64 ((NI : Int) - 1)] 75)
      have hBE := HB.out.alloc HB.out.size (.cells #[.string nm, .int .i64 ((NI : Int) - 1)] 75)
      obtain ⟨bx, hbx⟩ : ∃ x, wr.heap.size = x := ⟨_, rfl⟩
      rw [hbx] at bE
      have HBX := Lib.hid hbx
      generalize wr.alloc (.cells #[.string nm, .int .i64 ((NI : Int) - 1)] 75) = we at bE hOE hBE ⊢
      clear hrc hcq
      obtain ⟨Bn, hBn⟩ : ∃ x, x = nameB nm := ⟨_, rfl⟩
      have HNB := Lib.hid hBn
      have HNS := Lib.hid (fun W => show Calls Tryz.prog 104 #[.string nm] W fun e w' => e = .returned (.bool Bn) /\ W = w' from by rw [hBn]; exact EnN.name_spec nm (by omega) W)
      obtain ⟨rcB, hrB⟩ : ∃ x, x = recB nm ((NI : Int) - 1) := ⟨_, rfl⟩
      have HRB := Lib.hid hrB
      have HRS := Lib.hid (fun W => show Calls Tryz.prog 105 #[.agg #[.string nm, .int .i64 ((NI : Int) - 1)]] W fun e w' => e = .returned (.string rcB) /\ Below W.heap.size W w' from by rw [hrB]; exact EnO.rec_spec nm _ W hns (by have := H1.out; omega) (by have := H1.out; omega))
      have hnj : n <= j := by rw [HN.out, HL.out]; exact entsS_len tx j
      have hj16 : j <= 16 := by have := HKQ.out; omega
      have z0 := Fam.cell (W := we) (p := ⟨bx, 0, none⟩) bE.lt bE.two.1
      have z1 := Fam.cell (W := we) (p := ⟨bx, 1, none⟩) bE.lt bE.two.2
      have HBE := Lib.hid bE
      have HOE := Lib.hid hOE
      have HBW := Lib.hid hBE
      clear hBn hrB bE hOE hBE
      cases Bn
      ·have HE := Lib.hid (same_of HL.out (ent_no HNM.out (fun h => by have := h.1; rw [<- HNB.out] at this; cases this)))
       refine Fam.region (by kernel_rfl) (by kernel_rfl) ?_
       repeat (go_big_quiet_step (first | (go_at_call 104; with_reducible refine Fam.calls_same (HNS.out _)) | (go_at_call 105; with_reducible refine Fam.calls (HRS.out _))))
       refine wpQuiet_nil ?_
       intro _ hw'
       obtain ⟨nq, hw''⟩ := hw'
       subst hw''
       have hbq := Fam.wld_below _ nq
       generalize Fam.wld _ nq = w9 at hbq ⊢
       have HO9 := Lib.hid (row_below HOE.out hbq)
       have HB9 := Lib.hid (HBW.out.trans (hbq.mono HBW.out.size))
       clear hbq z0 z1
       go_wp2
       go_roundw
       case rel => exact ⟨j + 1, A + 16, n, l, by omega, by have := HA.out; omega, by go_num, HE.out, HN.out, HO9.out, HB9.out⟩
       case measure => have := HA.out; simp [intOf]; omega
      ·by_cases hrr : rcB = rc
       ·have HE := Lib.hid (show l ++ [(nm, (NI : Int) - 1)] = entsS tx (j + 1) from by
         have h9 := ent_yes HNM.out (by rw [<- HNI.out]; exact H1.out) (by rw [<- HLI.out]; exact H2.out) HNB.out.symm (by rw [<- HNI.out, <- HRB.out, <- HRC.out]; exact hrr)
         rw [<- HNI.out] at h9
         exact more_of HL.out h9)
        have hq1 : (rcB.toList == rc.toList) = true := by rw [hrr]; exact beq_self_eq_true _
        clear hrr
        refine Fam.region (by kernel_rfl) (by kernel_rfl) ?_
        repeat (go_big_quiet_step (first | (go_at_call 104; with_reducible refine Fam.calls_same (HNS.out _)) | (go_at_call 105; with_reducible refine Fam.calls (HRS.out _))))
        refine wpQuiet_nil ?_
        intro _ hw'
        obtain ⟨nq, hw''⟩ := hw'
        subst hw''
        have hbq := Fam.wld_below _ nq
        generalize Fam.wld _ nq = w9 at hbq ⊢
        have hO6 := row_below HOE.out hbq
        have hB6 := HBW.out.trans (hbq.mono HBW.out.size)
        have hsz6 := hB6.size
        obtain ⟨c60, c61⟩ := (HBE.out.all hbq).two
        clear hbq z0 z1
        go_wp2_with (at_builtin; go_loud (refine wpList_append_own _ rfl _ _ 37 rfl _ 75 j0 (.agg #[.string ⟨#[]⟩, .int .i64 0]) 2 24 Tryz.underlying37 hy hy0 hy1 hy2 rfl (by decide) _ _ _ rfl (hO6.alloc _) ⟨w9.heap.size, 0, none⟩ 1 1 [.string nm, .int .i64 ((NI : Int) - 1)] rfl rfl (De.cell_two w9 (.string nm) (.int .i64 ((NI : Int) - 1)) 75) (by simp [Value.oneCell']) ?q1 ?q2 ?q3 ?_))
        case q1 => unfold maxLen; omega
        case q2 => omega
        case q3 => simp only [World.size_alloc]; omega
        intro v9 wz hown9 hg9 _
        have hB9 := (hB6.alloc hB6.size (.cells #[.string nm, .int .i64 ((NI : Int) - 1)] 75)).grown hg9 (by simp only [World.size_alloc]; omega) (fun x hx => (hO6.lt x hx).1)
        clear c60 c61
        go_wp2
        go_roundw
        case rel => exact ⟨j + 1, A + 16, n + 1, l ++ [(nm, (NI : Int) - 1)], by omega, by have := HA.out; omega, by go_num, HE.out, by rw [List.length_append, HN.out]; rfl, by rw [ecells_app]; exact hown9, hB9⟩
        case measure => have := HA.out; simp [intOf]; omega
       ·have HE := Lib.hid (same_of HL.out (ent_no HNM.out (fun h => hrr (by have := h.2; rw [<- HNI.out, <- HRB.out, <- HRC.out] at this; exact this))))
        have hq1 := EnP.str_ne hrr
        have hq2 : rcB.toList ≠ rc.toList := by simpa using hq1
        clear hrr
        refine Fam.region (by kernel_rfl) (by kernel_rfl) ?_
        repeat (go_big_quiet_step (first | (go_at_call 104; with_reducible refine Fam.calls_same (HNS.out _)) | (go_at_call 105; with_reducible refine Fam.calls (HRS.out _))))
        refine wpQuiet_nil ?_
        intro _ hw'
        obtain ⟨nq, hw''⟩ := hw'
        subst hw''
        have hbq := Fam.wld_below _ nq
        generalize Fam.wld _ nq = w9 at hbq ⊢
        have HO9 := Lib.hid (row_below HOE.out hbq)
        have HB9 := Lib.hid (HBW.out.trans (hbq.mono HBW.out.size))
        clear hbq z0 z1
        go_wp2
        go_roundw
        case rel => exact ⟨j + 1, A + 16, n, l, by omega, by have := HA.out; omega, by go_num, HE.out, HN.out, HO9.out, HB9.out⟩
        case measure => have := HA.out; simp [intOf]; omega
     ·have HE := Lib.hid (same_of HL.out (ent_len (by rw [<- HLI.out]; exact h2)))
      have hg1 : (12 : Int) < LI := by omega
      clear h2
      go_wp2_with fail
      have hby2 := HBY.out
      refine (HGN.out _).mono ?_
      rintro e w3 ⟨rfl, rfl⟩
      go_wp2_with fail
      refine (HI.out _).mono ?_
      rintro e w3 ⟨rfl, rfl⟩
      go_wp2
      go_roundw
      case rel => exact ⟨j + 1, A + 16, n, l, by omega, by have := HA.out; omega, by go_num, HE.out, HN.out, HO.out, HB.out⟩
      case measure => have := HA.out; simp [intOf]; omega
    ·have HI := Lib.hid (fun W => show Calls Tryz.prog 103 #[.int .i64 NI, .int .i64 1, .int .i64 20] W fun e w' => e = .returned (.bool false) /\ W = w' from by
      have := EnN.in_spec NI 1 20 W
      rw [show (decide ((1 : Int) <= NI) && decide ((NI : Int) <= 20)) = false from by
       rw [Bool.and_eq_false_iff, decide_eq_false_iff_not, decide_eq_false_iff_not]; omega] at this
      exact this)
     have HE := Lib.hid (same_of HL.out (ent_num (by rw [<- HNI.out]; exact h1)))
     clear h1 hNE
     go_wp2_with fail
     have hby2 := HBY.out
     refine (HGN.out _).mono ?_
     rintro e w3 ⟨rfl, rfl⟩
     go_wp2_with fail
     refine (HI.out _).mono ?_
     rintro e w3 ⟨rfl, rfl⟩
     go_wp2
     go_roundw
     case rel => exact ⟨j + 1, A + 16, n, l, by omega, by have := HA.out; omega, by go_num, HE.out, HN.out, HO.out, HB.out⟩
     case measure => have := HA.out; simp [intOf]; omega
   ·obtain rfl : j = K := by omega
    have hr0 : ¬ ((A : Int) + 16 <= tx.size) := by have := HKQ.out; omega
    have hr1 : (tx.size : Int) < (A : Int) + 16 := by omega
    have hw1 : IntKind.i64.wrap ((A : Int) + 16) = (A : Int) + 16 := IntWalk.i64_in _ (by have := HKQ.out; omega)
    clear hA
    go_wp2
    go_ret
    have hrow := HO.out
    rw [HN.out, HL.out] at hrow
    exact ⟨_, rfl, hrow, HB.out⟩
end Go.Proofs.YthppbcnejapbiaaGreatDoor.EnS

-- YthppbcnejapbiaaGreatDoorEnT
/- A part. -/
namespace Go.Proofs.YthppbcnejapbiaaGreatDoor.EnT
open Go.ChangeShapes Go.WideShapes Go.ChangeAt Go.RowKit
open Foot Bx
open InoV (I)
open FsV (F okF)
open FsY (ino hasObjB)
open FsZ (GoodF)
open EnV EnD EnF
open De (ecells ecells_length ecells_at)
open EnP (str_ne)
set_option linter.unusedVariables false
theorem find_at {l : List (ByteArray × Int)} {s : ByteArray} {j : Nat} {x : ByteArray × Int} (hj : j < l.length) (hx : l.getD j De.d0 = x) (h : ∀ i, i < j -> (l.getD i De.d0).1 ≠ s) (he : x.1 = s) : findL l s = some x := by
 have e : l = (l.take j ++ [x]) ++ l.drop (j + 1) := by
  have : l.getD j De.d0 = l[j] := by rw [List.getD_eq_getElem?_getD, List.getElem?_eq_getElem hj]; rfl
  rw [<- hx, this, List.append_assoc, List.singleton_append, <- List.drop_eq_getElem_cons hj, List.take_append_drop]
 rw [e]
 refine find_hit (fun y hy => ?_) he _
 obtain ⟨i, hi, rfl⟩ := List.mem_iff_getElem.1 hy
 rw [List.length_take] at hi
 rw [List.getElem_take]
 have := h i (by omega)
 rwa [List.getD_eq_getElem?_getD, List.getElem?_eq_getElem (by omega)] at this
theorem find_nothing {l : List (ByteArray × Int)} {s : ByteArray} (h : ∀ i, i < l.length -> (l.getD i De.d0).1 ≠ s) : findL l s = none := by
 refine find_none (fun e he => ?_)
 obtain ⟨i, hi, rfl⟩ := List.mem_iff_getElem.1 he
 have := h i hi
 rwa [List.getD_eq_getElem?_getD, List.getElem?_eq_getElem hi] at this
theorem ents_len {f : F} {k : Nat} (g : GoodF f k) : (entsV f k).length <= 16 := by
 have h1 : (entsV f k).length <= (ino f k).size.toNat / 16 := by
  unfold entsV entsL
  have := List.length_filterMap_le (fun j => entB ⟨(((FsY.content f.data (ino f k).blocks).drop (16 * j)).take 16).toArray⟩) (List.range ((ino f k).size.toNat / 16))
  rwa [List.length_range] at this
 have := g.size.2
 omega
def ansV (o : Option (ByteArray × Int)) : Value := .tuple #[.int .i64 ((o.map (·.2)).getD 0), .bool (o.map (·.2)).isSome]
set_option maxRecDepth 100000 in
set_option maxHeartbeats 3200000 in
theorem l10find (w : World) (v : Value) (f : F) (k : Nat) (s : ByteArray) (g : GoodF f k) (h : FsF.Holds w v f) :
  Calls Tryz.prog 45 #[v, .int .i64 k, .string s] w fun e w' => e = .returned (ansV (findL (entsV f k) s)) /\ Below w.heap.size w w' := by
 have HFS := Lib.hid h
 obtain ⟨r0, r1, r2, rfl, g0, g1, g2⟩ := h
 obtain ⟨qa, qc, rfl⟩ := QF.form g0
 obtain ⟨ia, ic, rfl⟩ := IF.form g1
 obtain ⟨da, dc, rfl⟩ := SF.form g2
 clear g0 g1 g2
 obtain ⟨T, hT⟩ : ∃ T, T = f.tick := ⟨_, rfl⟩
 obtain ⟨Q, hQ⟩ : ∃ Q, Q = f.quotas.length := ⟨_, rfl⟩
 obtain ⟨M, hM⟩ : ∃ M, M = f.inodes.length := ⟨_, rfl⟩
 obtain ⟨D, hD⟩ : ∃ D, D = f.data.length := ⟨_, rfl⟩
 rw [<- hT, <- hQ, <- hM, <- hD] at HFS ⊢
 clear hT hQ hM hD
 obtain ⟨w0, hw0⟩ : ∃ w0, w.alloc (.cells #[.int .i64 T, .slice qa Q qc, .slice ia M ic, .slice da D dc] 33) = w0 := ⟨_, rfl⟩
 have hB : Below w.heap.size w w0 := by rw [<- hw0]; exact (Below.refl _ w).alloc (Nat.le_refl _) _
 have bF : Bk w0 w.heap.size #[.int .i64 T, .slice qa Q qc, .slice ia M ic, .slice da D dc] 33 := by rw [<- hw0]; exact new w _ _
 have HB := Lib.hid hB
 obtain ⟨x0, x1, x2, x3⟩ := Bk.c4 bF
 have HES := Lib.hid (EnS.ents_spec w0 _ f k g (FsF.holds_below HFS.out hB))
 have hl16 := ents_len g
 obtain ⟨l, hl⟩ : ∃ l, l = entsV f k := ⟨_, rfl⟩
 rw [<- hl] at HES hl16 ⊢
 clear hl hB bF g
 obtain ⟨n, hn⟩ : ∃ n, n = l.length := ⟨_, rfl⟩
 have HN := Lib.hid hn
 rw [<- hn] at HES hl16
 clear hn
 have HLEN := Lib.hid (show (ecells l).length = n * 2 from by rw [ecells_length, HN.out])
 go_enter Tryz.func45, Tryz.ntmps45
 go_wp2_with fail
 refine (HES.out).mono ?_
 rintro e w2 ⟨vo, rfl, hown, hb⟩
 obtain ⟨ao, co, rfl⟩ := Dk.slice_of hown
 have hs2 := HB.out.size
 have HB2 := Lib.hid (HB.out.trans (hb.mono HB.out.size))
 have HO := Lib.hid (row_mono hown hs2)
 clear hown hb x0 x1 x2 x3
 go_wp2
 go_loopw [14] (fun iv wr => ∃ j : Nat, j <= n /\ iv = .int .i64 j /\ (∀ i, i < j -> (l.getD i De.d0).1 ≠ s) /\ wr.ownsRow w.heap.size 75 2 (.slice ao n co) n (ecells l) /\ Below w.heap.size w wr) (fun iv _ => n - (intOf iv).toNat)
 case atStart => exact ⟨0, Nat.zero_le _, rfl, fun i hi => absurd hi (Nat.not_lt_zero i), HO.out, HB2.out⟩
 case round =>
  obtain ⟨j, hj, rfl, hne, how, hbel⟩ := hrel
  have HNE := Lib.hid hne
  have HOW := Lib.hid how
  have HBE := Lib.hid hbel
  have hsz := hbel.size
  clear hne hbel
  by_cases hlt : j < n
  ·obtain ⟨gb, rfl, hgb⟩ : ∃ gb, ao = some ⟨gb, 0, none⟩ /\ gb < wr.heap.size := by
    rcases how.2 with ⟨hv, h0⟩ | ⟨gb, cap, cur, hv, _, hg, _⟩
    ·omega
    ·rw [Value.slice.injEq] at hv
     exact ⟨gb, hv.1, (Array.getElem?_eq_some_iff.1 hg).1⟩
   have hc0 := how.cellAt (j * 2) (by omega)
   have hc1 := how.cellAt (j * 2 + 1) (by omega)
   obtain ⟨he0, he1⟩ := ecells_at l j (by rw [<- HN.out]; exact hlt)
   rw [he0] at hc0
   rw [he1] at hc1
   obtain ⟨x, hx⟩ : ∃ x, l.getD j De.d0 = x := ⟨_, rfl⟩
   rw [hx] at hc0 hc1
   have HX := Lib.hid hx
   obtain ⟨y, z⟩ := x
   dsimp only at hc0 hc1
   have hbn := Below.alloc (Below.refl wr.heap.size wr) (Nat.le_refl _) (.cells #[.string y, .int .i64 z] 75)
   have HO3 := Lib.hid (row_below how hbn)
   have HB3 := Lib.hid (HBE.out.trans (hbn.mono hsz))
   clear hx he0 he1 how hbn
   by_cases hy : y = s
   ·have HF := Lib.hid (find_at (by rw [<- HN.out]; exact hlt) HX.out HNE.out hy)
    subst hy
    have hq : (y.toList == y.toList) = true := beq_self_eq_true _
    go_wp2
    go_ret2
    exact ⟨by rw [HF.out]; rfl, HB3.out⟩
   ·have hq := str_ne hy
    have HNX := Lib.hid (show ∀ i, i < j + 1 -> (l.getD i De.d0).1 ≠ s from fun i hi => by
     by_cases hij : i = j
     ·rw [hij, HX.out]; exact hy
     ·exact HNE.out i (by omega))
    have hq2 : y.toList ≠ s.toList := by simpa using hq
    clear hy
    go_wp2
    go_roundw
    case rel => exact ⟨j + 1, by omega, by go_num, HNX.out, HO3.out, HB3.out⟩
    case measure => simp [intOf]; omega
  ·obtain rfl : j = n := by omega
   have HF := Lib.hid (find_nothing (l := l) (s := s) (by rw [<- HN.out]; exact HNE.out))
   clear how
   go_wp2
   go_ret2
   exact ⟨by rw [HF.out]; rfl, HBE.out⟩
end Go.Proofs.YthppbcnejapbiaaGreatDoor.EnT

-- YthppbcnejapbiaaGreatDoorOpF
/- A part. -/
namespace Go.Proofs.YthppbcnejapbiaaGreatDoor.OpF
open Go.ChangeShapes Go.WideShapes Go.ChangeAt Go.RowKit
open FsV (F okF)
open FsY (ino)
set_option linter.unusedVariables false
theorem open_fs {w : World} {v : Value} {f : F} (hok : okF f = true) (h : FsF.Holds w v f) : ∃ (T : Int) (qa : Option Addr) (Q qc b o ic : Nat) (da : Option Addr) (D dc : Nat), v = .agg #[.int .i64 T, .slice qa Q qc, .slice (some ⟨b, o, none⟩) 20 ic, .slice da D dc] /\ b < w.heap.size /\ 20 <= ic /\ ∀ k, k < 20 -> ∃ r0 r1 r2, IF.Cell w b (o + k * 10) (ino f k) r0 r1 r2 /\ IF.Parts w (ino f k) r0 r1 r2 := by
 have hM20 : f.inodes.length = 20 := (FsV.parts_of (FsV.ok_parts hok).2.1).2.1
 obtain ⟨r0, r1, r2, rfl, g0, g1, g2⟩ := h
 obtain ⟨qa, qc, rfl⟩ := QF.form g0
 obtain ⟨da, dc, rfl⟩ := SF.form g2
 obtain ⟨a9, c9, rfl, l9, hat⟩ := g1
 rw [hM20] at l9 hat ⊢
 obtain ⟨b, o, rfl, hb, _⟩ := hat 0 (by decide)
 refine ⟨_, qa, _, qc, b, o, c9, da, _, dc, rfl, hb, l9, fun k hk => ?_⟩
 obtain ⟨b', o', e, _, r0, r1, r2, hC, hP⟩ := hat k hk
 cases e
 exact ⟨r0, r1, r2, hC, hP⟩
theorem form_fs {w : World} {v : Value} {f : F} (h : FsF.Holds w v f) : ∃ (T : Int) (qa : Option Addr) (Q qc : Nat) (ia : Option Addr) (M ic : Nat) (da : Option Addr) (D dc : Nat), v = .agg #[.int .i64 T, .slice qa Q qc, .slice ia M ic, .slice da D dc] := by
 obtain ⟨c0, c1a, c1n, c1c, c2a, c2n, c2c, c3a, c3n, c3c, e⟩ := FsF.form h
 exact ⟨_, _, _, _, _, _, _, _, _, _, e⟩
end Go.Proofs.YthppbcnejapbiaaGreatDoor.OpF
