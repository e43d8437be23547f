/- What the journal's functions answer, on plain values: transactions, the commit sector, the writes and the reading of a journal, steps and their run. No condition. -/
import Derived.Test.YtgapjdkelkmdgaaDkAt
import Derived.Test.YtgapjdkelkmdgaaReadSpec
import Derived.Test.YtgapjdkelkmdgaaOwn
import Derived.Test.YtgapjdkelkmdgaaStore
import Derived.Test.YtgapjdkelkmdgaaWrite
import Derived.Test.YtgapjdkelkmdgaaPadTo
import Derived.Test.YtgapjdkelkmdgaaCutAll
import Derived.Test.YtgapjdkelkmdgaaGetNumber
import Derived.Test.YtgapjdkelkmdgaaChecksum
namespace Go.Proofs.Ytgapjdkelkmdgaa.Txn
open Wr (Wt d0)
open Dk (D Ok Fits)
open ReadS (readF Has)
set_option linter.unusedVariables false

/-- The write at place k has a sector of the disk outside of the journal, 32 bytes, and comes behind the one before. -/
def OkAt (n : Nat) (l : List Wt) (k : Nat) : Prop :=
  Fits n (l.getD k d0) ∧ ¬ (1 ≤ (l.getD k d0).1 ∧ (l.getD k d0).1 < 70) ∧ (0 < k → (l.getD (k - 1) d0).1 < (l.getD k d0).1)
instance (n : Nat) (l : List Wt) (k : Nat) : Decidable (OkAt n l k) := by unfold OkAt; infer_instance
/-- l is a transaction of d. -/
def Okay (d : D) (l : List Wt) : Prop := (Ok d ∧ 70 ≤ d.1.length) ∧ (1 ≤ l.length ∧ l.length ≤ 64) ∧ ∀ k, k < l.length → OkAt d.1.length l k
instance (d : D) (l : List Wt) : Decidable (Okay d l) := by unfold Okay; infer_instance
/-- 1 to 64 writes with sectors that a disk may have. -/
def Tgt (l : List Wt) : Prop := (1 ≤ l.length ∧ l.length ≤ 64) ∧ ∀ k, k < l.length → 0 ≤ (l.getD k d0).1 ∧ (l.getD k d0).1 < 400
instance (l : List Wt) : Decidable (Tgt l) := by unfold Tgt; infer_instance
/-- Every write has 32 bytes. -/
def Full (l : List Wt) : Prop := ∀ k, k < l.length → (l.getD k d0).2.size = 32
instance (l : List Wt) : Decidable (Full l) := by unfold Full; infer_instance

/-- Strings one behind the other. -/
def cat (xs : List ByteArray) : ByteArray := ⟨(xs.flatMap fun x => x.data.toList).toArray⟩
def tgts (l : List Wt) : ByteArray := cat (l.map fun x => Nums.putB x.1 2)
def parts (l : List Wt) : List ByteArray := l.flatMap fun x => [Nums.putB x.1 2, x.2]
def sumOf (l : List Wt) : Nat := Checksum.crc (cat (parts l)).data.toList
def mark : ByteArray := ⟨#[74, 82, 78, 76]⟩
def fields (seq : Int) (l : List Wt) : List ByteArray := [mark, Nums.putB seq 4, Nums.putB l.length 2, Nums.putB (sumOf l) 4]
def commitV (seq : Int) (l : List Wt) : ByteArray := if (0 ≤ seq ∧ seq ≤ 1000000000) ∧ Tgt l then PadTo.padB (cat (fields seq l)) 32 else ⟨#[]⟩
def tgtW (l : List Wt) : List Wt := (List.range (CutAll.cutAll (tgts l) 32).length).map fun k => (((2 + k : Nat) : Int), PadTo.padB ((CutAll.cutAll (tgts l) 32).getD k ⟨#[]⟩) 32)
def payW (l : List Wt) : List Wt := (List.range l.length).map fun k => (((6 + k : Nat) : Int), (l.getD k d0).2)
def jourV (l : List Wt) : List Wt := if Tgt l ∧ Full l then tgtW l ++ payW l else []
/-- A number of w bytes at place a, 0 where it is not there. -/
def num (s : ByteArray) (a w : Nat) : Nat := if GetNumber.liesB s a w then Nums.getL (GetNumber.seg s a w) else 0
def item (d : D) (k : Nat) : Wt := ((num (readF d ((2 + k / 16 : Nat) : Int)) (k % 16 * 2) 2 : Nat), readF d ((6 + k : Nat) : Int))
def items (d : D) (n : Nat) : List Wt := (List.range n).map (item d)
def seqOf (d : D) : Nat := num (readF d 1) 4 4
def cntOf (d : D) : Nat := num (readF d 1) 8 2
/-- The journal holds a transaction. -/
def Busy (d : D) : Prop := (1 ≤ cntOf d ∧ cntOf d ≤ 64) ∧ readF d 1 = commitV (seqOf d) (items d (cntOf d)) ∧ Okay d (items d (cntOf d))
open Classical in
noncomputable def seqV (d : D) : Int := if Busy d then (seqOf d : Int) else 0
open Classical in
noncomputable def listV (d : D) : List Wt := if Busy d then items d (cntOf d) else []

/-- A step: a flush or not, and a write. -/
abbrev St := Bool × Wt
def s0 : St := (false, d0)
def wr (x : Wt) : St := (false, x)
def fl : St := (true, d0)
def zero : ByteArray := PadTo.padB ⟨#[]⟩ 32
def endV (l : List Wt) : List St := l.map wr ++ [fl, wr (1, zero), fl]
def stepsV (seq : Int) (l : List Wt) : List St := if jourV l = [] ∨ commitV seq l = ⟨#[]⟩ then [] else (jourV l).map wr ++ [fl, wr (1, commitV seq l), fl] ++ endV l
def stepV (d : D) (s : St) : D := if s.1 then Store.storeV Store.allP d else (WriteS.writeF d s.2.1 s.2.2).1
def runL (d : D) (l : List St) : D := l.foldl stepV d
def runV (d : D) (l : List St) (n : Int) : D := runL d (l.take n.toNat)
open Classical in
noncomputable def recV (d : D) : List St := if Busy d then endV (items d (cntOf d)) else []
noncomputable def recoverV (d : D) : D := runL d (recV d)
end Go.Proofs.Ytgapjdkelkmdgaa.Txn
