/-
  No cell of these rows narrows 'for every input' (looked for: loops, veiled, ifaces, maps, wideKeys, modest, calm, conditions, laid).
  DERIVED. THE GIVEN ROWS OF THIS SEAT. 3 by the template 'for every input the law returns true; each argument reads behind the call as it read before'; 0 by the template 'total and deterministic' (their statements: YthobdeidjagnhaaTotals.lean).
  GIVEN WITH THE SEED: the statements are not yours to turn. If you find one false, say at which input.
  Laid BY PROGRAM, IN A SANDBOX (cutbox-rows.mjs): the forced cells as the released guide's own fill.sh prints them over the translation 74dcb224bc35c11f… (all of the seat's roots in one cut). By AI agents, Wed Nov 11 2026. No macro, syntax, notation, axiom, sorry.
-/
import Derived.Test.YthobdeidjagnhaaChecked
import GoSem.Claim
import GoSem.ClaimJoined
import GoSem.ClaimMapViews
import Derived.JoinedTies
import Derived.KernelRfl
namespace Go.Proofs.Ythobdeidjagnhaa
/- THE CELL 'sum', in the pinned program and in every row, IS THE sha256 OF THE DUMP (.gsa) THAT YthobdeidjagnhaaProg.lean LOADS. Nothing in Lean hashes anything: it is a label: what it is worth is what the hold of that sum in a sandbox is worth. -/
noncomputable def Try.pinned : Pinned := { name := "ythobdeidjagnhaa", sum := "74dcb224bc35c11f4ec6e6966985e3a3bf553d5cce08238784828799e322fb66", checked := Try.checked }
namespace Rows
def none {H : Type} : Left H := { results := [], args := [] }

/-- 'laws.FnExactBlocksNeeded': WHATEVER THE INPUT: true; the input reads as it did. -/
def fnExactBlocksNeededSpec : ChangeSpec := { name := "fnExactBlocksNeeded", fn := fun _ => fun
  | [d] => { results := [.lit (.bool true)], args := [d] }
  | _ => none }
def fnExactBlocksNeededRow : OpenClaim := { program := "ythobdeidjagnhaa", sum := "74dcb224bc35c11f4ec6e6966985e3a3bf553d5cce08238784828799e322fb66", func := "loop.example/g00817/laws.FnExactBlocksNeeded", spec := "fnExactBlocksNeeded", apart := false }
def FnExactBlocksNeededSaid : Prop := fnExactBlocksNeededRow.holds Try.pinned (OpenSpec.ofChange fnExactBlocksNeededSpec)

/-- ITS FALSE NEIGHBOUR: 'it returns false'. Refute it at one input. -/
def fnExactBlocksNeededWrong : ChangeSpec := { name := "fnExactBlocksNeeded", fn := fun _ => fun
  | [d] => { results := [.lit (.bool false)], args := [d] }
  | _ => none }
def FnExactBlocksNeededWrongFalsely : Prop := fnExactBlocksNeededRow.holds Try.pinned (OpenSpec.ofChange fnExactBlocksNeededWrong)

/-- 'laws.FnExactUsedBlocks': WHATEVER THE INPUT: true; the input reads as it did. -/
def fnExactUsedBlocksSpec : ChangeSpec := { name := "fnExactUsedBlocks", fn := fun _ => fun
  | [d] => { results := [.lit (.bool true)], args := [d] }
  | _ => none }
def fnExactUsedBlocksRow : OpenClaim := { program := "ythobdeidjagnhaa", sum := "74dcb224bc35c11f4ec6e6966985e3a3bf553d5cce08238784828799e322fb66", func := "loop.example/g00817/laws.FnExactUsedBlocks", spec := "fnExactUsedBlocks", apart := false }
def FnExactUsedBlocksSaid : Prop := fnExactUsedBlocksRow.holds Try.pinned (OpenSpec.ofChange fnExactUsedBlocksSpec)

/-- ITS FALSE NEIGHBOUR: 'it returns false'. Refute it at one input. -/
def fnExactUsedBlocksWrong : ChangeSpec := { name := "fnExactUsedBlocks", fn := fun _ => fun
  | [d] => { results := [.lit (.bool false)], args := [d] }
  | _ => none }
def FnExactUsedBlocksWrongFalsely : Prop := fnExactUsedBlocksRow.holds Try.pinned (OpenSpec.ofChange fnExactUsedBlocksWrong)

/-- 'laws.FnExactSameInode': WHATEVER THE INPUT: true; the input reads as it did. -/
def fnExactSameInodeSpec : ChangeSpec := { name := "fnExactSameInode", fn := fun _ => fun
  | [d1, d2] => { results := [.lit (.bool true)], args := [d1, d2] }
  | _ => none }
def fnExactSameInodeRow : OpenClaim := { program := "ythobdeidjagnhaa", sum := "74dcb224bc35c11f4ec6e6966985e3a3bf553d5cce08238784828799e322fb66", func := "loop.example/g00817/laws.FnExactSameInode", spec := "fnExactSameInode", apart := false }
def FnExactSameInodeSaid : Prop := fnExactSameInodeRow.holds Try.pinned (OpenSpec.ofChange fnExactSameInodeSpec)

/-- ITS FALSE NEIGHBOUR: 'it returns false'. Refute it at one input. -/
def fnExactSameInodeWrong : ChangeSpec := { name := "fnExactSameInode", fn := fun _ => fun
  | [d1, d2] => { results := [.lit (.bool false)], args := [d1, d2] }
  | _ => none }
def FnExactSameInodeWrongFalsely : Prop := fnExactSameInodeRow.holds Try.pinned (OpenSpec.ofChange fnExactSameInodeWrong)

/- THE SECOND FORM. 'bulk': how many values and letters a reading holds, each counted each time it is reached (what is shared counts as often as it is met; a slice's spare places count too). A statement '..UptoSaid' is the law's where the arguments, and the package variables that the reading takes, are together of bulk at most 1048576: NARROWER than '..Said'. Prove '..Said' where nothing that the law and all that it calls make is longer than what came in: it says more and counts as full. Else prove '..UptoSaid'. A law counts once. -/
mutual
def uptoBulk {H : Type} : DataW H → Nat
  | .lit (.string bytes) => bytes.length + 1
  | .lit _ => 1
  | .nil => 1
  | .ptr d => uptoBulk d + 1
  | .slice elems spare => uptoBulkAll elems + uptoBulkAll spare + 1
  | .agg parts => uptoBulkAll parts + 1
  | .iface _ d => uptoBulk d + 1
  | .map entries => uptoBulkEntries entries + 1
  | .held _ => 1
def uptoBulkAll {H : Type} : List (DataW H) → Nat
  | [] => 0
  | d :: r => uptoBulk d + uptoBulkAll r
def uptoBulkEntries {H : Type} : List (Lit × DataW H) → Nat
  | [] => 0
  | x :: r => uptoBulkEntry x + uptoBulkEntries r
def uptoBulkEntry {H : Type} : Lit × DataW H → Nat
  | (.string bytes, d) => bytes.length + uptoBulk d + 1
  | (_, d) => uptoBulk d + 1
 end
def uptoSmall : (H : Type) → List (DataW H) → Bool := fun _ ds => decide (uptoBulkAll ds ≤ 1048576)
def OpenSpec.upto (s : _root_.Go.ChangeSpec) : _root_.Go.OpenSpec := { _root_.Go.OpenSpec.ofChange s with cond := some uptoSmall }

/-- 'laws.FnExactBlocksNeeded', WHERE WHAT IT READS IS OF BULK AT MOST 1048576: true; the input reads as it did. -/
def fnExactBlocksNeededUptoRow : OpenClaim := { program := "ythobdeidjagnhaa", sum := "74dcb224bc35c11f4ec6e6966985e3a3bf553d5cce08238784828799e322fb66", func := "loop.example/g00817/laws.FnExactBlocksNeeded", spec := "fnExactBlocksNeeded", apart := false, narrowed := true }
def FnExactBlocksNeededUptoSaid : Prop := fnExactBlocksNeededUptoRow.holds Try.pinned (OpenSpec.upto fnExactBlocksNeededSpec)

/-- 'laws.FnExactUsedBlocks', WHERE WHAT IT READS IS OF BULK AT MOST 1048576: true; the input reads as it did. -/
def fnExactUsedBlocksUptoRow : OpenClaim := { program := "ythobdeidjagnhaa", sum := "74dcb224bc35c11f4ec6e6966985e3a3bf553d5cce08238784828799e322fb66", func := "loop.example/g00817/laws.FnExactUsedBlocks", spec := "fnExactUsedBlocks", apart := false, narrowed := true }
def FnExactUsedBlocksUptoSaid : Prop := fnExactUsedBlocksUptoRow.holds Try.pinned (OpenSpec.upto fnExactUsedBlocksSpec)

/-- 'laws.FnExactSameInode', WHERE WHAT IT READS IS OF BULK AT MOST 1048576: true; the input reads as it did. -/
def fnExactSameInodeUptoRow : OpenClaim := { program := "ythobdeidjagnhaa", sum := "74dcb224bc35c11f4ec6e6966985e3a3bf553d5cce08238784828799e322fb66", func := "loop.example/g00817/laws.FnExactSameInode", spec := "fnExactSameInode", apart := false, narrowed := true }
def FnExactSameInodeUptoSaid : Prop := fnExactSameInodeUptoRow.holds Try.pinned (OpenSpec.upto fnExactSameInodeSpec)

end Rows
end Go.Proofs.Ythobdeidjagnhaa
