/-
  NARROWER THAN 'FOR EVERY INPUT', by the rows' own cells (each row's printed sentence says how): FnExactNewFS: laid · FnExactInodesOf: laid · FnExactNextInode: laid · FnExactNextBlock: laid.
  DERIVED. THE GIVEN ROWS OF THIS SEAT. 4 by the template 'for every input the law returns true; each argument reads behind the call as it read before'; 0 by the template 'total and deterministic' (their statements: YtmljjdglmlnbaaaGreatDoorTotals.lean).
  GIVEN WITH THE SEED: the statements are not yours to turn. If you find one false, say at which input.
  Laid BY PROGRAM, IN A SANDBOX (cutbox-rows.mjs): the forced cells as the released guide's own fill.sh prints them over the translation 2c30d5316f89a3d1… (all of the seat's roots in one cut). By AI agents, Wed Nov 11 2026. No macro, syntax, notation, axiom, sorry.
-/
import Derived.Test.YtmljjdglmlnbaaaGreatDoorChecked
import GoSem.PinnedTables
import GoSem.Claim
import GoSem.ClaimJoined
import GoSem.ClaimMapViews
import Derived.JoinedTies
import Derived.KernelRfl
namespace Go.Proofs.YtmljjdglmlnbaaaGreatDoor
/- THE CELL 'sum', in the pinned program and in every row, IS THE sha256 OF THE DUMP (.gsa) THAT YtmljjdglmlnbaaaGreatDoorProg.lean LOADS. Nothing in Lean hashes anything: it is a label: what it is worth is what the hold of that sum in a sandbox is worth. -/
noncomputable def Tryz.pinned : Pinned := { name := "ytmljjdglmlnbaaagreatdoor", sum := "2c30d5316f89a3d12ad18419efb7a52b282b8a7b1d0bf6adf3b3350e6ab566b8", checked := Tryz.checked }
namespace Rows
def none {H : Type} : Left H := { results := [], args := [] }

/- WHAT THE LISTED PACKAGE-LEVEL VARIABLES READ AS WHEN THE CALL BEGINS. Each datum BY PROGRAM (the guide's laid-datum.mjs) off the statement by which the dump's own 'gosem.cut.vars' lays the variable. In a bare row this is a premise. The card (YtmljjdglmlnbaaaGreatDoorCards.lean) ties it to the program's text. -/
def laid_unicode_utf8_acceptRanges {H : Type} : DataW H := .agg [.agg [.lit (.int .u8 128), .lit (.int .u8 191)], .agg [.lit (.int .u8 160), .lit (.int .u8 191)], .agg [.lit (.int .u8 128), .lit (.int .u8 159)], .agg [.lit (.int .u8 144), .lit (.int .u8 191)], .agg [.lit (.int .u8 128), .lit (.int .u8 143)], .agg [.lit (.int .u8 0), .lit (.int .u8 0)], .agg [.lit (.int .u8 0), .lit (.int .u8 0)], .agg [.lit (.int .u8 0), .lit (.int .u8 0)], .agg [.lit (.int .u8 0), .lit (.int .u8 0)], .agg [.lit (.int .u8 0), .lit (.int .u8 0)], .agg [.lit (.int .u8 0), .lit (.int .u8 0)], .agg [.lit (.int .u8 0), .lit (.int .u8 0)], .agg [.lit (.int .u8 0), .lit (.int .u8 0)], .agg [.lit (.int .u8 0), .lit (.int .u8 0)], .agg [.lit (.int .u8 0), .lit (.int .u8 0)], .agg [.lit (.int .u8 0), .lit (.int .u8 0)]]
def laid_loop_example_g00817_impl_numberFields {H : Type} : DataW H := .agg [.agg [.lit (.int .i64 1), .lit (.int .i64 2)], .agg [.lit (.int .i64 2), .lit (.int .i64 2047)], .agg [.lit (.int .i64 1), .lit (.int .i64 3)], .agg [.lit (.int .i64 1), .lit (.int .i64 3)], .agg [.lit (.int .i64 2), .lit (.int .i64 1000)], .agg [.lit (.int .i64 2), .lit (.int .i64 256)], .agg [.lit (.int .i64 4), .lit (.int .i64 1000000000)]]
/-- One of Go's own tables, pinned by name: the form's constant. -/
def laid_unicode_utf8_first : DataW Unit := Go.Pinned.utf8First

/-- 'laws.FnExactNewFS': WHATEVER THE INPUT: true; the input reads as it did. -/
def fnExactNewFSSpec : ChangeSpec := { name := "fnExactNewFS", vars := ["loop.example/g00817/impl.numberFields"], fn := fun _ => fun
  | [d, g1] => { results := [.lit (.bool true)], args := [d], vars := [g1] }
  | _ => none }
def fnExactNewFSRow : OpenClaim := { program := "ytmljjdglmlnbaaagreatdoor", sum := "2c30d5316f89a3d12ad18419efb7a52b282b8a7b1d0bf6adf3b3350e6ab566b8", func := "loop.example/g00817/laws.FnExactNewFS", spec := "fnExactNewFS", inPlace := ["internal/abi.NoEscape", "internal/bytealg.MakeNoZero", "internal/bytealg.IndexByteString", "internal/bytealg.IndexString"], named := ["loop.example/g00817/impl.numberFields", "unicode/utf8.first", "unicode/utf8.acceptRanges", "internal/bytealg.MaxLen"], apart := false, laid := [("unicode/utf8.acceptRanges", laid_unicode_utf8_acceptRanges), ("loop.example/g00817/impl.numberFields", laid_loop_example_g00817_impl_numberFields), ("unicode/utf8.first", laid_unicode_utf8_first)] }
def FnExactNewFSSaid : Prop := fnExactNewFSRow.holds Tryz.pinned (OpenSpec.ofChange fnExactNewFSSpec)

/-- ITS FALSE NEIGHBOUR: 'it returns false'. Refute it at one input. -/
def fnExactNewFSWrong : ChangeSpec := { name := "fnExactNewFS", vars := ["loop.example/g00817/impl.numberFields"], fn := fun _ => fun
  | [d, g1] => { results := [.lit (.bool false)], args := [d], vars := [g1] }
  | _ => none }
def FnExactNewFSWrongFalsely : Prop := fnExactNewFSRow.holds Tryz.pinned (OpenSpec.ofChange fnExactNewFSWrong)

/-- 'laws.FnExactInodesOf': WHATEVER THE INPUT: true; the input reads as it did. -/
def fnExactInodesOfSpec : ChangeSpec := { name := "fnExactInodesOf", vars := ["loop.example/g00817/impl.numberFields"], fn := fun _ => fun
  | [d1, d2, g1] => { results := [.lit (.bool true)], args := [d1, d2], vars := [g1] }
  | _ => none }
def fnExactInodesOfRow : OpenClaim := { program := "ytmljjdglmlnbaaagreatdoor", sum := "2c30d5316f89a3d12ad18419efb7a52b282b8a7b1d0bf6adf3b3350e6ab566b8", func := "loop.example/g00817/laws.FnExactInodesOf", spec := "fnExactInodesOf", inPlace := ["internal/bytealg.IndexByteString", "internal/bytealg.IndexString"], named := ["loop.example/g00817/impl.numberFields", "unicode/utf8.first", "unicode/utf8.acceptRanges", "internal/bytealg.MaxLen"], apart := false, laid := [("unicode/utf8.acceptRanges", laid_unicode_utf8_acceptRanges), ("loop.example/g00817/impl.numberFields", laid_loop_example_g00817_impl_numberFields), ("unicode/utf8.first", laid_unicode_utf8_first)] }
def FnExactInodesOfSaid : Prop := fnExactInodesOfRow.holds Tryz.pinned (OpenSpec.ofChange fnExactInodesOfSpec)

/-- ITS FALSE NEIGHBOUR: 'it returns false'. Refute it at one input. -/
def fnExactInodesOfWrong : ChangeSpec := { name := "fnExactInodesOf", vars := ["loop.example/g00817/impl.numberFields"], fn := fun _ => fun
  | [d1, d2, g1] => { results := [.lit (.bool false)], args := [d1, d2], vars := [g1] }
  | _ => none }
def FnExactInodesOfWrongFalsely : Prop := fnExactInodesOfRow.holds Tryz.pinned (OpenSpec.ofChange fnExactInodesOfWrong)

/-- 'laws.FnExactNextInode': WHATEVER THE INPUT: true; the input reads as it did. -/
def fnExactNextInodeSpec : ChangeSpec := { name := "fnExactNextInode", vars := ["loop.example/g00817/impl.numberFields"], fn := fun _ => fun
  | [d1, d2, g1] => { results := [.lit (.bool true)], args := [d1, d2], vars := [g1] }
  | _ => none }
def fnExactNextInodeRow : OpenClaim := { program := "ytmljjdglmlnbaaagreatdoor", sum := "2c30d5316f89a3d12ad18419efb7a52b282b8a7b1d0bf6adf3b3350e6ab566b8", func := "loop.example/g00817/laws.FnExactNextInode", spec := "fnExactNextInode", inPlace := ["internal/bytealg.IndexByteString", "internal/bytealg.IndexString"], named := ["loop.example/g00817/impl.numberFields", "unicode/utf8.first", "unicode/utf8.acceptRanges", "internal/bytealg.MaxLen"], apart := false, laid := [("unicode/utf8.acceptRanges", laid_unicode_utf8_acceptRanges), ("loop.example/g00817/impl.numberFields", laid_loop_example_g00817_impl_numberFields), ("unicode/utf8.first", laid_unicode_utf8_first)] }
def FnExactNextInodeSaid : Prop := fnExactNextInodeRow.holds Tryz.pinned (OpenSpec.ofChange fnExactNextInodeSpec)

/-- ITS FALSE NEIGHBOUR: 'it returns false'. Refute it at one input. -/
def fnExactNextInodeWrong : ChangeSpec := { name := "fnExactNextInode", vars := ["loop.example/g00817/impl.numberFields"], fn := fun _ => fun
  | [d1, d2, g1] => { results := [.lit (.bool false)], args := [d1, d2], vars := [g1] }
  | _ => none }
def FnExactNextInodeWrongFalsely : Prop := fnExactNextInodeRow.holds Tryz.pinned (OpenSpec.ofChange fnExactNextInodeWrong)

/-- 'laws.FnExactNextBlock': WHATEVER THE INPUT: true; the input reads as it did. -/
def fnExactNextBlockSpec : ChangeSpec := { name := "fnExactNextBlock", vars := ["loop.example/g00817/impl.numberFields"], fn := fun _ => fun
  | [d1, d2, g1] => { results := [.lit (.bool true)], args := [d1, d2], vars := [g1] }
  | _ => none }
def fnExactNextBlockRow : OpenClaim := { program := "ytmljjdglmlnbaaagreatdoor", sum := "2c30d5316f89a3d12ad18419efb7a52b282b8a7b1d0bf6adf3b3350e6ab566b8", func := "loop.example/g00817/laws.FnExactNextBlock", spec := "fnExactNextBlock", inPlace := ["internal/bytealg.IndexByteString", "internal/bytealg.IndexString"], named := ["loop.example/g00817/impl.numberFields", "unicode/utf8.first", "unicode/utf8.acceptRanges", "internal/bytealg.MaxLen"], apart := false, laid := [("unicode/utf8.acceptRanges", laid_unicode_utf8_acceptRanges), ("loop.example/g00817/impl.numberFields", laid_loop_example_g00817_impl_numberFields), ("unicode/utf8.first", laid_unicode_utf8_first)] }
def FnExactNextBlockSaid : Prop := fnExactNextBlockRow.holds Tryz.pinned (OpenSpec.ofChange fnExactNextBlockSpec)

/-- ITS FALSE NEIGHBOUR: 'it returns false'. Refute it at one input. -/
def fnExactNextBlockWrong : ChangeSpec := { name := "fnExactNextBlock", vars := ["loop.example/g00817/impl.numberFields"], fn := fun _ => fun
  | [d1, d2, g1] => { results := [.lit (.bool false)], args := [d1, d2], vars := [g1] }
  | _ => none }
def FnExactNextBlockWrongFalsely : Prop := fnExactNextBlockRow.holds Tryz.pinned (OpenSpec.ofChange fnExactNextBlockWrong)

/- THE SECOND FORM. 'bulk': how many values and letters a reading holds, each counted each time it is reached (what is shared counts as often as it is met; a slice's spare places count too). A statement '..UptoSaid' is the law's where the arguments, and the package variables that the reading takes, are together of bulk at most 1048576: NARROWER than '..Said'. Prove '..Said' where nothing that the law and all that it calls make is longer than what came in: it says more and counts as full. Else prove '..UptoSaid'. A law counts once. -/
mutual
def uptoBulk {H : Type} : DataW H → Nat
  | .lit (.string bytes) => bytes.length + 1
  | .lit _ => 1
  | .nil => 1
  | .ptr d => uptoBulk d + 1
  | .slice elems spare => uptoBulkAll elems + uptoBulkAll spare + 1
  | .agg parts => uptoBulkAll parts + 1
  | .iface _ d => uptoBulk d + 1
  | .map entries => uptoBulkEntries entries + 1
  | .held _ => 1
def uptoBulkAll {H : Type} : List (DataW H) → Nat
  | [] => 0
  | d :: r => uptoBulk d + uptoBulkAll r
def uptoBulkEntries {H : Type} : List (Lit × DataW H) → Nat
  | [] => 0
  | x :: r => uptoBulkEntry x + uptoBulkEntries r
def uptoBulkEntry {H : Type} : Lit × DataW H → Nat
  | (.string bytes, d) => bytes.length + uptoBulk d + 1
  | (_, d) => uptoBulk d + 1
 end
def uptoSmall : (H : Type) → List (DataW H) → Bool := fun _ ds => decide (uptoBulkAll ds ≤ 1048576)
def OpenSpec.upto (s : _root_.Go.ChangeSpec) : _root_.Go.OpenSpec := { _root_.Go.OpenSpec.ofChange s with cond := some uptoSmall }

/-- 'laws.FnExactNewFS', WHERE WHAT IT READS IS OF BULK AT MOST 1048576: true; the input reads as it did. -/
def fnExactNewFSUptoRow : OpenClaim := { program := "ytmljjdglmlnbaaagreatdoor", sum := "2c30d5316f89a3d12ad18419efb7a52b282b8a7b1d0bf6adf3b3350e6ab566b8", func := "loop.example/g00817/laws.FnExactNewFS", spec := "fnExactNewFS", inPlace := ["internal/abi.NoEscape", "internal/bytealg.MakeNoZero", "internal/bytealg.IndexByteString", "internal/bytealg.IndexString"], named := ["loop.example/g00817/impl.numberFields", "unicode/utf8.first", "unicode/utf8.acceptRanges", "internal/bytealg.MaxLen"], apart := false, laid := [("unicode/utf8.acceptRanges", laid_unicode_utf8_acceptRanges), ("loop.example/g00817/impl.numberFields", laid_loop_example_g00817_impl_numberFields), ("unicode/utf8.first", laid_unicode_utf8_first)], narrowed := true }
def FnExactNewFSUptoSaid : Prop := fnExactNewFSUptoRow.holds Tryz.pinned (OpenSpec.upto fnExactNewFSSpec)

/-- 'laws.FnExactInodesOf', WHERE WHAT IT READS IS OF BULK AT MOST 1048576: true; the input reads as it did. -/
def fnExactInodesOfUptoRow : OpenClaim := { program := "ytmljjdglmlnbaaagreatdoor", sum := "2c30d5316f89a3d12ad18419efb7a52b282b8a7b1d0bf6adf3b3350e6ab566b8", func := "loop.example/g00817/laws.FnExactInodesOf", spec := "fnExactInodesOf", inPlace := ["internal/bytealg.IndexByteString", "internal/bytealg.IndexString"], named := ["loop.example/g00817/impl.numberFields", "unicode/utf8.first", "unicode/utf8.acceptRanges", "internal/bytealg.MaxLen"], apart := false, laid := [("unicode/utf8.acceptRanges", laid_unicode_utf8_acceptRanges), ("loop.example/g00817/impl.numberFields", laid_loop_example_g00817_impl_numberFields), ("unicode/utf8.first", laid_unicode_utf8_first)], narrowed := true }
def FnExactInodesOfUptoSaid : Prop := fnExactInodesOfUptoRow.holds Tryz.pinned (OpenSpec.upto fnExactInodesOfSpec)

/-- 'laws.FnExactNextInode', WHERE WHAT IT READS IS OF BULK AT MOST 1048576: true; the input reads as it did. -/
def fnExactNextInodeUptoRow : OpenClaim := { program := "ytmljjdglmlnbaaagreatdoor", sum := "2c30d5316f89a3d12ad18419efb7a52b282b8a7b1d0bf6adf3b3350e6ab566b8", func := "loop.example/g00817/laws.FnExactNextInode", spec := "fnExactNextInode", inPlace := ["internal/bytealg.IndexByteString", "internal/bytealg.IndexString"], named := ["loop.example/g00817/impl.numberFields", "unicode/utf8.first", "unicode/utf8.acceptRanges", "internal/bytealg.MaxLen"], apart := false, laid := [("unicode/utf8.acceptRanges", laid_unicode_utf8_acceptRanges), ("loop.example/g00817/impl.numberFields", laid_loop_example_g00817_impl_numberFields), ("unicode/utf8.first", laid_unicode_utf8_first)], narrowed := true }
def FnExactNextInodeUptoSaid : Prop := fnExactNextInodeUptoRow.holds Tryz.pinned (OpenSpec.upto fnExactNextInodeSpec)

/-- 'laws.FnExactNextBlock', WHERE WHAT IT READS IS OF BULK AT MOST 1048576: true; the input reads as it did. -/
def fnExactNextBlockUptoRow : OpenClaim := { program := "ytmljjdglmlnbaaagreatdoor", sum := "2c30d5316f89a3d12ad18419efb7a52b282b8a7b1d0bf6adf3b3350e6ab566b8", func := "loop.example/g00817/laws.FnExactNextBlock", spec := "fnExactNextBlock", inPlace := ["internal/bytealg.IndexByteString", "internal/bytealg.IndexString"], named := ["loop.example/g00817/impl.numberFields", "unicode/utf8.first", "unicode/utf8.acceptRanges", "internal/bytealg.MaxLen"], apart := false, laid := [("unicode/utf8.acceptRanges", laid_unicode_utf8_acceptRanges), ("loop.example/g00817/impl.numberFields", laid_loop_example_g00817_impl_numberFields), ("unicode/utf8.first", laid_unicode_utf8_first)], narrowed := true }
def FnExactNextBlockUptoSaid : Prop := fnExactNextBlockUptoRow.holds Tryz.pinned (OpenSpec.upto fnExactNextBlockSpec)

end Rows
end Go.Proofs.YtmljjdglmlnbaaaGreatDoor
