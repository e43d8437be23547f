/-
  NARROWER THAN 'FOR EVERY INPUT', by the rows' own cells (each row's printed sentence says how): FnExactErrorName: laid · FnExactIsFS: laid · FnExactBlocksOf: laid.
  DERIVED. THE GIVEN ROWS OF THIS SEAT. 3 by the template 'for every input the law returns true; each argument reads behind the call as it read before'; 0 by the template 'total and deterministic' (their statements: YtmljjdglmlnbaaaDoorTotals.lean).
  GIVEN WITH THE SEED: the statements are not yours to turn. If you find one false, say at which input.
  Laid BY PROGRAM, IN A SANDBOX (cutbox-rows.mjs): the forced cells as the released guide's own fill.sh prints them over the translation adce1f1c018c9f19… (all of the seat's roots in one cut). By AI agents, Wed Nov 11 2026. No macro, syntax, notation, axiom, sorry.
-/
import Derived.Test.YtmljjdglmlnbaaaDoorChecked
import GoSem.PinnedTables
import GoSem.Claim
import GoSem.ClaimJoined
import GoSem.ClaimMapViews
import Derived.JoinedTies
import Derived.KernelRfl
namespace Go.Proofs.YtmljjdglmlnbaaaDoor
/- THE CELL 'sum', in the pinned program and in every row, IS THE sha256 OF THE DUMP (.gsa) THAT YtmljjdglmlnbaaaDoorProg.lean LOADS. Nothing in Lean hashes anything: it is a label: what it is worth is what the hold of that sum in a sandbox is worth. -/
noncomputable def Tryd.pinned : Pinned := { name := "ytmljjdglmlnbaaadoor", sum := "adce1f1c018c9f1976b47e47d79a00ff1e0109e14d59432d15287dfd66348b73", checked := Tryd.checked }
namespace Rows
def none {H : Type} : Left H := { results := [], args := [] }

/- WHAT THE LISTED PACKAGE-LEVEL VARIABLES READ AS WHEN THE CALL BEGINS. Each datum BY PROGRAM (the guide's laid-datum.mjs) off the statement by which the dump's own 'gosem.cut.vars' lays the variable. In a bare row this is a premise. The card (YtmljjdglmlnbaaaDoorCards.lean) ties it to the program's text. -/
def laid_loop_example_g00817_impl_errorNames {H : Type} : DataW H := .agg [.lit (.string [111, 107]), .lit (.string [105, 110, 118, 97, 108, 105, 100]), .lit (.string [97, 99, 99, 101, 115, 115]), .lit (.string [109, 105, 115, 115, 105, 110, 103]), .lit (.string [101, 120, 105, 115, 116, 115]), .lit (.string [110, 111, 116, 100, 105, 114]), .lit (.string [105, 115, 100, 105, 114]), .lit (.string [113, 117, 111, 116, 97]), .lit (.string [115, 112, 97, 99, 101]), .lit (.string [98, 105, 103]), .lit (.string [110, 111, 116, 101, 109, 112, 116, 121]), .lit (.string [110, 97, 109, 101]), .lit (.string [112, 101, 114, 109]), .lit (.string [98, 97, 100, 102, 100]), .lit (.string [98, 117, 115, 121]), .lit (.string [108, 105, 110, 107, 115])]
def laid_unicode_utf8_acceptRanges {H : Type} : DataW H := .agg [.agg [.lit (.int .u8 128), .lit (.int .u8 191)], .agg [.lit (.int .u8 160), .lit (.int .u8 191)], .agg [.lit (.int .u8 128), .lit (.int .u8 159)], .agg [.lit (.int .u8 144), .lit (.int .u8 191)], .agg [.lit (.int .u8 128), .lit (.int .u8 143)], .agg [.lit (.int .u8 0), .lit (.int .u8 0)], .agg [.lit (.int .u8 0), .lit (.int .u8 0)], .agg [.lit (.int .u8 0), .lit (.int .u8 0)], .agg [.lit (.int .u8 0), .lit (.int .u8 0)], .agg [.lit (.int .u8 0), .lit (.int .u8 0)], .agg [.lit (.int .u8 0), .lit (.int .u8 0)], .agg [.lit (.int .u8 0), .lit (.int .u8 0)], .agg [.lit (.int .u8 0), .lit (.int .u8 0)], .agg [.lit (.int .u8 0), .lit (.int .u8 0)], .agg [.lit (.int .u8 0), .lit (.int .u8 0)], .agg [.lit (.int .u8 0), .lit (.int .u8 0)]]
def laid_loop_example_g00817_impl_numberFields {H : Type} : DataW H := .agg [.agg [.lit (.int .i64 1), .lit (.int .i64 2)], .agg [.lit (.int .i64 2), .lit (.int .i64 2047)], .agg [.lit (.int .i64 1), .lit (.int .i64 3)], .agg [.lit (.int .i64 1), .lit (.int .i64 3)], .agg [.lit (.int .i64 2), .lit (.int .i64 1000)], .agg [.lit (.int .i64 2), .lit (.int .i64 256)], .agg [.lit (.int .i64 4), .lit (.int .i64 1000000000)]]
/-- One of Go's own tables, pinned by name: the form's constant. -/
def laid_unicode_utf8_first : DataW Unit := Go.Pinned.utf8First

/-- 'laws.FnExactErrorName': WHATEVER THE INPUT: true; the input reads as it did. -/
def fnExactErrorNameSpec : ChangeSpec := { name := "fnExactErrorName", vars := ["loop.example/g00817/impl.errorNames"], fn := fun _ => fun
  | [d, g1] => { results := [.lit (.bool true)], args := [d], vars := [g1] }
  | _ => none }
def fnExactErrorNameRow : OpenClaim := { program := "ytmljjdglmlnbaaadoor", sum := "adce1f1c018c9f1976b47e47d79a00ff1e0109e14d59432d15287dfd66348b73", func := "loop.example/g00817/laws.FnExactErrorName", spec := "fnExactErrorName", named := ["loop.example/g00817/impl.errorNames"], apart := false, laid := [("loop.example/g00817/impl.errorNames", laid_loop_example_g00817_impl_errorNames)] }
def FnExactErrorNameSaid : Prop := fnExactErrorNameRow.holds Tryd.pinned (OpenSpec.ofChange fnExactErrorNameSpec)

/-- ITS FALSE NEIGHBOUR: 'it returns false'. Refute it at one input. -/
def fnExactErrorNameWrong : ChangeSpec := { name := "fnExactErrorName", vars := ["loop.example/g00817/impl.errorNames"], fn := fun _ => fun
  | [d, g1] => { results := [.lit (.bool false)], args := [d], vars := [g1] }
  | _ => none }
def FnExactErrorNameWrongFalsely : Prop := fnExactErrorNameRow.holds Tryd.pinned (OpenSpec.ofChange fnExactErrorNameWrong)

/-- 'laws.FnExactIsFS': WHATEVER THE INPUT: true; the input reads as it did. -/
def fnExactIsFSSpec : ChangeSpec := { name := "fnExactIsFS", vars := ["loop.example/g00817/impl.numberFields"], fn := fun _ => fun
  | [d, g1] => { results := [.lit (.bool true)], args := [d], vars := [g1] }
  | _ => none }
def fnExactIsFSRow : OpenClaim := { program := "ytmljjdglmlnbaaadoor", sum := "adce1f1c018c9f1976b47e47d79a00ff1e0109e14d59432d15287dfd66348b73", func := "loop.example/g00817/laws.FnExactIsFS", spec := "fnExactIsFS", inPlace := ["internal/bytealg.IndexByteString", "internal/bytealg.IndexString"], named := ["loop.example/g00817/impl.numberFields", "unicode/utf8.first", "unicode/utf8.acceptRanges", "internal/bytealg.MaxLen"], apart := false, laid := [("unicode/utf8.acceptRanges", laid_unicode_utf8_acceptRanges), ("loop.example/g00817/impl.numberFields", laid_loop_example_g00817_impl_numberFields), ("unicode/utf8.first", laid_unicode_utf8_first)] }
def FnExactIsFSSaid : Prop := fnExactIsFSRow.holds Tryd.pinned (OpenSpec.ofChange fnExactIsFSSpec)

/-- ITS FALSE NEIGHBOUR: 'it returns false'. Refute it at one input. -/
def fnExactIsFSWrong : ChangeSpec := { name := "fnExactIsFS", vars := ["loop.example/g00817/impl.numberFields"], fn := fun _ => fun
  | [d, g1] => { results := [.lit (.bool false)], args := [d], vars := [g1] }
  | _ => none }
def FnExactIsFSWrongFalsely : Prop := fnExactIsFSRow.holds Tryd.pinned (OpenSpec.ofChange fnExactIsFSWrong)

/-- 'laws.FnExactBlocksOf': WHATEVER THE INPUT: true; the input reads as it did. -/
def fnExactBlocksOfSpec : ChangeSpec := { name := "fnExactBlocksOf", vars := ["loop.example/g00817/impl.numberFields"], fn := fun _ => fun
  | [d1, d2, g1] => { results := [.lit (.bool true)], args := [d1, d2], vars := [g1] }
  | _ => none }
def fnExactBlocksOfRow : OpenClaim := { program := "ytmljjdglmlnbaaadoor", sum := "adce1f1c018c9f1976b47e47d79a00ff1e0109e14d59432d15287dfd66348b73", func := "loop.example/g00817/laws.FnExactBlocksOf", spec := "fnExactBlocksOf", inPlace := ["internal/bytealg.IndexByteString", "internal/bytealg.IndexString"], named := ["loop.example/g00817/impl.numberFields", "unicode/utf8.first", "unicode/utf8.acceptRanges", "internal/bytealg.MaxLen"], apart := false, laid := [("unicode/utf8.acceptRanges", laid_unicode_utf8_acceptRanges), ("loop.example/g00817/impl.numberFields", laid_loop_example_g00817_impl_numberFields), ("unicode/utf8.first", laid_unicode_utf8_first)] }
def FnExactBlocksOfSaid : Prop := fnExactBlocksOfRow.holds Tryd.pinned (OpenSpec.ofChange fnExactBlocksOfSpec)

/-- ITS FALSE NEIGHBOUR: 'it returns false'. Refute it at one input. -/
def fnExactBlocksOfWrong : ChangeSpec := { name := "fnExactBlocksOf", vars := ["loop.example/g00817/impl.numberFields"], fn := fun _ => fun
  | [d1, d2, g1] => { results := [.lit (.bool false)], args := [d1, d2], vars := [g1] }
  | _ => none }
def FnExactBlocksOfWrongFalsely : Prop := fnExactBlocksOfRow.holds Tryd.pinned (OpenSpec.ofChange fnExactBlocksOfWrong)

/- THE SECOND FORM. 'bulk': how many values and letters a reading holds, each counted each time it is reached (what is shared counts as often as it is met; a slice's spare places count too). A statement '..UptoSaid' is the law's where the arguments, and the package variables that the reading takes, are together of bulk at most 1048576: NARROWER than '..Said'. Prove '..Said' where nothing that the law and all that it calls make is longer than what came in: it says more and counts as full. Else prove '..UptoSaid'. A law counts once. -/
mutual
def uptoBulk {H : Type} : DataW H → Nat
  | .lit (.string bytes) => bytes.length + 1
  | .lit _ => 1
  | .nil => 1
  | .ptr d => uptoBulk d + 1
  | .slice elems spare => uptoBulkAll elems + uptoBulkAll spare + 1
  | .agg parts => uptoBulkAll parts + 1
  | .iface _ d => uptoBulk d + 1
  | .map entries => uptoBulkEntries entries + 1
  | .held _ => 1
def uptoBulkAll {H : Type} : List (DataW H) → Nat
  | [] => 0
  | d :: r => uptoBulk d + uptoBulkAll r
def uptoBulkEntries {H : Type} : List (Lit × DataW H) → Nat
  | [] => 0
  | x :: r => uptoBulkEntry x + uptoBulkEntries r
def uptoBulkEntry {H : Type} : Lit × DataW H → Nat
  | (.string bytes, d) => bytes.length + uptoBulk d + 1
  | (_, d) => uptoBulk d + 1
 end
def uptoSmall : (H : Type) → List (DataW H) → Bool := fun _ ds => decide (uptoBulkAll ds ≤ 1048576)
def OpenSpec.upto (s : _root_.Go.ChangeSpec) : _root_.Go.OpenSpec := { _root_.Go.OpenSpec.ofChange s with cond := some uptoSmall }

/-- 'laws.FnExactErrorName', WHERE WHAT IT READS IS OF BULK AT MOST 1048576: true; the input reads as it did. -/
def fnExactErrorNameUptoRow : OpenClaim := { program := "ytmljjdglmlnbaaadoor", sum := "adce1f1c018c9f1976b47e47d79a00ff1e0109e14d59432d15287dfd66348b73", func := "loop.example/g00817/laws.FnExactErrorName", spec := "fnExactErrorName", named := ["loop.example/g00817/impl.errorNames"], apart := false, laid := [("loop.example/g00817/impl.errorNames", laid_loop_example_g00817_impl_errorNames)], narrowed := true }
def FnExactErrorNameUptoSaid : Prop := fnExactErrorNameUptoRow.holds Tryd.pinned (OpenSpec.upto fnExactErrorNameSpec)

/-- 'laws.FnExactIsFS', WHERE WHAT IT READS IS OF BULK AT MOST 1048576: true; the input reads as it did. -/
def fnExactIsFSUptoRow : OpenClaim := { program := "ytmljjdglmlnbaaadoor", sum := "adce1f1c018c9f1976b47e47d79a00ff1e0109e14d59432d15287dfd66348b73", func := "loop.example/g00817/laws.FnExactIsFS", spec := "fnExactIsFS", inPlace := ["internal/bytealg.IndexByteString", "internal/bytealg.IndexString"], named := ["loop.example/g00817/impl.numberFields", "unicode/utf8.first", "unicode/utf8.acceptRanges", "internal/bytealg.MaxLen"], apart := false, laid := [("unicode/utf8.acceptRanges", laid_unicode_utf8_acceptRanges), ("loop.example/g00817/impl.numberFields", laid_loop_example_g00817_impl_numberFields), ("unicode/utf8.first", laid_unicode_utf8_first)], narrowed := true }
def FnExactIsFSUptoSaid : Prop := fnExactIsFSUptoRow.holds Tryd.pinned (OpenSpec.upto fnExactIsFSSpec)

/-- 'laws.FnExactBlocksOf', WHERE WHAT IT READS IS OF BULK AT MOST 1048576: true; the input reads as it did. -/
def fnExactBlocksOfUptoRow : OpenClaim := { program := "ytmljjdglmlnbaaadoor", sum := "adce1f1c018c9f1976b47e47d79a00ff1e0109e14d59432d15287dfd66348b73", func := "loop.example/g00817/laws.FnExactBlocksOf", spec := "fnExactBlocksOf", inPlace := ["internal/bytealg.IndexByteString", "internal/bytealg.IndexString"], named := ["loop.example/g00817/impl.numberFields", "unicode/utf8.first", "unicode/utf8.acceptRanges", "internal/bytealg.MaxLen"], apart := false, laid := [("unicode/utf8.acceptRanges", laid_unicode_utf8_acceptRanges), ("loop.example/g00817/impl.numberFields", laid_loop_example_g00817_impl_numberFields), ("unicode/utf8.first", laid_unicode_utf8_first)], narrowed := true }
def FnExactBlocksOfUptoSaid : Prop := fnExactBlocksOfUptoRow.holds Tryd.pinned (OpenSpec.upto fnExactBlocksOfSpec)

end Rows
end Go.Proofs.YtmljjdglmlnbaaaDoor
