/-
  NARROWER THAN 'FOR EVERY INPUT', by the rows' own cells (each row's printed sentence says how): FnExactFindEntry: laid · FnExactEntriesOf: laid · FnExactAddEntry: laid · FnExactRemoveEntry: laid · FnExactParentOf: laid · FnExactMayAccess: laid · FnExactResolvePath: laid · FnExactResolveParent: laid · FnExactPathOf: laid.
  DERIVED. THE GIVEN ROWS OF THIS SEAT. 9 by the template 'for every input the law returns true; each argument reads behind the call as it read before'; 0 by the template 'total and deterministic' (their statements: YthppbcnejapbiaaGreatDoorTotals.lean).
  GIVEN WITH THE SEED: the statements are not yours to turn. If you find one false, say at which input.
  Laid BY PROGRAM, IN A SANDBOX (cutbox-rows.mjs): the forced cells as the released guide's own fill.sh prints them over the translation 543cac5a35e4e85f… (all of the seat's roots in one cut). By AI agents, Wed Nov 11 2026. No macro, syntax, notation, axiom, sorry.
-/
import Derived.Test.YthppbcnejapbiaaGreatDoorChecked
import GoSem.PinnedTables
import GoSem.Claim
import GoSem.ClaimJoined
import GoSem.ClaimMapViews
import Derived.JoinedTies
import Derived.KernelRfl
namespace Go.Proofs.YthppbcnejapbiaaGreatDoor
/- THE CELL 'sum', in the pinned program and in every row, IS THE sha256 OF THE DUMP (.gsa) THAT YthppbcnejapbiaaGreatDoorProg.lean LOADS. Nothing in Lean hashes anything: it is a label: what it is worth is what the hold of that sum in a sandbox is worth. -/
noncomputable def Tryz.pinned : Pinned := { name := "ythppbcnejapbiaagreatdoor", sum := "543cac5a35e4e85f132019ef6fc99cb54fb2de2111caf692f837ddfa8fd067f3", checked := Tryz.checked }
namespace Rows
def none {H : Type} : Left H := { results := [], args := [] }

/- WHAT THE LISTED PACKAGE-LEVEL VARIABLES READ AS WHEN THE CALL BEGINS. Each datum BY PROGRAM (the guide's laid-datum.mjs) off the statement by which the dump's own 'gosem.cut.vars' lays the variable. In a bare row this is a premise. The card (YthppbcnejapbiaaGreatDoorCards.lean) ties it to the program's text. -/
def laid_unicode_utf8_acceptRanges {H : Type} : DataW H := .agg [.agg [.lit (.int .u8 128), .lit (.int .u8 191)], .agg [.lit (.int .u8 160), .lit (.int .u8 191)], .agg [.lit (.int .u8 128), .lit (.int .u8 159)], .agg [.lit (.int .u8 144), .lit (.int .u8 191)], .agg [.lit (.int .u8 128), .lit (.int .u8 143)], .agg [.lit (.int .u8 0), .lit (.int .u8 0)], .agg [.lit (.int .u8 0), .lit (.int .u8 0)], .agg [.lit (.int .u8 0), .lit (.int .u8 0)], .agg [.lit (.int .u8 0), .lit (.int .u8 0)], .agg [.lit (.int .u8 0), .lit (.int .u8 0)], .agg [.lit (.int .u8 0), .lit (.int .u8 0)], .agg [.lit (.int .u8 0), .lit (.int .u8 0)], .agg [.lit (.int .u8 0), .lit (.int .u8 0)], .agg [.lit (.int .u8 0), .lit (.int .u8 0)], .agg [.lit (.int .u8 0), .lit (.int .u8 0)], .agg [.lit (.int .u8 0), .lit (.int .u8 0)]]
def laid_loop_example_g00817_impl_numberFields {H : Type} : DataW H := .agg [.agg [.lit (.int .i64 1), .lit (.int .i64 2)], .agg [.lit (.int .i64 2), .lit (.int .i64 2047)], .agg [.lit (.int .i64 1), .lit (.int .i64 3)], .agg [.lit (.int .i64 1), .lit (.int .i64 3)], .agg [.lit (.int .i64 2), .lit (.int .i64 1000)], .agg [.lit (.int .i64 2), .lit (.int .i64 256)], .agg [.lit (.int .i64 4), .lit (.int .i64 1000000000)]]
/-- One of Go's own tables, pinned by name: the form's constant. -/
def laid_unicode_utf8_first : DataW Unit := Go.Pinned.utf8First

/-- 'laws.FnExactFindEntry': WHATEVER THE INPUT: true; the input reads as it did. -/
def fnExactFindEntrySpec : ChangeSpec := { name := "fnExactFindEntry", vars := ["loop.example/g00817/impl.numberFields"], fn := fun _ => fun
  | [d1, d2, d3, g1] => { results := [.lit (.bool true)], args := [d1, d2, d3], vars := [g1] }
  | _ => none }
def fnExactFindEntryRow : OpenClaim := { program := "ythppbcnejapbiaagreatdoor", sum := "543cac5a35e4e85f132019ef6fc99cb54fb2de2111caf692f837ddfa8fd067f3", func := "loop.example/g00817/laws.FnExactFindEntry", spec := "fnExactFindEntry", inPlace := ["internal/bytealg.IndexByteString", "internal/bytealg.IndexString", "internal/abi.NoEscape", "internal/bytealg.MakeNoZero"], unfollowed := true, recurses := true, named := ["loop.example/g00817/impl.numberFields", "unicode/utf8.first", "unicode/utf8.acceptRanges", "internal/bytealg.MaxLen"], apart := false, laid := [("unicode/utf8.acceptRanges", laid_unicode_utf8_acceptRanges), ("loop.example/g00817/impl.numberFields", laid_loop_example_g00817_impl_numberFields), ("unicode/utf8.first", laid_unicode_utf8_first)] }
def FnExactFindEntrySaid : Prop := fnExactFindEntryRow.holds Tryz.pinned (OpenSpec.ofChange fnExactFindEntrySpec)

/-- ITS FALSE NEIGHBOUR: 'it returns false'. Refute it at one input. -/
def fnExactFindEntryWrong : ChangeSpec := { name := "fnExactFindEntry", vars := ["loop.example/g00817/impl.numberFields"], fn := fun _ => fun
  | [d1, d2, d3, g1] => { results := [.lit (.bool false)], args := [d1, d2, d3], vars := [g1] }
  | _ => none }
def FnExactFindEntryWrongFalsely : Prop := fnExactFindEntryRow.holds Tryz.pinned (OpenSpec.ofChange fnExactFindEntryWrong)

/-- 'laws.FnExactEntriesOf': WHATEVER THE INPUT: true; the input reads as it did. -/
def fnExactEntriesOfSpec : ChangeSpec := { name := "fnExactEntriesOf", vars := ["loop.example/g00817/impl.numberFields"], fn := fun _ => fun
  | [d1, d2, g1] => { results := [.lit (.bool true)], args := [d1, d2], vars := [g1] }
  | _ => none }
def fnExactEntriesOfRow : OpenClaim := { program := "ythppbcnejapbiaagreatdoor", sum := "543cac5a35e4e85f132019ef6fc99cb54fb2de2111caf692f837ddfa8fd067f3", func := "loop.example/g00817/laws.FnExactEntriesOf", spec := "fnExactEntriesOf", inPlace := ["internal/bytealg.IndexByteString", "internal/bytealg.IndexString", "internal/abi.NoEscape", "internal/bytealg.MakeNoZero"], unfollowed := true, recurses := true, named := ["loop.example/g00817/impl.numberFields", "unicode/utf8.first", "unicode/utf8.acceptRanges", "internal/bytealg.MaxLen"], apart := false, laid := [("unicode/utf8.acceptRanges", laid_unicode_utf8_acceptRanges), ("loop.example/g00817/impl.numberFields", laid_loop_example_g00817_impl_numberFields), ("unicode/utf8.first", laid_unicode_utf8_first)] }
def FnExactEntriesOfSaid : Prop := fnExactEntriesOfRow.holds Tryz.pinned (OpenSpec.ofChange fnExactEntriesOfSpec)

/-- ITS FALSE NEIGHBOUR: 'it returns false'. Refute it at one input. -/
def fnExactEntriesOfWrong : ChangeSpec := { name := "fnExactEntriesOf", vars := ["loop.example/g00817/impl.numberFields"], fn := fun _ => fun
  | [d1, d2, g1] => { results := [.lit (.bool false)], args := [d1, d2], vars := [g1] }
  | _ => none }
def FnExactEntriesOfWrongFalsely : Prop := fnExactEntriesOfRow.holds Tryz.pinned (OpenSpec.ofChange fnExactEntriesOfWrong)

/-- 'laws.FnExactAddEntry': WHATEVER THE INPUT: true; the input reads as it did. -/
def fnExactAddEntrySpec : ChangeSpec := { name := "fnExactAddEntry", vars := ["loop.example/g00817/impl.numberFields"], fn := fun _ => fun
  | [d1, d2, d3, d4, g1] => { results := [.lit (.bool true)], args := [d1, d2, d3, d4], vars := [g1] }
  | _ => none }
def fnExactAddEntryRow : OpenClaim := { program := "ythppbcnejapbiaagreatdoor", sum := "543cac5a35e4e85f132019ef6fc99cb54fb2de2111caf692f837ddfa8fd067f3", func := "loop.example/g00817/laws.FnExactAddEntry", spec := "fnExactAddEntry", inPlace := ["internal/bytealg.IndexByteString", "internal/bytealg.IndexString", "internal/abi.NoEscape", "internal/bytealg.MakeNoZero"], unfollowed := true, recurses := true, named := ["loop.example/g00817/impl.numberFields", "unicode/utf8.first", "unicode/utf8.acceptRanges", "internal/bytealg.MaxLen"], apart := false, laid := [("unicode/utf8.acceptRanges", laid_unicode_utf8_acceptRanges), ("loop.example/g00817/impl.numberFields", laid_loop_example_g00817_impl_numberFields), ("unicode/utf8.first", laid_unicode_utf8_first)] }
def FnExactAddEntrySaid : Prop := fnExactAddEntryRow.holds Tryz.pinned (OpenSpec.ofChange fnExactAddEntrySpec)

/-- ITS FALSE NEIGHBOUR: 'it returns false'. Refute it at one input. -/
def fnExactAddEntryWrong : ChangeSpec := { name := "fnExactAddEntry", vars := ["loop.example/g00817/impl.numberFields"], fn := fun _ => fun
  | [d1, d2, d3, d4, g1] => { results := [.lit (.bool false)], args := [d1, d2, d3, d4], vars := [g1] }
  | _ => none }
def FnExactAddEntryWrongFalsely : Prop := fnExactAddEntryRow.holds Tryz.pinned (OpenSpec.ofChange fnExactAddEntryWrong)

/-- 'laws.FnExactRemoveEntry': WHATEVER THE INPUT: true; the input reads as it did. -/
def fnExactRemoveEntrySpec : ChangeSpec := { name := "fnExactRemoveEntry", vars := ["loop.example/g00817/impl.numberFields"], fn := fun _ => fun
  | [d1, d2, d3, g1] => { results := [.lit (.bool true)], args := [d1, d2, d3], vars := [g1] }
  | _ => none }
def fnExactRemoveEntryRow : OpenClaim := { program := "ythppbcnejapbiaagreatdoor", sum := "543cac5a35e4e85f132019ef6fc99cb54fb2de2111caf692f837ddfa8fd067f3", func := "loop.example/g00817/laws.FnExactRemoveEntry", spec := "fnExactRemoveEntry", inPlace := ["internal/bytealg.IndexByteString", "internal/bytealg.IndexString", "internal/abi.NoEscape", "internal/bytealg.MakeNoZero"], unfollowed := true, recurses := true, named := ["loop.example/g00817/impl.numberFields", "unicode/utf8.first", "unicode/utf8.acceptRanges", "internal/bytealg.MaxLen"], apart := false, laid := [("unicode/utf8.acceptRanges", laid_unicode_utf8_acceptRanges), ("loop.example/g00817/impl.numberFields", laid_loop_example_g00817_impl_numberFields), ("unicode/utf8.first", laid_unicode_utf8_first)] }
def FnExactRemoveEntrySaid : Prop := fnExactRemoveEntryRow.holds Tryz.pinned (OpenSpec.ofChange fnExactRemoveEntrySpec)

/-- ITS FALSE NEIGHBOUR: 'it returns false'. Refute it at one input. -/
def fnExactRemoveEntryWrong : ChangeSpec := { name := "fnExactRemoveEntry", vars := ["loop.example/g00817/impl.numberFields"], fn := fun _ => fun
  | [d1, d2, d3, g1] => { results := [.lit (.bool false)], args := [d1, d2, d3], vars := [g1] }
  | _ => none }
def FnExactRemoveEntryWrongFalsely : Prop := fnExactRemoveEntryRow.holds Tryz.pinned (OpenSpec.ofChange fnExactRemoveEntryWrong)

/-- 'laws.FnExactParentOf': WHATEVER THE INPUT: true; the input reads as it did. -/
def fnExactParentOfSpec : ChangeSpec := { name := "fnExactParentOf", vars := ["loop.example/g00817/impl.numberFields"], fn := fun _ => fun
  | [d1, d2, g1] => { results := [.lit (.bool true)], args := [d1, d2], vars := [g1] }
  | _ => none }
def fnExactParentOfRow : OpenClaim := { program := "ythppbcnejapbiaagreatdoor", sum := "543cac5a35e4e85f132019ef6fc99cb54fb2de2111caf692f837ddfa8fd067f3", func := "loop.example/g00817/laws.FnExactParentOf", spec := "fnExactParentOf", inPlace := ["internal/bytealg.IndexByteString", "internal/bytealg.IndexString", "internal/abi.NoEscape", "internal/bytealg.MakeNoZero"], unfollowed := true, recurses := true, named := ["loop.example/g00817/impl.numberFields", "unicode/utf8.first", "unicode/utf8.acceptRanges", "internal/bytealg.MaxLen"], apart := false, laid := [("unicode/utf8.acceptRanges", laid_unicode_utf8_acceptRanges), ("loop.example/g00817/impl.numberFields", laid_loop_example_g00817_impl_numberFields), ("unicode/utf8.first", laid_unicode_utf8_first)] }
def FnExactParentOfSaid : Prop := fnExactParentOfRow.holds Tryz.pinned (OpenSpec.ofChange fnExactParentOfSpec)

/-- ITS FALSE NEIGHBOUR: 'it returns false'. Refute it at one input. -/
def fnExactParentOfWrong : ChangeSpec := { name := "fnExactParentOf", vars := ["loop.example/g00817/impl.numberFields"], fn := fun _ => fun
  | [d1, d2, g1] => { results := [.lit (.bool false)], args := [d1, d2], vars := [g1] }
  | _ => none }
def FnExactParentOfWrongFalsely : Prop := fnExactParentOfRow.holds Tryz.pinned (OpenSpec.ofChange fnExactParentOfWrong)

/-- 'laws.FnExactMayAccess': WHATEVER THE INPUT: true; the input reads as it did. -/
def fnExactMayAccessSpec : ChangeSpec := { name := "fnExactMayAccess", vars := ["loop.example/g00817/impl.numberFields"], fn := fun _ => fun
  | [d1, d2, d3, d4, g1] => { results := [.lit (.bool true)], args := [d1, d2, d3, d4], vars := [g1] }
  | _ => none }
def fnExactMayAccessRow : OpenClaim := { program := "ythppbcnejapbiaagreatdoor", sum := "543cac5a35e4e85f132019ef6fc99cb54fb2de2111caf692f837ddfa8fd067f3", func := "loop.example/g00817/laws.FnExactMayAccess", spec := "fnExactMayAccess", inPlace := ["internal/bytealg.IndexByteString", "internal/bytealg.IndexString"], unfollowed := true, recurses := true, named := ["loop.example/g00817/impl.numberFields", "unicode/utf8.first", "unicode/utf8.acceptRanges", "internal/bytealg.MaxLen"], apart := false, laid := [("unicode/utf8.acceptRanges", laid_unicode_utf8_acceptRanges), ("loop.example/g00817/impl.numberFields", laid_loop_example_g00817_impl_numberFields), ("unicode/utf8.first", laid_unicode_utf8_first)] }
def FnExactMayAccessSaid : Prop := fnExactMayAccessRow.holds Tryz.pinned (OpenSpec.ofChange fnExactMayAccessSpec)

/-- ITS FALSE NEIGHBOUR: 'it returns false'. Refute it at one input. -/
def fnExactMayAccessWrong : ChangeSpec := { name := "fnExactMayAccess", vars := ["loop.example/g00817/impl.numberFields"], fn := fun _ => fun
  | [d1, d2, d3, d4, g1] => { results := [.lit (.bool false)], args := [d1, d2, d3, d4], vars := [g1] }
  | _ => none }
def FnExactMayAccessWrongFalsely : Prop := fnExactMayAccessRow.holds Tryz.pinned (OpenSpec.ofChange fnExactMayAccessWrong)

/-- 'laws.FnExactResolvePath': WHATEVER THE INPUT: true; the input reads as it did. -/
def fnExactResolvePathSpec : ChangeSpec := { name := "fnExactResolvePath", vars := ["loop.example/g00817/impl.numberFields"], fn := fun _ => fun
  | [d1, d2, d3, g1] => { results := [.lit (.bool true)], args := [d1, d2, d3], vars := [g1] }
  | _ => none }
def fnExactResolvePathRow : OpenClaim := { program := "ythppbcnejapbiaagreatdoor", sum := "543cac5a35e4e85f132019ef6fc99cb54fb2de2111caf692f837ddfa8fd067f3", func := "loop.example/g00817/laws.FnExactResolvePath", spec := "fnExactResolvePath", inPlace := ["internal/bytealg.IndexByteString", "internal/bytealg.IndexString", "internal/abi.NoEscape", "internal/bytealg.MakeNoZero"], unfollowed := true, recurses := true, named := ["loop.example/g00817/impl.numberFields", "unicode/utf8.first", "unicode/utf8.acceptRanges", "internal/bytealg.MaxLen"], apart := false, laid := [("unicode/utf8.acceptRanges", laid_unicode_utf8_acceptRanges), ("loop.example/g00817/impl.numberFields", laid_loop_example_g00817_impl_numberFields), ("unicode/utf8.first", laid_unicode_utf8_first)] }
def FnExactResolvePathSaid : Prop := fnExactResolvePathRow.holds Tryz.pinned (OpenSpec.ofChange fnExactResolvePathSpec)

/-- ITS FALSE NEIGHBOUR: 'it returns false'. Refute it at one input. -/
def fnExactResolvePathWrong : ChangeSpec := { name := "fnExactResolvePath", vars := ["loop.example/g00817/impl.numberFields"], fn := fun _ => fun
  | [d1, d2, d3, g1] => { results := [.lit (.bool false)], args := [d1, d2, d3], vars := [g1] }
  | _ => none }
def FnExactResolvePathWrongFalsely : Prop := fnExactResolvePathRow.holds Tryz.pinned (OpenSpec.ofChange fnExactResolvePathWrong)

/-- 'laws.FnExactResolveParent': WHATEVER THE INPUT: true; the input reads as it did. -/
def fnExactResolveParentSpec : ChangeSpec := { name := "fnExactResolveParent", vars := ["loop.example/g00817/impl.numberFields"], fn := fun _ => fun
  | [d1, d2, d3, g1] => { results := [.lit (.bool true)], args := [d1, d2, d3], vars := [g1] }
  | _ => none }
def fnExactResolveParentRow : OpenClaim := { program := "ythppbcnejapbiaagreatdoor", sum := "543cac5a35e4e85f132019ef6fc99cb54fb2de2111caf692f837ddfa8fd067f3", func := "loop.example/g00817/laws.FnExactResolveParent", spec := "fnExactResolveParent", inPlace := ["internal/bytealg.IndexByteString", "internal/bytealg.IndexString", "internal/abi.NoEscape", "internal/bytealg.MakeNoZero"], unfollowed := true, recurses := true, named := ["loop.example/g00817/impl.numberFields", "unicode/utf8.first", "unicode/utf8.acceptRanges", "internal/bytealg.MaxLen"], apart := false, laid := [("unicode/utf8.acceptRanges", laid_unicode_utf8_acceptRanges), ("loop.example/g00817/impl.numberFields", laid_loop_example_g00817_impl_numberFields), ("unicode/utf8.first", laid_unicode_utf8_first)] }
def FnExactResolveParentSaid : Prop := fnExactResolveParentRow.holds Tryz.pinned (OpenSpec.ofChange fnExactResolveParentSpec)

/-- ITS FALSE NEIGHBOUR: 'it returns false'. Refute it at one input. -/
def fnExactResolveParentWrong : ChangeSpec := { name := "fnExactResolveParent", vars := ["loop.example/g00817/impl.numberFields"], fn := fun _ => fun
  | [d1, d2, d3, g1] => { results := [.lit (.bool false)], args := [d1, d2, d3], vars := [g1] }
  | _ => none }
def FnExactResolveParentWrongFalsely : Prop := fnExactResolveParentRow.holds Tryz.pinned (OpenSpec.ofChange fnExactResolveParentWrong)

/-- 'laws.FnExactPathOf': WHATEVER THE INPUT: true; the input reads as it did. -/
def fnExactPathOfSpec : ChangeSpec := { name := "fnExactPathOf", vars := ["loop.example/g00817/impl.numberFields"], fn := fun _ => fun
  | [d1, d2, g1] => { results := [.lit (.bool true)], args := [d1, d2], vars := [g1] }
  | _ => none }
def fnExactPathOfRow : OpenClaim := { program := "ythppbcnejapbiaagreatdoor", sum := "543cac5a35e4e85f132019ef6fc99cb54fb2de2111caf692f837ddfa8fd067f3", func := "loop.example/g00817/laws.FnExactPathOf", spec := "fnExactPathOf", inPlace := ["internal/bytealg.IndexByteString", "internal/bytealg.IndexString", "internal/abi.NoEscape", "internal/bytealg.MakeNoZero"], unfollowed := true, recurses := true, named := ["loop.example/g00817/impl.numberFields", "unicode/utf8.first", "unicode/utf8.acceptRanges", "internal/bytealg.MaxLen"], apart := false, laid := [("unicode/utf8.acceptRanges", laid_unicode_utf8_acceptRanges), ("loop.example/g00817/impl.numberFields", laid_loop_example_g00817_impl_numberFields), ("unicode/utf8.first", laid_unicode_utf8_first)] }
def FnExactPathOfSaid : Prop := fnExactPathOfRow.holds Tryz.pinned (OpenSpec.ofChange fnExactPathOfSpec)

/-- ITS FALSE NEIGHBOUR: 'it returns false'. Refute it at one input. -/
def fnExactPathOfWrong : ChangeSpec := { name := "fnExactPathOf", vars := ["loop.example/g00817/impl.numberFields"], fn := fun _ => fun
  | [d1, d2, g1] => { results := [.lit (.bool false)], args := [d1, d2], vars := [g1] }
  | _ => none }
def FnExactPathOfWrongFalsely : Prop := fnExactPathOfRow.holds Tryz.pinned (OpenSpec.ofChange fnExactPathOfWrong)

/- THE SECOND FORM. 'bulk': how many values and letters a reading holds, each counted each time it is reached (what is shared counts as often as it is met; a slice's spare places count too). A statement '..UptoSaid' is the law's where the arguments, and the package variables that the reading takes, are together of bulk at most 1048576: NARROWER than '..Said'. Prove '..Said' where nothing that the law and all that it calls make is longer than what came in: it says more and counts as full. Else prove '..UptoSaid'. A law counts once. -/
mutual
def uptoBulk {H : Type} : DataW H → Nat
  | .lit (.string bytes) => bytes.length + 1
  | .lit _ => 1
  | .nil => 1
  | .ptr d => uptoBulk d + 1
  | .slice elems spare => uptoBulkAll elems + uptoBulkAll spare + 1
  | .agg parts => uptoBulkAll parts + 1
  | .iface _ d => uptoBulk d + 1
  | .map entries => uptoBulkEntries entries + 1
  | .held _ => 1
def uptoBulkAll {H : Type} : List (DataW H) → Nat
  | [] => 0
  | d :: r => uptoBulk d + uptoBulkAll r
def uptoBulkEntries {H : Type} : List (Lit × DataW H) → Nat
  | [] => 0
  | x :: r => uptoBulkEntry x + uptoBulkEntries r
def uptoBulkEntry {H : Type} : Lit × DataW H → Nat
  | (.string bytes, d) => bytes.length + uptoBulk d + 1
  | (_, d) => uptoBulk d + 1
 end
def uptoSmall : (H : Type) → List (DataW H) → Bool := fun _ ds => decide (uptoBulkAll ds ≤ 1048576)
def OpenSpec.upto (s : _root_.Go.ChangeSpec) : _root_.Go.OpenSpec := { _root_.Go.OpenSpec.ofChange s with cond := some uptoSmall }

/-- 'laws.FnExactFindEntry', WHERE WHAT IT READS IS OF BULK AT MOST 1048576: true; the input reads as it did. -/
def fnExactFindEntryUptoRow : OpenClaim := { program := "ythppbcnejapbiaagreatdoor", sum := "543cac5a35e4e85f132019ef6fc99cb54fb2de2111caf692f837ddfa8fd067f3", func := "loop.example/g00817/laws.FnExactFindEntry", spec := "fnExactFindEntry", inPlace := ["internal/bytealg.IndexByteString", "internal/bytealg.IndexString", "internal/abi.NoEscape", "internal/bytealg.MakeNoZero"], unfollowed := true, recurses := true, named := ["loop.example/g00817/impl.numberFields", "unicode/utf8.first", "unicode/utf8.acceptRanges", "internal/bytealg.MaxLen"], apart := false, laid := [("unicode/utf8.acceptRanges", laid_unicode_utf8_acceptRanges), ("loop.example/g00817/impl.numberFields", laid_loop_example_g00817_impl_numberFields), ("unicode/utf8.first", laid_unicode_utf8_first)], narrowed := true }
def FnExactFindEntryUptoSaid : Prop := fnExactFindEntryUptoRow.holds Tryz.pinned (OpenSpec.upto fnExactFindEntrySpec)

/-- 'laws.FnExactEntriesOf', WHERE WHAT IT READS IS OF BULK AT MOST 1048576: true; the input reads as it did. -/
def fnExactEntriesOfUptoRow : OpenClaim := { program := "ythppbcnejapbiaagreatdoor", sum := "543cac5a35e4e85f132019ef6fc99cb54fb2de2111caf692f837ddfa8fd067f3", func := "loop.example/g00817/laws.FnExactEntriesOf", spec := "fnExactEntriesOf", inPlace := ["internal/bytealg.IndexByteString", "internal/bytealg.IndexString", "internal/abi.NoEscape", "internal/bytealg.MakeNoZero"], unfollowed := true, recurses := true, named := ["loop.example/g00817/impl.numberFields", "unicode/utf8.first", "unicode/utf8.acceptRanges", "internal/bytealg.MaxLen"], apart := false, laid := [("unicode/utf8.acceptRanges", laid_unicode_utf8_acceptRanges), ("loop.example/g00817/impl.numberFields", laid_loop_example_g00817_impl_numberFields), ("unicode/utf8.first", laid_unicode_utf8_first)], narrowed := true }
def FnExactEntriesOfUptoSaid : Prop := fnExactEntriesOfUptoRow.holds Tryz.pinned (OpenSpec.upto fnExactEntriesOfSpec)

/-- 'laws.FnExactAddEntry', WHERE WHAT IT READS IS OF BULK AT MOST 1048576: true; the input reads as it did. -/
def fnExactAddEntryUptoRow : OpenClaim := { program := "ythppbcnejapbiaagreatdoor", sum := "543cac5a35e4e85f132019ef6fc99cb54fb2de2111caf692f837ddfa8fd067f3", func := "loop.example/g00817/laws.FnExactAddEntry", spec := "fnExactAddEntry", inPlace := ["internal/bytealg.IndexByteString", "internal/bytealg.IndexString", "internal/abi.NoEscape", "internal/bytealg.MakeNoZero"], unfollowed := true, recurses := true, named := ["loop.example/g00817/impl.numberFields", "unicode/utf8.first", "unicode/utf8.acceptRanges", "internal/bytealg.MaxLen"], apart := false, laid := [("unicode/utf8.acceptRanges", laid_unicode_utf8_acceptRanges), ("loop.example/g00817/impl.numberFields", laid_loop_example_g00817_impl_numberFields), ("unicode/utf8.first", laid_unicode_utf8_first)], narrowed := true }
def FnExactAddEntryUptoSaid : Prop := fnExactAddEntryUptoRow.holds Tryz.pinned (OpenSpec.upto fnExactAddEntrySpec)

/-- 'laws.FnExactRemoveEntry', WHERE WHAT IT READS IS OF BULK AT MOST 1048576: true; the input reads as it did. -/
def fnExactRemoveEntryUptoRow : OpenClaim := { program := "ythppbcnejapbiaagreatdoor", sum := "543cac5a35e4e85f132019ef6fc99cb54fb2de2111caf692f837ddfa8fd067f3", func := "loop.example/g00817/laws.FnExactRemoveEntry", spec := "fnExactRemoveEntry", inPlace := ["internal/bytealg.IndexByteString", "internal/bytealg.IndexString", "internal/abi.NoEscape", "internal/bytealg.MakeNoZero"], unfollowed := true, recurses := true, named := ["loop.example/g00817/impl.numberFields", "unicode/utf8.first", "unicode/utf8.acceptRanges", "internal/bytealg.MaxLen"], apart := false, laid := [("unicode/utf8.acceptRanges", laid_unicode_utf8_acceptRanges), ("loop.example/g00817/impl.numberFields", laid_loop_example_g00817_impl_numberFields), ("unicode/utf8.first", laid_unicode_utf8_first)], narrowed := true }
def FnExactRemoveEntryUptoSaid : Prop := fnExactRemoveEntryUptoRow.holds Tryz.pinned (OpenSpec.upto fnExactRemoveEntrySpec)

/-- 'laws.FnExactParentOf', WHERE WHAT IT READS IS OF BULK AT MOST 1048576: true; the input reads as it did. -/
def fnExactParentOfUptoRow : OpenClaim := { program := "ythppbcnejapbiaagreatdoor", sum := "543cac5a35e4e85f132019ef6fc99cb54fb2de2111caf692f837ddfa8fd067f3", func := "loop.example/g00817/laws.FnExactParentOf", spec := "fnExactParentOf", inPlace := ["internal/bytealg.IndexByteString", "internal/bytealg.IndexString", "internal/abi.NoEscape", "internal/bytealg.MakeNoZero"], unfollowed := true, recurses := true, named := ["loop.example/g00817/impl.numberFields", "unicode/utf8.first", "unicode/utf8.acceptRanges", "internal/bytealg.MaxLen"], apart := false, laid := [("unicode/utf8.acceptRanges", laid_unicode_utf8_acceptRanges), ("loop.example/g00817/impl.numberFields", laid_loop_example_g00817_impl_numberFields), ("unicode/utf8.first", laid_unicode_utf8_first)], narrowed := true }
def FnExactParentOfUptoSaid : Prop := fnExactParentOfUptoRow.holds Tryz.pinned (OpenSpec.upto fnExactParentOfSpec)

/-- 'laws.FnExactMayAccess', WHERE WHAT IT READS IS OF BULK AT MOST 1048576: true; the input reads as it did. -/
def fnExactMayAccessUptoRow : OpenClaim := { program := "ythppbcnejapbiaagreatdoor", sum := "543cac5a35e4e85f132019ef6fc99cb54fb2de2111caf692f837ddfa8fd067f3", func := "loop.example/g00817/laws.FnExactMayAccess", spec := "fnExactMayAccess", inPlace := ["internal/bytealg.IndexByteString", "internal/bytealg.IndexString"], unfollowed := true, recurses := true, named := ["loop.example/g00817/impl.numberFields", "unicode/utf8.first", "unicode/utf8.acceptRanges", "internal/bytealg.MaxLen"], apart := false, laid := [("unicode/utf8.acceptRanges", laid_unicode_utf8_acceptRanges), ("loop.example/g00817/impl.numberFields", laid_loop_example_g00817_impl_numberFields), ("unicode/utf8.first", laid_unicode_utf8_first)], narrowed := true }
def FnExactMayAccessUptoSaid : Prop := fnExactMayAccessUptoRow.holds Tryz.pinned (OpenSpec.upto fnExactMayAccessSpec)

/-- 'laws.FnExactResolvePath', WHERE WHAT IT READS IS OF BULK AT MOST 1048576: true; the input reads as it did. -/
def fnExactResolvePathUptoRow : OpenClaim := { program := "ythppbcnejapbiaagreatdoor", sum := "543cac5a35e4e85f132019ef6fc99cb54fb2de2111caf692f837ddfa8fd067f3", func := "loop.example/g00817/laws.FnExactResolvePath", spec := "fnExactResolvePath", inPlace := ["internal/bytealg.IndexByteString", "internal/bytealg.IndexString", "internal/abi.NoEscape", "internal/bytealg.MakeNoZero"], unfollowed := true, recurses := true, named := ["loop.example/g00817/impl.numberFields", "unicode/utf8.first", "unicode/utf8.acceptRanges", "internal/bytealg.MaxLen"], apart := false, laid := [("unicode/utf8.acceptRanges", laid_unicode_utf8_acceptRanges), ("loop.example/g00817/impl.numberFields", laid_loop_example_g00817_impl_numberFields), ("unicode/utf8.first", laid_unicode_utf8_first)], narrowed := true }
def FnExactResolvePathUptoSaid : Prop := fnExactResolvePathUptoRow.holds Tryz.pinned (OpenSpec.upto fnExactResolvePathSpec)

/-- 'laws.FnExactResolveParent', WHERE WHAT IT READS IS OF BULK AT MOST 1048576: true; the input reads as it did. -/
def fnExactResolveParentUptoRow : OpenClaim := { program := "ythppbcnejapbiaagreatdoor", sum := "543cac5a35e4e85f132019ef6fc99cb54fb2de2111caf692f837ddfa8fd067f3", func := "loop.example/g00817/laws.FnExactResolveParent", spec := "fnExactResolveParent", inPlace := ["internal/bytealg.IndexByteString", "internal/bytealg.IndexString", "internal/abi.NoEscape", "internal/bytealg.MakeNoZero"], unfollowed := true, recurses := true, named := ["loop.example/g00817/impl.numberFields", "unicode/utf8.first", "unicode/utf8.acceptRanges", "internal/bytealg.MaxLen"], apart := false, laid := [("unicode/utf8.acceptRanges", laid_unicode_utf8_acceptRanges), ("loop.example/g00817/impl.numberFields", laid_loop_example_g00817_impl_numberFields), ("unicode/utf8.first", laid_unicode_utf8_first)], narrowed := true }
def FnExactResolveParentUptoSaid : Prop := fnExactResolveParentUptoRow.holds Tryz.pinned (OpenSpec.upto fnExactResolveParentSpec)

/-- 'laws.FnExactPathOf', WHERE WHAT IT READS IS OF BULK AT MOST 1048576: true; the input reads as it did. -/
def fnExactPathOfUptoRow : OpenClaim := { program := "ythppbcnejapbiaagreatdoor", sum := "543cac5a35e4e85f132019ef6fc99cb54fb2de2111caf692f837ddfa8fd067f3", func := "loop.example/g00817/laws.FnExactPathOf", spec := "fnExactPathOf", inPlace := ["internal/bytealg.IndexByteString", "internal/bytealg.IndexString", "internal/abi.NoEscape", "internal/bytealg.MakeNoZero"], unfollowed := true, recurses := true, named := ["loop.example/g00817/impl.numberFields", "unicode/utf8.first", "unicode/utf8.acceptRanges", "internal/bytealg.MaxLen"], apart := false, laid := [("unicode/utf8.acceptRanges", laid_unicode_utf8_acceptRanges), ("loop.example/g00817/impl.numberFields", laid_loop_example_g00817_impl_numberFields), ("unicode/utf8.first", laid_unicode_utf8_first)], narrowed := true }
def FnExactPathOfUptoSaid : Prop := fnExactPathOfUptoRow.holds Tryz.pinned (OpenSpec.upto fnExactPathOfSpec)

end Rows
end Go.Proofs.YthppbcnejapbiaaGreatDoor
