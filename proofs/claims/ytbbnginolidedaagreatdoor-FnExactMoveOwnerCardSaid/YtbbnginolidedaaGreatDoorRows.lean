/-
  NARROWER THAN 'FOR EVERY INPUT', by the rows' own cells (each row's printed sentence says how): FnContent: laid · FnResize: laid · FnMoveOwner: laid · FnExactWriteBytes: laid · FnExactMoveOwner: laid · FnEntries: laid · FnExactEntriesOf: laid · FnExactFindEntry: laid · FnExactAddEntry: laid · FnExactRemoveEntry: laid · FnExactParentOf: laid.
  DERIVED. THE GIVEN ROWS OF THIS SEAT. 11 by the template 'for every input the law returns true; each argument reads behind the call as it read before'; 0 by the template 'total and deterministic' (their statements: YtbbnginolidedaaGreatDoorTotals.lean).
  GIVEN WITH THE SEED: the statements are not yours to turn. If you find one false, say at which input.
  Laid BY PROGRAM, IN A SANDBOX (cutbox-rows.mjs): the forced cells as the released guide's own fill.sh prints them over the translation 393c649130198086… (all of the seat's roots in one cut). By AI agents, Wed Nov 11 2026. No macro, syntax, notation, axiom, sorry.
-/
import Derived.Test.YtbbnginolidedaaGreatDoorChecked
import GoSem.PinnedTables
import GoSem.Claim
import GoSem.ClaimJoined
import GoSem.ClaimMapViews
import Derived.JoinedTies
import Derived.KernelRfl
namespace Go.Proofs.YtbbnginolidedaaGreatDoor
/- THE CELL 'sum', in the pinned program and in every row, IS THE sha256 OF THE DUMP (.gsa) THAT YtbbnginolidedaaGreatDoorProg.lean LOADS. Nothing in Lean hashes anything: it is a label: what it is worth is what the hold of that sum in a sandbox is worth. -/
noncomputable def Tryz.pinned : Pinned := { name := "ytbbnginolidedaagreatdoor", sum := "393c64913019808675a9e213f1f9d7cd99fc6109d66f141ea021f1ceb0fd8cdc", checked := Tryz.checked }
namespace Rows
def none {H : Type} : Left H := { results := [], args := [] }

/- WHAT THE LISTED PACKAGE-LEVEL VARIABLES READ AS WHEN THE CALL BEGINS. Each datum BY PROGRAM (the guide's laid-datum.mjs) off the statement by which the dump's own 'gosem.cut.vars' lays the variable. In a bare row this is a premise. The card (YtbbnginolidedaaGreatDoorCards.lean) ties it to the program's text. -/
def laid_unicode_utf8_acceptRanges {H : Type} : DataW H := .agg [.agg [.lit (.int .u8 128), .lit (.int .u8 191)], .agg [.lit (.int .u8 160), .lit (.int .u8 191)], .agg [.lit (.int .u8 128), .lit (.int .u8 159)], .agg [.lit (.int .u8 144), .lit (.int .u8 191)], .agg [.lit (.int .u8 128), .lit (.int .u8 143)], .agg [.lit (.int .u8 0), .lit (.int .u8 0)], .agg [.lit (.int .u8 0), .lit (.int .u8 0)], .agg [.lit (.int .u8 0), .lit (.int .u8 0)], .agg [.lit (.int .u8 0), .lit (.int .u8 0)], .agg [.lit (.int .u8 0), .lit (.int .u8 0)], .agg [.lit (.int .u8 0), .lit (.int .u8 0)], .agg [.lit (.int .u8 0), .lit (.int .u8 0)], .agg [.lit (.int .u8 0), .lit (.int .u8 0)], .agg [.lit (.int .u8 0), .lit (.int .u8 0)], .agg [.lit (.int .u8 0), .lit (.int .u8 0)], .agg [.lit (.int .u8 0), .lit (.int .u8 0)]]
def laid_loop_example_g00817_impl_numberFields {H : Type} : DataW H := .agg [.agg [.lit (.int .i64 1), .lit (.int .i64 2)], .agg [.lit (.int .i64 2), .lit (.int .i64 2047)], .agg [.lit (.int .i64 1), .lit (.int .i64 3)], .agg [.lit (.int .i64 1), .lit (.int .i64 3)], .agg [.lit (.int .i64 2), .lit (.int .i64 1000)], .agg [.lit (.int .i64 2), .lit (.int .i64 256)], .agg [.lit (.int .i64 4), .lit (.int .i64 1000000000)]]
/-- One of Go's own tables, pinned by name: the form's constant. -/
def laid_unicode_utf8_first : DataW Unit := Go.Pinned.utf8First
def laid_math_bits_deBruijn32tab {H : Type} : DataW H := .agg [.lit (.int .u8 0), .lit (.int .u8 1), .lit (.int .u8 28), .lit (.int .u8 2), .lit (.int .u8 29), .lit (.int .u8 14), .lit (.int .u8 24), .lit (.int .u8 3), .lit (.int .u8 30), .lit (.int .u8 22), .lit (.int .u8 20), .lit (.int .u8 15), .lit (.int .u8 25), .lit (.int .u8 17), .lit (.int .u8 4), .lit (.int .u8 8), .lit (.int .u8 31), .lit (.int .u8 27), .lit (.int .u8 13), .lit (.int .u8 23), .lit (.int .u8 21), .lit (.int .u8 19), .lit (.int .u8 16), .lit (.int .u8 7), .lit (.int .u8 26), .lit (.int .u8 12), .lit (.int .u8 18), .lit (.int .u8 6), .lit (.int .u8 11), .lit (.int .u8 5), .lit (.int .u8 10), .lit (.int .u8 9)]
def laid_math_bits_deBruijn64tab {H : Type} : DataW H := .agg [.lit (.int .u8 0), .lit (.int .u8 1), .lit (.int .u8 56), .lit (.int .u8 2), .lit (.int .u8 57), .lit (.int .u8 49), .lit (.int .u8 28), .lit (.int .u8 3), .lit (.int .u8 61), .lit (.int .u8 58), .lit (.int .u8 42), .lit (.int .u8 50), .lit (.int .u8 38), .lit (.int .u8 29), .lit (.int .u8 17), .lit (.int .u8 4), .lit (.int .u8 62), .lit (.int .u8 47), .lit (.int .u8 59), .lit (.int .u8 36), .lit (.int .u8 45), .lit (.int .u8 43), .lit (.int .u8 51), .lit (.int .u8 22), .lit (.int .u8 53), .lit (.int .u8 39), .lit (.int .u8 33), .lit (.int .u8 30), .lit (.int .u8 24), .lit (.int .u8 18), .lit (.int .u8 12), .lit (.int .u8 5), .lit (.int .u8 63), .lit (.int .u8 55), .lit (.int .u8 48), .lit (.int .u8 27), .lit (.int .u8 60), .lit (.int .u8 41), .lit (.int .u8 37), .lit (.int .u8 16), .lit (.int .u8 46), .lit (.int .u8 35), .lit (.int .u8 44), .lit (.int .u8 21), .lit (.int .u8 52), .lit (.int .u8 32), .lit (.int .u8 23), .lit (.int .u8 11), .lit (.int .u8 54), .lit (.int .u8 26), .lit (.int .u8 40), .lit (.int .u8 15), .lit (.int .u8 34), .lit (.int .u8 20), .lit (.int .u8 31), .lit (.int .u8 10), .lit (.int .u8 25), .lit (.int .u8 14), .lit (.int .u8 19), .lit (.int .u8 9), .lit (.int .u8 13), .lit (.int .u8 8), .lit (.int .u8 7), .lit (.int .u8 6)]
def laid_internal_strconv_uint64pow10 {H : Type} : DataW H := .agg [.lit (.int .u64 1), .lit (.int .u64 10), .lit (.int .u64 100), .lit (.int .u64 1000), .lit (.int .u64 10000), .lit (.int .u64 100000), .lit (.int .u64 1000000), .lit (.int .u64 10000000), .lit (.int .u64 100000000), .lit (.int .u64 1000000000), .lit (.int .u64 10000000000), .lit (.int .u64 100000000000), .lit (.int .u64 1000000000000), .lit (.int .u64 10000000000000), .lit (.int .u64 100000000000000), .lit (.int .u64 1000000000000000), .lit (.int .u64 10000000000000000), .lit (.int .u64 100000000000000000), .lit (.int .u64 1000000000000000000), .lit (.int .u64 10000000000000000000)]

/-- 'laws.FnContent': WHATEVER THE INPUT: true; the input reads as it did. -/
def fnContentSpec : ChangeSpec := { name := "fnContent", vars := ["loop.example/g00817/impl.numberFields"], fn := fun _ => fun
  | [d, g1] => { results := [.lit (.bool true)], args := [d], vars := [g1] }
  | _ => none }
def fnContentRow : OpenClaim := { program := "ytbbnginolidedaagreatdoor", sum := "393c64913019808675a9e213f1f9d7cd99fc6109d66f141ea021f1ceb0fd8cdc", func := "loop.example/g00817/laws.FnContent", spec := "fnContent", inPlace := ["internal/bytealg.IndexByteString", "internal/bytealg.IndexString", "internal/abi.NoEscape", "internal/bytealg.MakeNoZero"], unfollowed := true, recurses := true, named := ["loop.example/g00817/impl.numberFields", "unicode/utf8.first", "unicode/utf8.acceptRanges", "internal/bytealg.MaxLen"], apart := false, laid := [("unicode/utf8.acceptRanges", laid_unicode_utf8_acceptRanges), ("loop.example/g00817/impl.numberFields", laid_loop_example_g00817_impl_numberFields), ("unicode/utf8.first", laid_unicode_utf8_first)] }
def FnContentSaid : Prop := fnContentRow.holds Tryz.pinned (OpenSpec.ofChange fnContentSpec)

/-- ITS FALSE NEIGHBOUR: 'it returns false'. Refute it at one input. -/
def fnContentWrong : ChangeSpec := { name := "fnContent", vars := ["loop.example/g00817/impl.numberFields"], fn := fun _ => fun
  | [d, g1] => { results := [.lit (.bool false)], args := [d], vars := [g1] }
  | _ => none }
def FnContentWrongFalsely : Prop := fnContentRow.holds Tryz.pinned (OpenSpec.ofChange fnContentWrong)

/-- 'laws.FnResize': WHATEVER THE INPUT: true; the input reads as it did. -/
def fnResizeSpec : ChangeSpec := { name := "fnResize", vars := ["loop.example/g00817/impl.numberFields"], fn := fun _ => fun
  | [d, g1] => { results := [.lit (.bool true)], args := [d], vars := [g1] }
  | _ => none }
def fnResizeRow : OpenClaim := { program := "ytbbnginolidedaagreatdoor", sum := "393c64913019808675a9e213f1f9d7cd99fc6109d66f141ea021f1ceb0fd8cdc", func := "loop.example/g00817/laws.FnResize", spec := "fnResize", inPlace := ["internal/bytealg.IndexByteString", "internal/bytealg.IndexString", "internal/abi.NoEscape", "internal/bytealg.MakeNoZero"], named := ["loop.example/g00817/impl.numberFields", "unicode/utf8.first", "unicode/utf8.acceptRanges", "internal/bytealg.MaxLen"], apart := false, laid := [("unicode/utf8.acceptRanges", laid_unicode_utf8_acceptRanges), ("loop.example/g00817/impl.numberFields", laid_loop_example_g00817_impl_numberFields), ("unicode/utf8.first", laid_unicode_utf8_first)] }
def FnResizeSaid : Prop := fnResizeRow.holds Tryz.pinned (OpenSpec.ofChange fnResizeSpec)

/-- ITS FALSE NEIGHBOUR: 'it returns false'. Refute it at one input. -/
def fnResizeWrong : ChangeSpec := { name := "fnResize", vars := ["loop.example/g00817/impl.numberFields"], fn := fun _ => fun
  | [d, g1] => { results := [.lit (.bool false)], args := [d], vars := [g1] }
  | _ => none }
def FnResizeWrongFalsely : Prop := fnResizeRow.holds Tryz.pinned (OpenSpec.ofChange fnResizeWrong)

/-- 'laws.FnMoveOwner': WHATEVER THE INPUT: true; the input reads as it did. -/
def fnMoveOwnerSpec : ChangeSpec := { name := "fnMoveOwner", vars := ["loop.example/g00817/impl.numberFields"], fn := fun _ => fun
  | [d, g1] => { results := [.lit (.bool true)], args := [d], vars := [g1] }
  | _ => none }
def fnMoveOwnerRow : OpenClaim := { program := "ytbbnginolidedaagreatdoor", sum := "393c64913019808675a9e213f1f9d7cd99fc6109d66f141ea021f1ceb0fd8cdc", func := "loop.example/g00817/laws.FnMoveOwner", spec := "fnMoveOwner", inPlace := ["internal/bytealg.IndexByteString", "internal/bytealg.IndexString", "internal/abi.NoEscape", "internal/bytealg.MakeNoZero"], unfollowed := true, recurses := true, named := ["loop.example/g00817/impl.numberFields", "unicode/utf8.first", "unicode/utf8.acceptRanges", "internal/bytealg.MaxLen"], apart := false, laid := [("unicode/utf8.acceptRanges", laid_unicode_utf8_acceptRanges), ("loop.example/g00817/impl.numberFields", laid_loop_example_g00817_impl_numberFields), ("unicode/utf8.first", laid_unicode_utf8_first)] }
def FnMoveOwnerSaid : Prop := fnMoveOwnerRow.holds Tryz.pinned (OpenSpec.ofChange fnMoveOwnerSpec)

/-- ITS FALSE NEIGHBOUR: 'it returns false'. Refute it at one input. -/
def fnMoveOwnerWrong : ChangeSpec := { name := "fnMoveOwner", vars := ["loop.example/g00817/impl.numberFields"], fn := fun _ => fun
  | [d, g1] => { results := [.lit (.bool false)], args := [d], vars := [g1] }
  | _ => none }
def FnMoveOwnerWrongFalsely : Prop := fnMoveOwnerRow.holds Tryz.pinned (OpenSpec.ofChange fnMoveOwnerWrong)

/-- 'laws.FnExactWriteBytes': WHATEVER THE INPUT: true; the input reads as it did. -/
def fnExactWriteBytesSpec : ChangeSpec := { name := "fnExactWriteBytes", vars := ["loop.example/g00817/impl.numberFields"], fn := fun _ => fun
  | [d1, d2, d3, d4, g1] => { results := [.lit (.bool true)], args := [d1, d2, d3, d4], vars := [g1] }
  | _ => none }
def fnExactWriteBytesRow : OpenClaim := { program := "ytbbnginolidedaagreatdoor", sum := "393c64913019808675a9e213f1f9d7cd99fc6109d66f141ea021f1ceb0fd8cdc", func := "loop.example/g00817/laws.FnExactWriteBytes", spec := "fnExactWriteBytes", inPlace := ["internal/bytealg.IndexByteString", "internal/bytealg.IndexString", "internal/abi.NoEscape", "internal/bytealg.MakeNoZero"], unfollowed := true, recurses := true, named := ["loop.example/g00817/impl.numberFields", "unicode/utf8.first", "unicode/utf8.acceptRanges", "internal/bytealg.MaxLen"], apart := false, laid := [("unicode/utf8.acceptRanges", laid_unicode_utf8_acceptRanges), ("loop.example/g00817/impl.numberFields", laid_loop_example_g00817_impl_numberFields), ("unicode/utf8.first", laid_unicode_utf8_first)] }
def FnExactWriteBytesSaid : Prop := fnExactWriteBytesRow.holds Tryz.pinned (OpenSpec.ofChange fnExactWriteBytesSpec)

/-- ITS FALSE NEIGHBOUR: 'it returns false'. Refute it at one input. -/
def fnExactWriteBytesWrong : ChangeSpec := { name := "fnExactWriteBytes", vars := ["loop.example/g00817/impl.numberFields"], fn := fun _ => fun
  | [d1, d2, d3, d4, g1] => { results := [.lit (.bool false)], args := [d1, d2, d3, d4], vars := [g1] }
  | _ => none }
def FnExactWriteBytesWrongFalsely : Prop := fnExactWriteBytesRow.holds Tryz.pinned (OpenSpec.ofChange fnExactWriteBytesWrong)

/-- 'laws.FnExactMoveOwner': WHATEVER THE INPUT: true; the input reads as it did. -/
def fnExactMoveOwnerSpec : ChangeSpec := { name := "fnExactMoveOwner", vars := ["loop.example/g00817/impl.numberFields"], fn := fun _ => fun
  | [d1, d2, d3, g1] => { results := [.lit (.bool true)], args := [d1, d2, d3], vars := [g1] }
  | _ => none }
def fnExactMoveOwnerRow : OpenClaim := { program := "ytbbnginolidedaagreatdoor", sum := "393c64913019808675a9e213f1f9d7cd99fc6109d66f141ea021f1ceb0fd8cdc", func := "loop.example/g00817/laws.FnExactMoveOwner", spec := "fnExactMoveOwner", inPlace := ["internal/bytealg.IndexByteString", "internal/bytealg.IndexString", "internal/abi.NoEscape", "internal/bytealg.MakeNoZero"], unfollowed := true, recurses := true, named := ["loop.example/g00817/impl.numberFields", "unicode/utf8.first", "unicode/utf8.acceptRanges", "internal/bytealg.MaxLen"], apart := false, laid := [("unicode/utf8.acceptRanges", laid_unicode_utf8_acceptRanges), ("loop.example/g00817/impl.numberFields", laid_loop_example_g00817_impl_numberFields), ("unicode/utf8.first", laid_unicode_utf8_first)] }
def FnExactMoveOwnerSaid : Prop := fnExactMoveOwnerRow.holds Tryz.pinned (OpenSpec.ofChange fnExactMoveOwnerSpec)

/-- ITS FALSE NEIGHBOUR: 'it returns false'. Refute it at one input. -/
def fnExactMoveOwnerWrong : ChangeSpec := { name := "fnExactMoveOwner", vars := ["loop.example/g00817/impl.numberFields"], fn := fun _ => fun
  | [d1, d2, d3, g1] => { results := [.lit (.bool false)], args := [d1, d2, d3], vars := [g1] }
  | _ => none }
def FnExactMoveOwnerWrongFalsely : Prop := fnExactMoveOwnerRow.holds Tryz.pinned (OpenSpec.ofChange fnExactMoveOwnerWrong)

/-- 'laws.FnEntries': WHATEVER THE INPUT: true; the input reads as it did. -/
def fnEntriesSpec : ChangeSpec := { name := "fnEntries", vars := ["loop.example/g00817/impl.numberFields"], fn := fun _ => fun
  | [d, g1] => { results := [.lit (.bool true)], args := [d], vars := [g1] }
  | _ => none }
def fnEntriesRow : OpenClaim := { program := "ytbbnginolidedaagreatdoor", sum := "393c64913019808675a9e213f1f9d7cd99fc6109d66f141ea021f1ceb0fd8cdc", func := "loop.example/g00817/laws.FnEntries", spec := "fnEntries", inPlace := ["internal/bytealg.IndexByteString", "internal/bytealg.IndexString", "internal/abi.NoEscape", "internal/bytealg.MakeNoZero"], unfollowed := true, recurses := true, named := ["internal/strconv.uint64pow10", "math/bits.deBruijn32tab", "math/bits.deBruijn64tab", "loop.example/g00817/impl.numberFields", "unicode/utf8.first", "unicode/utf8.acceptRanges", "internal/bytealg.MaxLen"], apart := false, laid := [("math/bits.deBruijn32tab", laid_math_bits_deBruijn32tab), ("math/bits.deBruijn64tab", laid_math_bits_deBruijn64tab), ("internal/strconv.uint64pow10", laid_internal_strconv_uint64pow10), ("unicode/utf8.acceptRanges", laid_unicode_utf8_acceptRanges), ("loop.example/g00817/impl.numberFields", laid_loop_example_g00817_impl_numberFields), ("unicode/utf8.first", laid_unicode_utf8_first)] }
def FnEntriesSaid : Prop := fnEntriesRow.holds Tryz.pinned (OpenSpec.ofChange fnEntriesSpec)

/-- ITS FALSE NEIGHBOUR: 'it returns false'. Refute it at one input. -/
def fnEntriesWrong : ChangeSpec := { name := "fnEntries", vars := ["loop.example/g00817/impl.numberFields"], fn := fun _ => fun
  | [d, g1] => { results := [.lit (.bool false)], args := [d], vars := [g1] }
  | _ => none }
def FnEntriesWrongFalsely : Prop := fnEntriesRow.holds Tryz.pinned (OpenSpec.ofChange fnEntriesWrong)

/-- 'laws.FnExactEntriesOf': WHATEVER THE INPUT: true; the input reads as it did. -/
def fnExactEntriesOfSpec : ChangeSpec := { name := "fnExactEntriesOf", vars := ["loop.example/g00817/impl.numberFields"], fn := fun _ => fun
  | [d1, d2, g1] => { results := [.lit (.bool true)], args := [d1, d2], vars := [g1] }
  | _ => none }
def fnExactEntriesOfRow : OpenClaim := { program := "ytbbnginolidedaagreatdoor", sum := "393c64913019808675a9e213f1f9d7cd99fc6109d66f141ea021f1ceb0fd8cdc", func := "loop.example/g00817/laws.FnExactEntriesOf", spec := "fnExactEntriesOf", inPlace := ["internal/bytealg.IndexByteString", "internal/bytealg.IndexString", "internal/abi.NoEscape", "internal/bytealg.MakeNoZero"], unfollowed := true, recurses := true, named := ["loop.example/g00817/impl.numberFields", "unicode/utf8.first", "unicode/utf8.acceptRanges", "internal/bytealg.MaxLen"], apart := false, laid := [("unicode/utf8.acceptRanges", laid_unicode_utf8_acceptRanges), ("loop.example/g00817/impl.numberFields", laid_loop_example_g00817_impl_numberFields), ("unicode/utf8.first", laid_unicode_utf8_first)] }
def FnExactEntriesOfSaid : Prop := fnExactEntriesOfRow.holds Tryz.pinned (OpenSpec.ofChange fnExactEntriesOfSpec)

/-- ITS FALSE NEIGHBOUR: 'it returns false'. Refute it at one input. -/
def fnExactEntriesOfWrong : ChangeSpec := { name := "fnExactEntriesOf", vars := ["loop.example/g00817/impl.numberFields"], fn := fun _ => fun
  | [d1, d2, g1] => { results := [.lit (.bool false)], args := [d1, d2], vars := [g1] }
  | _ => none }
def FnExactEntriesOfWrongFalsely : Prop := fnExactEntriesOfRow.holds Tryz.pinned (OpenSpec.ofChange fnExactEntriesOfWrong)

/-- 'laws.FnExactFindEntry': WHATEVER THE INPUT: true; the input reads as it did. -/
def fnExactFindEntrySpec : ChangeSpec := { name := "fnExactFindEntry", vars := ["loop.example/g00817/impl.numberFields"], fn := fun _ => fun
  | [d1, d2, d3, g1] => { results := [.lit (.bool true)], args := [d1, d2, d3], vars := [g1] }
  | _ => none }
def fnExactFindEntryRow : OpenClaim := { program := "ytbbnginolidedaagreatdoor", sum := "393c64913019808675a9e213f1f9d7cd99fc6109d66f141ea021f1ceb0fd8cdc", func := "loop.example/g00817/laws.FnExactFindEntry", spec := "fnExactFindEntry", inPlace := ["internal/bytealg.IndexByteString", "internal/bytealg.IndexString", "internal/abi.NoEscape", "internal/bytealg.MakeNoZero"], unfollowed := true, recurses := true, named := ["loop.example/g00817/impl.numberFields", "unicode/utf8.first", "unicode/utf8.acceptRanges", "internal/bytealg.MaxLen"], apart := false, laid := [("unicode/utf8.acceptRanges", laid_unicode_utf8_acceptRanges), ("loop.example/g00817/impl.numberFields", laid_loop_example_g00817_impl_numberFields), ("unicode/utf8.first", laid_unicode_utf8_first)] }
def FnExactFindEntrySaid : Prop := fnExactFindEntryRow.holds Tryz.pinned (OpenSpec.ofChange fnExactFindEntrySpec)

/-- ITS FALSE NEIGHBOUR: 'it returns false'. Refute it at one input. -/
def fnExactFindEntryWrong : ChangeSpec := { name := "fnExactFindEntry", vars := ["loop.example/g00817/impl.numberFields"], fn := fun _ => fun
  | [d1, d2, d3, g1] => { results := [.lit (.bool false)], args := [d1, d2, d3], vars := [g1] }
  | _ => none }
def FnExactFindEntryWrongFalsely : Prop := fnExactFindEntryRow.holds Tryz.pinned (OpenSpec.ofChange fnExactFindEntryWrong)

/-- 'laws.FnExactAddEntry': WHATEVER THE INPUT: true; the input reads as it did. -/
def fnExactAddEntrySpec : ChangeSpec := { name := "fnExactAddEntry", vars := ["loop.example/g00817/impl.numberFields"], fn := fun _ => fun
  | [d1, d2, d3, d4, g1] => { results := [.lit (.bool true)], args := [d1, d2, d3, d4], vars := [g1] }
  | _ => none }
def fnExactAddEntryRow : OpenClaim := { program := "ytbbnginolidedaagreatdoor", sum := "393c64913019808675a9e213f1f9d7cd99fc6109d66f141ea021f1ceb0fd8cdc", func := "loop.example/g00817/laws.FnExactAddEntry", spec := "fnExactAddEntry", inPlace := ["internal/bytealg.IndexByteString", "internal/bytealg.IndexString", "internal/abi.NoEscape", "internal/bytealg.MakeNoZero"], unfollowed := true, recurses := true, named := ["loop.example/g00817/impl.numberFields", "unicode/utf8.first", "unicode/utf8.acceptRanges", "internal/bytealg.MaxLen"], apart := false, laid := [("unicode/utf8.acceptRanges", laid_unicode_utf8_acceptRanges), ("loop.example/g00817/impl.numberFields", laid_loop_example_g00817_impl_numberFields), ("unicode/utf8.first", laid_unicode_utf8_first)] }
def FnExactAddEntrySaid : Prop := fnExactAddEntryRow.holds Tryz.pinned (OpenSpec.ofChange fnExactAddEntrySpec)

/-- ITS FALSE NEIGHBOUR: 'it returns false'. Refute it at one input. -/
def fnExactAddEntryWrong : ChangeSpec := { name := "fnExactAddEntry", vars := ["loop.example/g00817/impl.numberFields"], fn := fun _ => fun
  | [d1, d2, d3, d4, g1] => { results := [.lit (.bool false)], args := [d1, d2, d3, d4], vars := [g1] }
  | _ => none }
def FnExactAddEntryWrongFalsely : Prop := fnExactAddEntryRow.holds Tryz.pinned (OpenSpec.ofChange fnExactAddEntryWrong)

/-- 'laws.FnExactRemoveEntry': WHATEVER THE INPUT: true; the input reads as it did. -/
def fnExactRemoveEntrySpec : ChangeSpec := { name := "fnExactRemoveEntry", vars := ["loop.example/g00817/impl.numberFields"], fn := fun _ => fun
  | [d1, d2, d3, g1] => { results := [.lit (.bool true)], args := [d1, d2, d3], vars := [g1] }
  | _ => none }
def fnExactRemoveEntryRow : OpenClaim := { program := "ytbbnginolidedaagreatdoor", sum := "393c64913019808675a9e213f1f9d7cd99fc6109d66f141ea021f1ceb0fd8cdc", func := "loop.example/g00817/laws.FnExactRemoveEntry", spec := "fnExactRemoveEntry", inPlace := ["internal/bytealg.IndexByteString", "internal/bytealg.IndexString", "internal/abi.NoEscape", "internal/bytealg.MakeNoZero"], unfollowed := true, recurses := true, named := ["loop.example/g00817/impl.numberFields", "unicode/utf8.first", "unicode/utf8.acceptRanges", "internal/bytealg.MaxLen"], apart := false, laid := [("unicode/utf8.acceptRanges", laid_unicode_utf8_acceptRanges), ("loop.example/g00817/impl.numberFields", laid_loop_example_g00817_impl_numberFields), ("unicode/utf8.first", laid_unicode_utf8_first)] }
def FnExactRemoveEntrySaid : Prop := fnExactRemoveEntryRow.holds Tryz.pinned (OpenSpec.ofChange fnExactRemoveEntrySpec)

/-- ITS FALSE NEIGHBOUR: 'it returns false'. Refute it at one input. -/
def fnExactRemoveEntryWrong : ChangeSpec := { name := "fnExactRemoveEntry", vars := ["loop.example/g00817/impl.numberFields"], fn := fun _ => fun
  | [d1, d2, d3, g1] => { results := [.lit (.bool false)], args := [d1, d2, d3], vars := [g1] }
  | _ => none }
def FnExactRemoveEntryWrongFalsely : Prop := fnExactRemoveEntryRow.holds Tryz.pinned (OpenSpec.ofChange fnExactRemoveEntryWrong)

/-- 'laws.FnExactParentOf': WHATEVER THE INPUT: true; the input reads as it did. -/
def fnExactParentOfSpec : ChangeSpec := { name := "fnExactParentOf", vars := ["loop.example/g00817/impl.numberFields"], fn := fun _ => fun
  | [d1, d2, g1] => { results := [.lit (.bool true)], args := [d1, d2], vars := [g1] }
  | _ => none }
def fnExactParentOfRow : OpenClaim := { program := "ytbbnginolidedaagreatdoor", sum := "393c64913019808675a9e213f1f9d7cd99fc6109d66f141ea021f1ceb0fd8cdc", func := "loop.example/g00817/laws.FnExactParentOf", spec := "fnExactParentOf", inPlace := ["internal/bytealg.IndexByteString", "internal/bytealg.IndexString", "internal/abi.NoEscape", "internal/bytealg.MakeNoZero"], unfollowed := true, recurses := true, named := ["loop.example/g00817/impl.numberFields", "unicode/utf8.first", "unicode/utf8.acceptRanges", "internal/bytealg.MaxLen"], apart := false, laid := [("unicode/utf8.acceptRanges", laid_unicode_utf8_acceptRanges), ("loop.example/g00817/impl.numberFields", laid_loop_example_g00817_impl_numberFields), ("unicode/utf8.first", laid_unicode_utf8_first)] }
def FnExactParentOfSaid : Prop := fnExactParentOfRow.holds Tryz.pinned (OpenSpec.ofChange fnExactParentOfSpec)

/-- ITS FALSE NEIGHBOUR: 'it returns false'. Refute it at one input. -/
def fnExactParentOfWrong : ChangeSpec := { name := "fnExactParentOf", vars := ["loop.example/g00817/impl.numberFields"], fn := fun _ => fun
  | [d1, d2, g1] => { results := [.lit (.bool false)], args := [d1, d2], vars := [g1] }
  | _ => none }
def FnExactParentOfWrongFalsely : Prop := fnExactParentOfRow.holds Tryz.pinned (OpenSpec.ofChange fnExactParentOfWrong)

/- THE SECOND FORM. 'bulk': how many values and letters a reading holds, each counted each time it is reached (what is shared counts as often as it is met; a slice's spare places count too). A statement '..UptoSaid' is the law's where the arguments, and the package variables that the reading takes, are together of bulk at most 1048576: NARROWER than '..Said'. Prove '..Said' where nothing that the law and all that it calls make is longer than what came in: it says more and counts as full. Else prove '..UptoSaid'. A law counts once. -/
mutual
def uptoBulk {H : Type} : DataW H → Nat
  | .lit (.string bytes) => bytes.length + 1
  | .lit _ => 1
  | .nil => 1
  | .ptr d => uptoBulk d + 1
  | .slice elems spare => uptoBulkAll elems + uptoBulkAll spare + 1
  | .agg parts => uptoBulkAll parts + 1
  | .iface _ d => uptoBulk d + 1
  | .map entries => uptoBulkEntries entries + 1
  | .held _ => 1
def uptoBulkAll {H : Type} : List (DataW H) → Nat
  | [] => 0
  | d :: r => uptoBulk d + uptoBulkAll r
def uptoBulkEntries {H : Type} : List (Lit × DataW H) → Nat
  | [] => 0
  | x :: r => uptoBulkEntry x + uptoBulkEntries r
def uptoBulkEntry {H : Type} : Lit × DataW H → Nat
  | (.string bytes, d) => bytes.length + uptoBulk d + 1
  | (_, d) => uptoBulk d + 1
 end
def uptoSmall : (H : Type) → List (DataW H) → Bool := fun _ ds => decide (uptoBulkAll ds ≤ 1048576)
def OpenSpec.upto (s : _root_.Go.ChangeSpec) : _root_.Go.OpenSpec := { _root_.Go.OpenSpec.ofChange s with cond := some uptoSmall }

/-- 'laws.FnContent', WHERE WHAT IT READS IS OF BULK AT MOST 1048576: true; the input reads as it did. -/
def fnContentUptoRow : OpenClaim := { program := "ytbbnginolidedaagreatdoor", sum := "393c64913019808675a9e213f1f9d7cd99fc6109d66f141ea021f1ceb0fd8cdc", func := "loop.example/g00817/laws.FnContent", spec := "fnContent", inPlace := ["internal/bytealg.IndexByteString", "internal/bytealg.IndexString", "internal/abi.NoEscape", "internal/bytealg.MakeNoZero"], unfollowed := true, recurses := true, named := ["loop.example/g00817/impl.numberFields", "unicode/utf8.first", "unicode/utf8.acceptRanges", "internal/bytealg.MaxLen"], apart := false, laid := [("unicode/utf8.acceptRanges", laid_unicode_utf8_acceptRanges), ("loop.example/g00817/impl.numberFields", laid_loop_example_g00817_impl_numberFields), ("unicode/utf8.first", laid_unicode_utf8_first)], narrowed := true }
def FnContentUptoSaid : Prop := fnContentUptoRow.holds Tryz.pinned (OpenSpec.upto fnContentSpec)

/-- 'laws.FnResize', WHERE WHAT IT READS IS OF BULK AT MOST 1048576: true; the input reads as it did. -/
def fnResizeUptoRow : OpenClaim := { program := "ytbbnginolidedaagreatdoor", sum := "393c64913019808675a9e213f1f9d7cd99fc6109d66f141ea021f1ceb0fd8cdc", func := "loop.example/g00817/laws.FnResize", spec := "fnResize", inPlace := ["internal/bytealg.IndexByteString", "internal/bytealg.IndexString", "internal/abi.NoEscape", "internal/bytealg.MakeNoZero"], named := ["loop.example/g00817/impl.numberFields", "unicode/utf8.first", "unicode/utf8.acceptRanges", "internal/bytealg.MaxLen"], apart := false, laid := [("unicode/utf8.acceptRanges", laid_unicode_utf8_acceptRanges), ("loop.example/g00817/impl.numberFields", laid_loop_example_g00817_impl_numberFields), ("unicode/utf8.first", laid_unicode_utf8_first)], narrowed := true }
def FnResizeUptoSaid : Prop := fnResizeUptoRow.holds Tryz.pinned (OpenSpec.upto fnResizeSpec)

/-- 'laws.FnMoveOwner', WHERE WHAT IT READS IS OF BULK AT MOST 1048576: true; the input reads as it did. -/
def fnMoveOwnerUptoRow : OpenClaim := { program := "ytbbnginolidedaagreatdoor", sum := "393c64913019808675a9e213f1f9d7cd99fc6109d66f141ea021f1ceb0fd8cdc", func := "loop.example/g00817/laws.FnMoveOwner", spec := "fnMoveOwner", inPlace := ["internal/bytealg.IndexByteString", "internal/bytealg.IndexString", "internal/abi.NoEscape", "internal/bytealg.MakeNoZero"], unfollowed := true, recurses := true, named := ["loop.example/g00817/impl.numberFields", "unicode/utf8.first", "unicode/utf8.acceptRanges", "internal/bytealg.MaxLen"], apart := false, laid := [("unicode/utf8.acceptRanges", laid_unicode_utf8_acceptRanges), ("loop.example/g00817/impl.numberFields", laid_loop_example_g00817_impl_numberFields), ("unicode/utf8.first", laid_unicode_utf8_first)], narrowed := true }
def FnMoveOwnerUptoSaid : Prop := fnMoveOwnerUptoRow.holds Tryz.pinned (OpenSpec.upto fnMoveOwnerSpec)

/-- 'laws.FnExactWriteBytes', WHERE WHAT IT READS IS OF BULK AT MOST 1048576: true; the input reads as it did. -/
def fnExactWriteBytesUptoRow : OpenClaim := { program := "ytbbnginolidedaagreatdoor", sum := "393c64913019808675a9e213f1f9d7cd99fc6109d66f141ea021f1ceb0fd8cdc", func := "loop.example/g00817/laws.FnExactWriteBytes", spec := "fnExactWriteBytes", inPlace := ["internal/bytealg.IndexByteString", "internal/bytealg.IndexString", "internal/abi.NoEscape", "internal/bytealg.MakeNoZero"], unfollowed := true, recurses := true, named := ["loop.example/g00817/impl.numberFields", "unicode/utf8.first", "unicode/utf8.acceptRanges", "internal/bytealg.MaxLen"], apart := false, laid := [("unicode/utf8.acceptRanges", laid_unicode_utf8_acceptRanges), ("loop.example/g00817/impl.numberFields", laid_loop_example_g00817_impl_numberFields), ("unicode/utf8.first", laid_unicode_utf8_first)], narrowed := true }
def FnExactWriteBytesUptoSaid : Prop := fnExactWriteBytesUptoRow.holds Tryz.pinned (OpenSpec.upto fnExactWriteBytesSpec)

/-- 'laws.FnExactMoveOwner', WHERE WHAT IT READS IS OF BULK AT MOST 1048576: true; the input reads as it did. -/
def fnExactMoveOwnerUptoRow : OpenClaim := { program := "ytbbnginolidedaagreatdoor", sum := "393c64913019808675a9e213f1f9d7cd99fc6109d66f141ea021f1ceb0fd8cdc", func := "loop.example/g00817/laws.FnExactMoveOwner", spec := "fnExactMoveOwner", inPlace := ["internal/bytealg.IndexByteString", "internal/bytealg.IndexString", "internal/abi.NoEscape", "internal/bytealg.MakeNoZero"], unfollowed := true, recurses := true, named := ["loop.example/g00817/impl.numberFields", "unicode/utf8.first", "unicode/utf8.acceptRanges", "internal/bytealg.MaxLen"], apart := false, laid := [("unicode/utf8.acceptRanges", laid_unicode_utf8_acceptRanges), ("loop.example/g00817/impl.numberFields", laid_loop_example_g00817_impl_numberFields), ("unicode/utf8.first", laid_unicode_utf8_first)], narrowed := true }
def FnExactMoveOwnerUptoSaid : Prop := fnExactMoveOwnerUptoRow.holds Tryz.pinned (OpenSpec.upto fnExactMoveOwnerSpec)

/-- 'laws.FnEntries', WHERE WHAT IT READS IS OF BULK AT MOST 1048576: true; the input reads as it did. -/
def fnEntriesUptoRow : OpenClaim := { program := "ytbbnginolidedaagreatdoor", sum := "393c64913019808675a9e213f1f9d7cd99fc6109d66f141ea021f1ceb0fd8cdc", func := "loop.example/g00817/laws.FnEntries", spec := "fnEntries", inPlace := ["internal/bytealg.IndexByteString", "internal/bytealg.IndexString", "internal/abi.NoEscape", "internal/bytealg.MakeNoZero"], unfollowed := true, recurses := true, named := ["internal/strconv.uint64pow10", "math/bits.deBruijn32tab", "math/bits.deBruijn64tab", "loop.example/g00817/impl.numberFields", "unicode/utf8.first", "unicode/utf8.acceptRanges", "internal/bytealg.MaxLen"], apart := false, laid := [("math/bits.deBruijn32tab", laid_math_bits_deBruijn32tab), ("math/bits.deBruijn64tab", laid_math_bits_deBruijn64tab), ("internal/strconv.uint64pow10", laid_internal_strconv_uint64pow10), ("unicode/utf8.acceptRanges", laid_unicode_utf8_acceptRanges), ("loop.example/g00817/impl.numberFields", laid_loop_example_g00817_impl_numberFields), ("unicode/utf8.first", laid_unicode_utf8_first)], narrowed := true }
def FnEntriesUptoSaid : Prop := fnEntriesUptoRow.holds Tryz.pinned (OpenSpec.upto fnEntriesSpec)

/-- 'laws.FnExactEntriesOf', WHERE WHAT IT READS IS OF BULK AT MOST 1048576: true; the input reads as it did. -/
def fnExactEntriesOfUptoRow : OpenClaim := { program := "ytbbnginolidedaagreatdoor", sum := "393c64913019808675a9e213f1f9d7cd99fc6109d66f141ea021f1ceb0fd8cdc", func := "loop.example/g00817/laws.FnExactEntriesOf", spec := "fnExactEntriesOf", inPlace := ["internal/bytealg.IndexByteString", "internal/bytealg.IndexString", "internal/abi.NoEscape", "internal/bytealg.MakeNoZero"], unfollowed := true, recurses := true, named := ["loop.example/g00817/impl.numberFields", "unicode/utf8.first", "unicode/utf8.acceptRanges", "internal/bytealg.MaxLen"], apart := false, laid := [("unicode/utf8.acceptRanges", laid_unicode_utf8_acceptRanges), ("loop.example/g00817/impl.numberFields", laid_loop_example_g00817_impl_numberFields), ("unicode/utf8.first", laid_unicode_utf8_first)], narrowed := true }
def FnExactEntriesOfUptoSaid : Prop := fnExactEntriesOfUptoRow.holds Tryz.pinned (OpenSpec.upto fnExactEntriesOfSpec)

/-- 'laws.FnExactFindEntry', WHERE WHAT IT READS IS OF BULK AT MOST 1048576: true; the input reads as it did. -/
def fnExactFindEntryUptoRow : OpenClaim := { program := "ytbbnginolidedaagreatdoor", sum := "393c64913019808675a9e213f1f9d7cd99fc6109d66f141ea021f1ceb0fd8cdc", func := "loop.example/g00817/laws.FnExactFindEntry", spec := "fnExactFindEntry", inPlace := ["internal/bytealg.IndexByteString", "internal/bytealg.IndexString", "internal/abi.NoEscape", "internal/bytealg.MakeNoZero"], unfollowed := true, recurses := true, named := ["loop.example/g00817/impl.numberFields", "unicode/utf8.first", "unicode/utf8.acceptRanges", "internal/bytealg.MaxLen"], apart := false, laid := [("unicode/utf8.acceptRanges", laid_unicode_utf8_acceptRanges), ("loop.example/g00817/impl.numberFields", laid_loop_example_g00817_impl_numberFields), ("unicode/utf8.first", laid_unicode_utf8_first)], narrowed := true }
def FnExactFindEntryUptoSaid : Prop := fnExactFindEntryUptoRow.holds Tryz.pinned (OpenSpec.upto fnExactFindEntrySpec)

/-- 'laws.FnExactAddEntry', WHERE WHAT IT READS IS OF BULK AT MOST 1048576: true; the input reads as it did. -/
def fnExactAddEntryUptoRow : OpenClaim := { program := "ytbbnginolidedaagreatdoor", sum := "393c64913019808675a9e213f1f9d7cd99fc6109d66f141ea021f1ceb0fd8cdc", func := "loop.example/g00817/laws.FnExactAddEntry", spec := "fnExactAddEntry", inPlace := ["internal/bytealg.IndexByteString", "internal/bytealg.IndexString", "internal/abi.NoEscape", "internal/bytealg.MakeNoZero"], unfollowed := true, recurses := true, named := ["loop.example/g00817/impl.numberFields", "unicode/utf8.first", "unicode/utf8.acceptRanges", "internal/bytealg.MaxLen"], apart := false, laid := [("unicode/utf8.acceptRanges", laid_unicode_utf8_acceptRanges), ("loop.example/g00817/impl.numberFields", laid_loop_example_g00817_impl_numberFields), ("unicode/utf8.first", laid_unicode_utf8_first)], narrowed := true }
def FnExactAddEntryUptoSaid : Prop := fnExactAddEntryUptoRow.holds Tryz.pinned (OpenSpec.upto fnExactAddEntrySpec)

/-- 'laws.FnExactRemoveEntry', WHERE WHAT IT READS IS OF BULK AT MOST 1048576: true; the input reads as it did. -/
def fnExactRemoveEntryUptoRow : OpenClaim := { program := "ytbbnginolidedaagreatdoor", sum := "393c64913019808675a9e213f1f9d7cd99fc6109d66f141ea021f1ceb0fd8cdc", func := "loop.example/g00817/laws.FnExactRemoveEntry", spec := "fnExactRemoveEntry", inPlace := ["internal/bytealg.IndexByteString", "internal/bytealg.IndexString", "internal/abi.NoEscape", "internal/bytealg.MakeNoZero"], unfollowed := true, recurses := true, named := ["loop.example/g00817/impl.numberFields", "unicode/utf8.first", "unicode/utf8.acceptRanges", "internal/bytealg.MaxLen"], apart := false, laid := [("unicode/utf8.acceptRanges", laid_unicode_utf8_acceptRanges), ("loop.example/g00817/impl.numberFields", laid_loop_example_g00817_impl_numberFields), ("unicode/utf8.first", laid_unicode_utf8_first)], narrowed := true }
def FnExactRemoveEntryUptoSaid : Prop := fnExactRemoveEntryUptoRow.holds Tryz.pinned (OpenSpec.upto fnExactRemoveEntrySpec)

/-- 'laws.FnExactParentOf', WHERE WHAT IT READS IS OF BULK AT MOST 1048576: true; the input reads as it did. -/
def fnExactParentOfUptoRow : OpenClaim := { program := "ytbbnginolidedaagreatdoor", sum := "393c64913019808675a9e213f1f9d7cd99fc6109d66f141ea021f1ceb0fd8cdc", func := "loop.example/g00817/laws.FnExactParentOf", spec := "fnExactParentOf", inPlace := ["internal/bytealg.IndexByteString", "internal/bytealg.IndexString", "internal/abi.NoEscape", "internal/bytealg.MakeNoZero"], unfollowed := true, recurses := true, named := ["loop.example/g00817/impl.numberFields", "unicode/utf8.first", "unicode/utf8.acceptRanges", "internal/bytealg.MaxLen"], apart := false, laid := [("unicode/utf8.acceptRanges", laid_unicode_utf8_acceptRanges), ("loop.example/g00817/impl.numberFields", laid_loop_example_g00817_impl_numberFields), ("unicode/utf8.first", laid_unicode_utf8_first)], narrowed := true }
def FnExactParentOfUptoSaid : Prop := fnExactParentOfUptoRow.holds Tryz.pinned (OpenSpec.upto fnExactParentOfSpec)

end Rows
end Go.Proofs.YtbbnginolidedaaGreatDoor
