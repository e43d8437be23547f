/-
  NARROWER THAN 'FOR EVERY INPUT', by the rows' own cells (each row's printed sentence says how): FnInodes: laid · FnExactIsInode: laid · FnExactPackInode: laid · FnExactUnpackInode: laid.
  DERIVED. THE GIVEN ROWS OF THIS SEAT. 4 by the template 'for every input the law returns true; each argument reads behind the call as it read before'; 0 by the template 'total and deterministic' (their statements: YthobdeidjagnhaaDoorTotals.lean).
  GIVEN WITH THE SEED: the statements are not yours to turn. If you find one false, say at which input.
  Laid BY PROGRAM, IN A SANDBOX (cutbox-rows.mjs): the forced cells as the released guide's own fill.sh prints them over the translation 46261d3192c15d0b… (all of the seat's roots in one cut). By AI agents, Wed Nov 11 2026. No macro, syntax, notation, axiom, sorry.
-/
import Derived.Test.YthobdeidjagnhaaDoorChecked
import GoSem.Claim
import GoSem.ClaimJoined
import GoSem.ClaimMapViews
import Derived.JoinedTies
import Derived.KernelRfl
namespace Go.Proofs.YthobdeidjagnhaaDoor
/- THE CELL 'sum', in the pinned program and in every row, IS THE sha256 OF THE DUMP (.gsa) THAT YthobdeidjagnhaaDoorProg.lean LOADS. Nothing in Lean hashes anything: it is a label: what it is worth is what the hold of that sum in a sandbox is worth. -/
noncomputable def Tryd.pinned : Pinned := { name := "ythobdeidjagnhaadoor", sum := "46261d3192c15d0bea8d47bdfd2016a9e5f100dbf75393a4e00bc5bd37cd142c", checked := Tryd.checked }
namespace Rows
def none {H : Type} : Left H := { results := [], args := [] }

/- WHAT THE LISTED PACKAGE-LEVEL VARIABLES READ AS WHEN THE CALL BEGINS. Each datum BY PROGRAM (the guide's laid-datum.mjs) off the statement by which the dump's own 'gosem.cut.vars' lays the variable. In a bare row this is a premise. The card (YthobdeidjagnhaaDoorCards.lean) ties it to the program's text. -/
def laid_loop_example_g00817_impl_numberFields {H : Type} : DataW H := .agg [.agg [.lit (.int .i64 1), .lit (.int .i64 2)], .agg [.lit (.int .i64 2), .lit (.int .i64 2047)], .agg [.lit (.int .i64 1), .lit (.int .i64 3)], .agg [.lit (.int .i64 1), .lit (.int .i64 3)], .agg [.lit (.int .i64 2), .lit (.int .i64 1000)], .agg [.lit (.int .i64 2), .lit (.int .i64 256)], .agg [.lit (.int .i64 4), .lit (.int .i64 1000000000)]]

/-- 'laws.FnInodes': WHATEVER THE INPUT: true; the input reads as it did. -/
def fnInodesSpec : ChangeSpec := { name := "fnInodes", vars := ["loop.example/g00817/impl.numberFields"], fn := fun _ => fun
  | [d, g1] => { results := [.lit (.bool true)], args := [d], vars := [g1] }
  | _ => none }
def fnInodesRow : OpenClaim := { program := "ythobdeidjagnhaadoor", sum := "46261d3192c15d0bea8d47bdfd2016a9e5f100dbf75393a4e00bc5bd37cd142c", func := "loop.example/g00817/laws.FnInodes", spec := "fnInodes", inPlace := ["internal/abi.NoEscape", "internal/bytealg.MakeNoZero"], named := ["loop.example/g00817/impl.numberFields"], apart := false, laid := [("loop.example/g00817/impl.numberFields", laid_loop_example_g00817_impl_numberFields)] }
def FnInodesSaid : Prop := fnInodesRow.holds Tryd.pinned (OpenSpec.ofChange fnInodesSpec)

/-- ITS FALSE NEIGHBOUR: 'it returns false'. Refute it at one input. -/
def fnInodesWrong : ChangeSpec := { name := "fnInodes", vars := ["loop.example/g00817/impl.numberFields"], fn := fun _ => fun
  | [d, g1] => { results := [.lit (.bool false)], args := [d], vars := [g1] }
  | _ => none }
def FnInodesWrongFalsely : Prop := fnInodesRow.holds Tryd.pinned (OpenSpec.ofChange fnInodesWrong)

/-- 'laws.FnExactIsInode': WHATEVER THE INPUT: true; the input reads as it did. -/
def fnExactIsInodeSpec : ChangeSpec := { name := "fnExactIsInode", vars := ["loop.example/g00817/impl.numberFields"], fn := fun _ => fun
  | [d, g1] => { results := [.lit (.bool true)], args := [d], vars := [g1] }
  | _ => none }
def fnExactIsInodeRow : OpenClaim := { program := "ythobdeidjagnhaadoor", sum := "46261d3192c15d0bea8d47bdfd2016a9e5f100dbf75393a4e00bc5bd37cd142c", func := "loop.example/g00817/laws.FnExactIsInode", spec := "fnExactIsInode", named := ["loop.example/g00817/impl.numberFields"], apart := false, laid := [("loop.example/g00817/impl.numberFields", laid_loop_example_g00817_impl_numberFields)] }
def FnExactIsInodeSaid : Prop := fnExactIsInodeRow.holds Tryd.pinned (OpenSpec.ofChange fnExactIsInodeSpec)

/-- ITS FALSE NEIGHBOUR: 'it returns false'. Refute it at one input. -/
def fnExactIsInodeWrong : ChangeSpec := { name := "fnExactIsInode", vars := ["loop.example/g00817/impl.numberFields"], fn := fun _ => fun
  | [d, g1] => { results := [.lit (.bool false)], args := [d], vars := [g1] }
  | _ => none }
def FnExactIsInodeWrongFalsely : Prop := fnExactIsInodeRow.holds Tryd.pinned (OpenSpec.ofChange fnExactIsInodeWrong)

/-- 'laws.FnExactPackInode': WHATEVER THE INPUT: true; the input reads as it did. -/
def fnExactPackInodeSpec : ChangeSpec := { name := "fnExactPackInode", vars := ["loop.example/g00817/impl.numberFields"], fn := fun _ => fun
  | [d, g1] => { results := [.lit (.bool true)], args := [d], vars := [g1] }
  | _ => none }
def fnExactPackInodeRow : OpenClaim := { program := "ythobdeidjagnhaadoor", sum := "46261d3192c15d0bea8d47bdfd2016a9e5f100dbf75393a4e00bc5bd37cd142c", func := "loop.example/g00817/laws.FnExactPackInode", spec := "fnExactPackInode", inPlace := ["internal/abi.NoEscape", "internal/bytealg.MakeNoZero"], named := ["loop.example/g00817/impl.numberFields"], apart := false, laid := [("loop.example/g00817/impl.numberFields", laid_loop_example_g00817_impl_numberFields)] }
def FnExactPackInodeSaid : Prop := fnExactPackInodeRow.holds Tryd.pinned (OpenSpec.ofChange fnExactPackInodeSpec)

/-- ITS FALSE NEIGHBOUR: 'it returns false'. Refute it at one input. -/
def fnExactPackInodeWrong : ChangeSpec := { name := "fnExactPackInode", vars := ["loop.example/g00817/impl.numberFields"], fn := fun _ => fun
  | [d, g1] => { results := [.lit (.bool false)], args := [d], vars := [g1] }
  | _ => none }
def FnExactPackInodeWrongFalsely : Prop := fnExactPackInodeRow.holds Tryd.pinned (OpenSpec.ofChange fnExactPackInodeWrong)

/-- 'laws.FnExactUnpackInode': WHATEVER THE INPUT: true; the input reads as it did. -/
def fnExactUnpackInodeSpec : ChangeSpec := { name := "fnExactUnpackInode", vars := ["loop.example/g00817/impl.numberFields"], fn := fun _ => fun
  | [d, g1] => { results := [.lit (.bool true)], args := [d], vars := [g1] }
  | _ => none }
def fnExactUnpackInodeRow : OpenClaim := { program := "ythobdeidjagnhaadoor", sum := "46261d3192c15d0bea8d47bdfd2016a9e5f100dbf75393a4e00bc5bd37cd142c", func := "loop.example/g00817/laws.FnExactUnpackInode", spec := "fnExactUnpackInode", inPlace := ["internal/abi.NoEscape", "internal/bytealg.MakeNoZero"], named := ["loop.example/g00817/impl.numberFields"], apart := false, laid := [("loop.example/g00817/impl.numberFields", laid_loop_example_g00817_impl_numberFields)] }
def FnExactUnpackInodeSaid : Prop := fnExactUnpackInodeRow.holds Tryd.pinned (OpenSpec.ofChange fnExactUnpackInodeSpec)

/-- ITS FALSE NEIGHBOUR: 'it returns false'. Refute it at one input. -/
def fnExactUnpackInodeWrong : ChangeSpec := { name := "fnExactUnpackInode", vars := ["loop.example/g00817/impl.numberFields"], fn := fun _ => fun
  | [d, g1] => { results := [.lit (.bool false)], args := [d], vars := [g1] }
  | _ => none }
def FnExactUnpackInodeWrongFalsely : Prop := fnExactUnpackInodeRow.holds Tryd.pinned (OpenSpec.ofChange fnExactUnpackInodeWrong)

/- THE SECOND FORM. 'bulk': how many values and letters a reading holds, each counted each time it is reached (what is shared counts as often as it is met; a slice's spare places count too). A statement '..UptoSaid' is the law's where the arguments, and the package variables that the reading takes, are together of bulk at most 1048576: NARROWER than '..Said'. Prove '..Said' where nothing that the law and all that it calls make is longer than what came in: it says more and counts as full. Else prove '..UptoSaid'. A law counts once. -/
mutual
def uptoBulk {H : Type} : DataW H → Nat
  | .lit (.string bytes) => bytes.length + 1
  | .lit _ => 1
  | .nil => 1
  | .ptr d => uptoBulk d + 1
  | .slice elems spare => uptoBulkAll elems + uptoBulkAll spare + 1
  | .agg parts => uptoBulkAll parts + 1
  | .iface _ d => uptoBulk d + 1
  | .map entries => uptoBulkEntries entries + 1
  | .held _ => 1
def uptoBulkAll {H : Type} : List (DataW H) → Nat
  | [] => 0
  | d :: r => uptoBulk d + uptoBulkAll r
def uptoBulkEntries {H : Type} : List (Lit × DataW H) → Nat
  | [] => 0
  | x :: r => uptoBulkEntry x + uptoBulkEntries r
def uptoBulkEntry {H : Type} : Lit × DataW H → Nat
  | (.string bytes, d) => bytes.length + uptoBulk d + 1
  | (_, d) => uptoBulk d + 1
 end
def uptoSmall : (H : Type) → List (DataW H) → Bool := fun _ ds => decide (uptoBulkAll ds ≤ 1048576)
def OpenSpec.upto (s : _root_.Go.ChangeSpec) : _root_.Go.OpenSpec := { _root_.Go.OpenSpec.ofChange s with cond := some uptoSmall }

/-- 'laws.FnInodes', WHERE WHAT IT READS IS OF BULK AT MOST 1048576: true; the input reads as it did. -/
def fnInodesUptoRow : OpenClaim := { program := "ythobdeidjagnhaadoor", sum := "46261d3192c15d0bea8d47bdfd2016a9e5f100dbf75393a4e00bc5bd37cd142c", func := "loop.example/g00817/laws.FnInodes", spec := "fnInodes", inPlace := ["internal/abi.NoEscape", "internal/bytealg.MakeNoZero"], named := ["loop.example/g00817/impl.numberFields"], apart := false, laid := [("loop.example/g00817/impl.numberFields", laid_loop_example_g00817_impl_numberFields)], narrowed := true }
def FnInodesUptoSaid : Prop := fnInodesUptoRow.holds Tryd.pinned (OpenSpec.upto fnInodesSpec)

/-- 'laws.FnExactIsInode', WHERE WHAT IT READS IS OF BULK AT MOST 1048576: true; the input reads as it did. -/
def fnExactIsInodeUptoRow : OpenClaim := { program := "ythobdeidjagnhaadoor", sum := "46261d3192c15d0bea8d47bdfd2016a9e5f100dbf75393a4e00bc5bd37cd142c", func := "loop.example/g00817/laws.FnExactIsInode", spec := "fnExactIsInode", named := ["loop.example/g00817/impl.numberFields"], apart := false, laid := [("loop.example/g00817/impl.numberFields", laid_loop_example_g00817_impl_numberFields)], narrowed := true }
def FnExactIsInodeUptoSaid : Prop := fnExactIsInodeUptoRow.holds Tryd.pinned (OpenSpec.upto fnExactIsInodeSpec)

/-- 'laws.FnExactPackInode', WHERE WHAT IT READS IS OF BULK AT MOST 1048576: true; the input reads as it did. -/
def fnExactPackInodeUptoRow : OpenClaim := { program := "ythobdeidjagnhaadoor", sum := "46261d3192c15d0bea8d47bdfd2016a9e5f100dbf75393a4e00bc5bd37cd142c", func := "loop.example/g00817/laws.FnExactPackInode", spec := "fnExactPackInode", inPlace := ["internal/abi.NoEscape", "internal/bytealg.MakeNoZero"], named := ["loop.example/g00817/impl.numberFields"], apart := false, laid := [("loop.example/g00817/impl.numberFields", laid_loop_example_g00817_impl_numberFields)], narrowed := true }
def FnExactPackInodeUptoSaid : Prop := fnExactPackInodeUptoRow.holds Tryd.pinned (OpenSpec.upto fnExactPackInodeSpec)

/-- 'laws.FnExactUnpackInode', WHERE WHAT IT READS IS OF BULK AT MOST 1048576: true; the input reads as it did. -/
def fnExactUnpackInodeUptoRow : OpenClaim := { program := "ythobdeidjagnhaadoor", sum := "46261d3192c15d0bea8d47bdfd2016a9e5f100dbf75393a4e00bc5bd37cd142c", func := "loop.example/g00817/laws.FnExactUnpackInode", spec := "fnExactUnpackInode", inPlace := ["internal/abi.NoEscape", "internal/bytealg.MakeNoZero"], named := ["loop.example/g00817/impl.numberFields"], apart := false, laid := [("loop.example/g00817/impl.numberFields", laid_loop_example_g00817_impl_numberFields)], narrowed := true }
def FnExactUnpackInodeUptoSaid : Prop := fnExactUnpackInodeUptoRow.holds Tryd.pinned (OpenSpec.upto fnExactUnpackInodeSpec)

end Rows
end Go.Proofs.YthobdeidjagnhaaDoor
