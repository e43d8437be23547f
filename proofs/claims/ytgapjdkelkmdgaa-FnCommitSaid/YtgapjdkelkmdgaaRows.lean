/-
  No cell of these rows narrows 'for every input' (looked for: loops, veiled, ifaces, maps, wideKeys, modest, calm, conditions, laid).
  DERIVED. THE GIVEN ROWS OF THIS SEAT. 10 by the template 'for every input the law returns true; each argument reads behind the call as it read before'; 0 by the template 'total and deterministic' (their statements: YtgapjdkelkmdgaaTotals.lean).
  GIVEN WITH THE SEED: the statements are not yours to turn. If you find one false, say at which input.
  Laid BY PROGRAM, IN A SANDBOX (cutbox-rows.mjs): the forced cells as the released guide's own fill.sh prints them over the translation a7ff441d900721d4… (all of the seat's roots in one cut). By AI agents, Wed Nov 11 2026. No macro, syntax, notation, axiom, sorry.
-/
import Derived.Test.YtgapjdkelkmdgaaChecked
import GoSem.Claim
import GoSem.ClaimJoined
import GoSem.ClaimMapViews
import Derived.JoinedTies
import Derived.KernelRfl
namespace Go.Proofs.Ytgapjdkelkmdgaa
/- THE CELL 'sum', in the pinned program and in every row, IS THE sha256 OF THE DUMP (.gsa) THAT YtgapjdkelkmdgaaProg.lean LOADS. Nothing in Lean hashes anything: it is a label: what it is worth is what the hold of that sum in a sandbox is worth. -/
noncomputable def Try.pinned : Pinned := { name := "ytgapjdkelkmdgaa", sum := "a7ff441d900721d4d48103132a227c120eff94c99bdc1084a1f590f1f40bf4fe", checked := Try.checked }
namespace Rows
def none {H : Type} : Left H := { results := [], args := [] }

/-- 'laws.FnJournal': WHATEVER THE INPUT: true; the input reads as it did. -/
def fnJournalSpec : ChangeSpec := { name := "fnJournal", fn := fun _ => fun
  | [d] => { results := [.lit (.bool true)], args := [d] }
  | _ => none }
def fnJournalRow : OpenClaim := { program := "ytgapjdkelkmdgaa", sum := "a7ff441d900721d4d48103132a227c120eff94c99bdc1084a1f590f1f40bf4fe", func := "loop.example/g00817/laws.FnJournal", spec := "fnJournal", inPlace := ["internal/abi.NoEscape", "internal/bytealg.MakeNoZero"], unfollowed := true, recurses := true, apart := false }
def FnJournalSaid : Prop := fnJournalRow.holds Try.pinned (OpenSpec.ofChange fnJournalSpec)

/-- ITS FALSE NEIGHBOUR: 'it returns false'. Refute it at one input. -/
def fnJournalWrong : ChangeSpec := { name := "fnJournal", fn := fun _ => fun
  | [d] => { results := [.lit (.bool false)], args := [d] }
  | _ => none }
def FnJournalWrongFalsely : Prop := fnJournalRow.holds Try.pinned (OpenSpec.ofChange fnJournalWrong)

/-- 'laws.FnCommit': WHATEVER THE INPUT: true; the input reads as it did. -/
def fnCommitSpec : ChangeSpec := { name := "fnCommit", fn := fun _ => fun
  | [d] => { results := [.lit (.bool true)], args := [d] }
  | _ => none }
def fnCommitRow : OpenClaim := { program := "ytgapjdkelkmdgaa", sum := "a7ff441d900721d4d48103132a227c120eff94c99bdc1084a1f590f1f40bf4fe", func := "loop.example/g00817/laws.FnCommit", spec := "fnCommit", inPlace := ["internal/abi.NoEscape", "internal/bytealg.MakeNoZero"], unfollowed := true, recurses := true, apart := false }
def FnCommitSaid : Prop := fnCommitRow.holds Try.pinned (OpenSpec.ofChange fnCommitSpec)

/-- ITS FALSE NEIGHBOUR: 'it returns false'. Refute it at one input. -/
def fnCommitWrong : ChangeSpec := { name := "fnCommit", fn := fun _ => fun
  | [d] => { results := [.lit (.bool false)], args := [d] }
  | _ => none }
def FnCommitWrongFalsely : Prop := fnCommitRow.holds Try.pinned (OpenSpec.ofChange fnCommitWrong)

/-- 'laws.FnExactIsTxn': WHATEVER THE INPUT: true; the input reads as it did. -/
def fnExactIsTxnSpec : ChangeSpec := { name := "fnExactIsTxn", fn := fun _ => fun
  | [d1, d2] => { results := [.lit (.bool true)], args := [d1, d2] }
  | _ => none }
def fnExactIsTxnRow : OpenClaim := { program := "ytgapjdkelkmdgaa", sum := "a7ff441d900721d4d48103132a227c120eff94c99bdc1084a1f590f1f40bf4fe", func := "loop.example/g00817/laws.FnExactIsTxn", spec := "fnExactIsTxn", apart := false }
def FnExactIsTxnSaid : Prop := fnExactIsTxnRow.holds Try.pinned (OpenSpec.ofChange fnExactIsTxnSpec)

/-- ITS FALSE NEIGHBOUR: 'it returns false'. Refute it at one input. -/
def fnExactIsTxnWrong : ChangeSpec := { name := "fnExactIsTxn", fn := fun _ => fun
  | [d1, d2] => { results := [.lit (.bool false)], args := [d1, d2] }
  | _ => none }
def FnExactIsTxnWrongFalsely : Prop := fnExactIsTxnRow.holds Try.pinned (OpenSpec.ofChange fnExactIsTxnWrong)

/-- 'laws.FnExactCommitSector': WHATEVER THE INPUT: true; the input reads as it did. -/
def fnExactCommitSectorSpec : ChangeSpec := { name := "fnExactCommitSector", fn := fun _ => fun
  | [d1, d2] => { results := [.lit (.bool true)], args := [d1, d2] }
  | _ => none }
def fnExactCommitSectorRow : OpenClaim := { program := "ytgapjdkelkmdgaa", sum := "a7ff441d900721d4d48103132a227c120eff94c99bdc1084a1f590f1f40bf4fe", func := "loop.example/g00817/laws.FnExactCommitSector", spec := "fnExactCommitSector", inPlace := ["internal/abi.NoEscape", "internal/bytealg.MakeNoZero"], unfollowed := true, recurses := true, apart := false }
def FnExactCommitSectorSaid : Prop := fnExactCommitSectorRow.holds Try.pinned (OpenSpec.ofChange fnExactCommitSectorSpec)

/-- ITS FALSE NEIGHBOUR: 'it returns false'. Refute it at one input. -/
def fnExactCommitSectorWrong : ChangeSpec := { name := "fnExactCommitSector", fn := fun _ => fun
  | [d1, d2] => { results := [.lit (.bool false)], args := [d1, d2] }
  | _ => none }
def FnExactCommitSectorWrongFalsely : Prop := fnExactCommitSectorRow.holds Try.pinned (OpenSpec.ofChange fnExactCommitSectorWrong)

/-- 'laws.FnExactJournalWrites': WHATEVER THE INPUT: true; the input reads as it did. -/
def fnExactJournalWritesSpec : ChangeSpec := { name := "fnExactJournalWrites", fn := fun _ => fun
  | [d] => { results := [.lit (.bool true)], args := [d] }
  | _ => none }
def fnExactJournalWritesRow : OpenClaim := { program := "ytgapjdkelkmdgaa", sum := "a7ff441d900721d4d48103132a227c120eff94c99bdc1084a1f590f1f40bf4fe", func := "loop.example/g00817/laws.FnExactJournalWrites", spec := "fnExactJournalWrites", inPlace := ["internal/abi.NoEscape", "internal/bytealg.MakeNoZero"], apart := false }
def FnExactJournalWritesSaid : Prop := fnExactJournalWritesRow.holds Try.pinned (OpenSpec.ofChange fnExactJournalWritesSpec)

/-- ITS FALSE NEIGHBOUR: 'it returns false'. Refute it at one input. -/
def fnExactJournalWritesWrong : ChangeSpec := { name := "fnExactJournalWrites", fn := fun _ => fun
  | [d] => { results := [.lit (.bool false)], args := [d] }
  | _ => none }
def FnExactJournalWritesWrongFalsely : Prop := fnExactJournalWritesRow.holds Try.pinned (OpenSpec.ofChange fnExactJournalWritesWrong)

/-- 'laws.FnExactReadJournal': WHATEVER THE INPUT: true; the input reads as it did. -/
def fnExactReadJournalSpec : ChangeSpec := { name := "fnExactReadJournal", fn := fun _ => fun
  | [d] => { results := [.lit (.bool true)], args := [d] }
  | _ => none }
def fnExactReadJournalRow : OpenClaim := { program := "ytgapjdkelkmdgaa", sum := "a7ff441d900721d4d48103132a227c120eff94c99bdc1084a1f590f1f40bf4fe", func := "loop.example/g00817/laws.FnExactReadJournal", spec := "fnExactReadJournal", inPlace := ["internal/abi.NoEscape", "internal/bytealg.MakeNoZero"], unfollowed := true, recurses := true, apart := false }
def FnExactReadJournalSaid : Prop := fnExactReadJournalRow.holds Try.pinned (OpenSpec.ofChange fnExactReadJournalSpec)

/-- ITS FALSE NEIGHBOUR: 'it returns false'. Refute it at one input. -/
def fnExactReadJournalWrong : ChangeSpec := { name := "fnExactReadJournal", fn := fun _ => fun
  | [d] => { results := [.lit (.bool false)], args := [d] }
  | _ => none }
def FnExactReadJournalWrongFalsely : Prop := fnExactReadJournalRow.holds Try.pinned (OpenSpec.ofChange fnExactReadJournalWrong)

/-- 'laws.FnExactTxnSteps': WHATEVER THE INPUT: true; the input reads as it did. -/
def fnExactTxnStepsSpec : ChangeSpec := { name := "fnExactTxnSteps", fn := fun _ => fun
  | [d1, d2] => { results := [.lit (.bool true)], args := [d1, d2] }
  | _ => none }
def fnExactTxnStepsRow : OpenClaim := { program := "ytgapjdkelkmdgaa", sum := "a7ff441d900721d4d48103132a227c120eff94c99bdc1084a1f590f1f40bf4fe", func := "loop.example/g00817/laws.FnExactTxnSteps", spec := "fnExactTxnSteps", inPlace := ["internal/abi.NoEscape", "internal/bytealg.MakeNoZero"], unfollowed := true, recurses := true, apart := false }
def FnExactTxnStepsSaid : Prop := fnExactTxnStepsRow.holds Try.pinned (OpenSpec.ofChange fnExactTxnStepsSpec)

/-- ITS FALSE NEIGHBOUR: 'it returns false'. Refute it at one input. -/
def fnExactTxnStepsWrong : ChangeSpec := { name := "fnExactTxnSteps", fn := fun _ => fun
  | [d1, d2] => { results := [.lit (.bool false)], args := [d1, d2] }
  | _ => none }
def FnExactTxnStepsWrongFalsely : Prop := fnExactTxnStepsRow.holds Try.pinned (OpenSpec.ofChange fnExactTxnStepsWrong)

/-- 'laws.FnExactRunSteps': WHATEVER THE INPUT: true; the input reads as it did. -/
def fnExactRunStepsSpec : ChangeSpec := { name := "fnExactRunSteps", fn := fun _ => fun
  | [d1, d2, d3] => { results := [.lit (.bool true)], args := [d1, d2, d3] }
  | _ => none }
def fnExactRunStepsRow : OpenClaim := { program := "ytgapjdkelkmdgaa", sum := "a7ff441d900721d4d48103132a227c120eff94c99bdc1084a1f590f1f40bf4fe", func := "loop.example/g00817/laws.FnExactRunSteps", spec := "fnExactRunSteps", unfollowed := true, recurses := true, apart := false }
def FnExactRunStepsSaid : Prop := fnExactRunStepsRow.holds Try.pinned (OpenSpec.ofChange fnExactRunStepsSpec)

/-- ITS FALSE NEIGHBOUR: 'it returns false'. Refute it at one input. -/
def fnExactRunStepsWrong : ChangeSpec := { name := "fnExactRunSteps", fn := fun _ => fun
  | [d1, d2, d3] => { results := [.lit (.bool false)], args := [d1, d2, d3] }
  | _ => none }
def FnExactRunStepsWrongFalsely : Prop := fnExactRunStepsRow.holds Try.pinned (OpenSpec.ofChange fnExactRunStepsWrong)

/-- 'laws.FnExactRecoverySteps': WHATEVER THE INPUT: true; the input reads as it did. -/
def fnExactRecoveryStepsSpec : ChangeSpec := { name := "fnExactRecoverySteps", fn := fun _ => fun
  | [d] => { results := [.lit (.bool true)], args := [d] }
  | _ => none }
def fnExactRecoveryStepsRow : OpenClaim := { program := "ytgapjdkelkmdgaa", sum := "a7ff441d900721d4d48103132a227c120eff94c99bdc1084a1f590f1f40bf4fe", func := "loop.example/g00817/laws.FnExactRecoverySteps", spec := "fnExactRecoverySteps", inPlace := ["internal/abi.NoEscape", "internal/bytealg.MakeNoZero"], unfollowed := true, recurses := true, apart := false }
def FnExactRecoveryStepsSaid : Prop := fnExactRecoveryStepsRow.holds Try.pinned (OpenSpec.ofChange fnExactRecoveryStepsSpec)

/-- ITS FALSE NEIGHBOUR: 'it returns false'. Refute it at one input. -/
def fnExactRecoveryStepsWrong : ChangeSpec := { name := "fnExactRecoverySteps", fn := fun _ => fun
  | [d] => { results := [.lit (.bool false)], args := [d] }
  | _ => none }
def FnExactRecoveryStepsWrongFalsely : Prop := fnExactRecoveryStepsRow.holds Try.pinned (OpenSpec.ofChange fnExactRecoveryStepsWrong)

/-- 'laws.FnExactRecoverDisk': WHATEVER THE INPUT: true; the input reads as it did. -/
def fnExactRecoverDiskSpec : ChangeSpec := { name := "fnExactRecoverDisk", fn := fun _ => fun
  | [d] => { results := [.lit (.bool true)], args := [d] }
  | _ => none }
def fnExactRecoverDiskRow : OpenClaim := { program := "ytgapjdkelkmdgaa", sum := "a7ff441d900721d4d48103132a227c120eff94c99bdc1084a1f590f1f40bf4fe", func := "loop.example/g00817/laws.FnExactRecoverDisk", spec := "fnExactRecoverDisk", inPlace := ["internal/abi.NoEscape", "internal/bytealg.MakeNoZero"], unfollowed := true, recurses := true, apart := false }
def FnExactRecoverDiskSaid : Prop := fnExactRecoverDiskRow.holds Try.pinned (OpenSpec.ofChange fnExactRecoverDiskSpec)

/-- ITS FALSE NEIGHBOUR: 'it returns false'. Refute it at one input. -/
def fnExactRecoverDiskWrong : ChangeSpec := { name := "fnExactRecoverDisk", fn := fun _ => fun
  | [d] => { results := [.lit (.bool false)], args := [d] }
  | _ => none }
def FnExactRecoverDiskWrongFalsely : Prop := fnExactRecoverDiskRow.holds Try.pinned (OpenSpec.ofChange fnExactRecoverDiskWrong)

/- THE SECOND FORM. 'bulk': how many values and letters a reading holds, each counted each time it is reached (what is shared counts as often as it is met; a slice's spare places count too). A statement '..UptoSaid' is the law's where the arguments, and the package variables that the reading takes, are together of bulk at most 1048576: NARROWER than '..Said'. Prove '..Said' where nothing that the law and all that it calls make is longer than what came in: it says more and counts as full. Else prove '..UptoSaid'. A law counts once. -/
mutual
def uptoBulk {H : Type} : DataW H → Nat
  | .lit (.string bytes) => bytes.length + 1
  | .lit _ => 1
  | .nil => 1
  | .ptr d => uptoBulk d + 1
  | .slice elems spare => uptoBulkAll elems + uptoBulkAll spare + 1
  | .agg parts => uptoBulkAll parts + 1
  | .iface _ d => uptoBulk d + 1
  | .map entries => uptoBulkEntries entries + 1
  | .held _ => 1
def uptoBulkAll {H : Type} : List (DataW H) → Nat
  | [] => 0
  | d :: r => uptoBulk d + uptoBulkAll r
def uptoBulkEntries {H : Type} : List (Lit × DataW H) → Nat
  | [] => 0
  | x :: r => uptoBulkEntry x + uptoBulkEntries r
def uptoBulkEntry {H : Type} : Lit × DataW H → Nat
  | (.string bytes, d) => bytes.length + uptoBulk d + 1
  | (_, d) => uptoBulk d + 1
 end
def uptoSmall : (H : Type) → List (DataW H) → Bool := fun _ ds => decide (uptoBulkAll ds ≤ 1048576)
def OpenSpec.upto (s : _root_.Go.ChangeSpec) : _root_.Go.OpenSpec := { _root_.Go.OpenSpec.ofChange s with cond := some uptoSmall }

/-- 'laws.FnJournal', WHERE WHAT IT READS IS OF BULK AT MOST 1048576: true; the input reads as it did. -/
def fnJournalUptoRow : OpenClaim := { program := "ytgapjdkelkmdgaa", sum := "a7ff441d900721d4d48103132a227c120eff94c99bdc1084a1f590f1f40bf4fe", func := "loop.example/g00817/laws.FnJournal", spec := "fnJournal", inPlace := ["internal/abi.NoEscape", "internal/bytealg.MakeNoZero"], unfollowed := true, recurses := true, apart := false, narrowed := true }
def FnJournalUptoSaid : Prop := fnJournalUptoRow.holds Try.pinned (OpenSpec.upto fnJournalSpec)

/-- 'laws.FnCommit', WHERE WHAT IT READS IS OF BULK AT MOST 1048576: true; the input reads as it did. -/
def fnCommitUptoRow : OpenClaim := { program := "ytgapjdkelkmdgaa", sum := "a7ff441d900721d4d48103132a227c120eff94c99bdc1084a1f590f1f40bf4fe", func := "loop.example/g00817/laws.FnCommit", spec := "fnCommit", inPlace := ["internal/abi.NoEscape", "internal/bytealg.MakeNoZero"], unfollowed := true, recurses := true, apart := false, narrowed := true }
def FnCommitUptoSaid : Prop := fnCommitUptoRow.holds Try.pinned (OpenSpec.upto fnCommitSpec)

/-- 'laws.FnExactIsTxn', WHERE WHAT IT READS IS OF BULK AT MOST 1048576: true; the input reads as it did. -/
def fnExactIsTxnUptoRow : OpenClaim := { program := "ytgapjdkelkmdgaa", sum := "a7ff441d900721d4d48103132a227c120eff94c99bdc1084a1f590f1f40bf4fe", func := "loop.example/g00817/laws.FnExactIsTxn", spec := "fnExactIsTxn", apart := false, narrowed := true }
def FnExactIsTxnUptoSaid : Prop := fnExactIsTxnUptoRow.holds Try.pinned (OpenSpec.upto fnExactIsTxnSpec)

/-- 'laws.FnExactCommitSector', WHERE WHAT IT READS IS OF BULK AT MOST 1048576: true; the input reads as it did. -/
def fnExactCommitSectorUptoRow : OpenClaim := { program := "ytgapjdkelkmdgaa", sum := "a7ff441d900721d4d48103132a227c120eff94c99bdc1084a1f590f1f40bf4fe", func := "loop.example/g00817/laws.FnExactCommitSector", spec := "fnExactCommitSector", inPlace := ["internal/abi.NoEscape", "internal/bytealg.MakeNoZero"], unfollowed := true, recurses := true, apart := false, narrowed := true }
def FnExactCommitSectorUptoSaid : Prop := fnExactCommitSectorUptoRow.holds Try.pinned (OpenSpec.upto fnExactCommitSectorSpec)

/-- 'laws.FnExactJournalWrites', WHERE WHAT IT READS IS OF BULK AT MOST 1048576: true; the input reads as it did. -/
def fnExactJournalWritesUptoRow : OpenClaim := { program := "ytgapjdkelkmdgaa", sum := "a7ff441d900721d4d48103132a227c120eff94c99bdc1084a1f590f1f40bf4fe", func := "loop.example/g00817/laws.FnExactJournalWrites", spec := "fnExactJournalWrites", inPlace := ["internal/abi.NoEscape", "internal/bytealg.MakeNoZero"], apart := false, narrowed := true }
def FnExactJournalWritesUptoSaid : Prop := fnExactJournalWritesUptoRow.holds Try.pinned (OpenSpec.upto fnExactJournalWritesSpec)

/-- 'laws.FnExactReadJournal', WHERE WHAT IT READS IS OF BULK AT MOST 1048576: true; the input reads as it did. -/
def fnExactReadJournalUptoRow : OpenClaim := { program := "ytgapjdkelkmdgaa", sum := "a7ff441d900721d4d48103132a227c120eff94c99bdc1084a1f590f1f40bf4fe", func := "loop.example/g00817/laws.FnExactReadJournal", spec := "fnExactReadJournal", inPlace := ["internal/abi.NoEscape", "internal/bytealg.MakeNoZero"], unfollowed := true, recurses := true, apart := false, narrowed := true }
def FnExactReadJournalUptoSaid : Prop := fnExactReadJournalUptoRow.holds Try.pinned (OpenSpec.upto fnExactReadJournalSpec)

/-- 'laws.FnExactTxnSteps', WHERE WHAT IT READS IS OF BULK AT MOST 1048576: true; the input reads as it did. -/
def fnExactTxnStepsUptoRow : OpenClaim := { program := "ytgapjdkelkmdgaa", sum := "a7ff441d900721d4d48103132a227c120eff94c99bdc1084a1f590f1f40bf4fe", func := "loop.example/g00817/laws.FnExactTxnSteps", spec := "fnExactTxnSteps", inPlace := ["internal/abi.NoEscape", "internal/bytealg.MakeNoZero"], unfollowed := true, recurses := true, apart := false, narrowed := true }
def FnExactTxnStepsUptoSaid : Prop := fnExactTxnStepsUptoRow.holds Try.pinned (OpenSpec.upto fnExactTxnStepsSpec)

/-- 'laws.FnExactRunSteps', WHERE WHAT IT READS IS OF BULK AT MOST 1048576: true; the input reads as it did. -/
def fnExactRunStepsUptoRow : OpenClaim := { program := "ytgapjdkelkmdgaa", sum := "a7ff441d900721d4d48103132a227c120eff94c99bdc1084a1f590f1f40bf4fe", func := "loop.example/g00817/laws.FnExactRunSteps", spec := "fnExactRunSteps", unfollowed := true, recurses := true, apart := false, narrowed := true }
def FnExactRunStepsUptoSaid : Prop := fnExactRunStepsUptoRow.holds Try.pinned (OpenSpec.upto fnExactRunStepsSpec)

/-- 'laws.FnExactRecoverySteps', WHERE WHAT IT READS IS OF BULK AT MOST 1048576: true; the input reads as it did. -/
def fnExactRecoveryStepsUptoRow : OpenClaim := { program := "ytgapjdkelkmdgaa", sum := "a7ff441d900721d4d48103132a227c120eff94c99bdc1084a1f590f1f40bf4fe", func := "loop.example/g00817/laws.FnExactRecoverySteps", spec := "fnExactRecoverySteps", inPlace := ["internal/abi.NoEscape", "internal/bytealg.MakeNoZero"], unfollowed := true, recurses := true, apart := false, narrowed := true }
def FnExactRecoveryStepsUptoSaid : Prop := fnExactRecoveryStepsUptoRow.holds Try.pinned (OpenSpec.upto fnExactRecoveryStepsSpec)

/-- 'laws.FnExactRecoverDisk', WHERE WHAT IT READS IS OF BULK AT MOST 1048576: true; the input reads as it did. -/
def fnExactRecoverDiskUptoRow : OpenClaim := { program := "ytgapjdkelkmdgaa", sum := "a7ff441d900721d4d48103132a227c120eff94c99bdc1084a1f590f1f40bf4fe", func := "loop.example/g00817/laws.FnExactRecoverDisk", spec := "fnExactRecoverDisk", inPlace := ["internal/abi.NoEscape", "internal/bytealg.MakeNoZero"], unfollowed := true, recurses := true, apart := false, narrowed := true }
def FnExactRecoverDiskUptoSaid : Prop := fnExactRecoverDiskUptoRow.holds Try.pinned (OpenSpec.upto fnExactRecoverDiskSpec)

end Rows
end Go.Proofs.Ytgapjdkelkmdgaa
