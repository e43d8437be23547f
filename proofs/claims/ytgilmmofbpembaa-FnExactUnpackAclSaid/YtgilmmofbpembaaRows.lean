/-
  No cell of these rows narrows 'for every input' (looked for: loops, veiled, ifaces, maps, wideKeys, modest, calm, conditions, laid).
  DERIVED. THE GIVEN ROWS OF THIS SEAT. 5 by the template 'for every input the law returns true; each argument reads behind the call as it read before'; 0 by the template 'total and deterministic' (their statements: YtgilmmofbpembaaTotals.lean).
  GIVEN WITH THE SEED: the statements are not yours to turn. If you find one false, say at which input.
  Laid BY PROGRAM, IN A SANDBOX (cutbox-rows.mjs): the forced cells as the released guide's own fill.sh prints them over the translation 64e10d1ae16dcaae… (all of the seat's roots in one cut). By AI agents, Wed Nov 11 2026. No macro, syntax, notation, axiom, sorry.
-/
import Derived.Test.YtgilmmofbpembaaChecked
import GoSem.Claim
import GoSem.ClaimJoined
import GoSem.ClaimMapViews
import Derived.JoinedTies
import Derived.KernelRfl
namespace Go.Proofs.Ytgilmmofbpembaa
/- THE CELL 'sum', in the pinned program and in every row, IS THE sha256 OF THE DUMP (.gsa) THAT YtgilmmofbpembaaProg.lean LOADS. Nothing in Lean hashes anything: it is a label: what it is worth is what the hold of that sum in a sandbox is worth. -/
noncomputable def Try.pinned : Pinned := { name := "ytgilmmofbpembaa", sum := "64e10d1ae16dcaae2b19a1d13f172eb47bab8734443772822e59465740f8f0ea", checked := Try.checked }
namespace Rows
def none {H : Type} : Left H := { results := [], args := [] }

/-- 'laws.FnExactIsAcl': WHATEVER THE INPUT: true; the input reads as it did. -/
def fnExactIsAclSpec : ChangeSpec := { name := "fnExactIsAcl", fn := fun _ => fun
  | [d] => { results := [.lit (.bool true)], args := [d] }
  | _ => none }
def fnExactIsAclRow : OpenClaim := { program := "ytgilmmofbpembaa", sum := "64e10d1ae16dcaae2b19a1d13f172eb47bab8734443772822e59465740f8f0ea", func := "loop.example/g00817/laws.FnExactIsAcl", spec := "fnExactIsAcl", apart := false }
def FnExactIsAclSaid : Prop := fnExactIsAclRow.holds Try.pinned (OpenSpec.ofChange fnExactIsAclSpec)

/-- ITS FALSE NEIGHBOUR: 'it returns false'. Refute it at one input. -/
def fnExactIsAclWrong : ChangeSpec := { name := "fnExactIsAcl", fn := fun _ => fun
  | [d] => { results := [.lit (.bool false)], args := [d] }
  | _ => none }
def FnExactIsAclWrongFalsely : Prop := fnExactIsAclRow.holds Try.pinned (OpenSpec.ofChange fnExactIsAclWrong)

/-- 'laws.FnExactAclPerm': WHATEVER THE INPUT: true; the input reads as it did. -/
def fnExactAclPermSpec : ChangeSpec := { name := "fnExactAclPerm", fn := fun _ => fun
  | [d1, d2, d3] => { results := [.lit (.bool true)], args := [d1, d2, d3] }
  | _ => none }
def fnExactAclPermRow : OpenClaim := { program := "ytgilmmofbpembaa", sum := "64e10d1ae16dcaae2b19a1d13f172eb47bab8734443772822e59465740f8f0ea", func := "loop.example/g00817/laws.FnExactAclPerm", spec := "fnExactAclPerm", apart := false }
def FnExactAclPermSaid : Prop := fnExactAclPermRow.holds Try.pinned (OpenSpec.ofChange fnExactAclPermSpec)

/-- ITS FALSE NEIGHBOUR: 'it returns false'. Refute it at one input. -/
def fnExactAclPermWrong : ChangeSpec := { name := "fnExactAclPerm", fn := fun _ => fun
  | [d1, d2, d3] => { results := [.lit (.bool false)], args := [d1, d2, d3] }
  | _ => none }
def FnExactAclPermWrongFalsely : Prop := fnExactAclPermRow.holds Try.pinned (OpenSpec.ofChange fnExactAclPermWrong)

/-- 'laws.FnExactMaskOf': WHATEVER THE INPUT: true; the input reads as it did. -/
def fnExactMaskOfSpec : ChangeSpec := { name := "fnExactMaskOf", fn := fun _ => fun
  | [d] => { results := [.lit (.bool true)], args := [d] }
  | _ => none }
def fnExactMaskOfRow : OpenClaim := { program := "ytgilmmofbpembaa", sum := "64e10d1ae16dcaae2b19a1d13f172eb47bab8734443772822e59465740f8f0ea", func := "loop.example/g00817/laws.FnExactMaskOf", spec := "fnExactMaskOf", apart := false }
def FnExactMaskOfSaid : Prop := fnExactMaskOfRow.holds Try.pinned (OpenSpec.ofChange fnExactMaskOfSpec)

/-- ITS FALSE NEIGHBOUR: 'it returns false'. Refute it at one input. -/
def fnExactMaskOfWrong : ChangeSpec := { name := "fnExactMaskOf", fn := fun _ => fun
  | [d] => { results := [.lit (.bool false)], args := [d] }
  | _ => none }
def FnExactMaskOfWrongFalsely : Prop := fnExactMaskOfRow.holds Try.pinned (OpenSpec.ofChange fnExactMaskOfWrong)

/-- 'laws.FnExactPackAcl': WHATEVER THE INPUT: true; the input reads as it did. -/
def fnExactPackAclSpec : ChangeSpec := { name := "fnExactPackAcl", fn := fun _ => fun
  | [d] => { results := [.lit (.bool true)], args := [d] }
  | _ => none }
def fnExactPackAclRow : OpenClaim := { program := "ytgilmmofbpembaa", sum := "64e10d1ae16dcaae2b19a1d13f172eb47bab8734443772822e59465740f8f0ea", func := "loop.example/g00817/laws.FnExactPackAcl", spec := "fnExactPackAcl", inPlace := ["internal/abi.NoEscape", "internal/bytealg.MakeNoZero"], apart := false }
def FnExactPackAclSaid : Prop := fnExactPackAclRow.holds Try.pinned (OpenSpec.ofChange fnExactPackAclSpec)

/-- ITS FALSE NEIGHBOUR: 'it returns false'. Refute it at one input. -/
def fnExactPackAclWrong : ChangeSpec := { name := "fnExactPackAcl", fn := fun _ => fun
  | [d] => { results := [.lit (.bool false)], args := [d] }
  | _ => none }
def FnExactPackAclWrongFalsely : Prop := fnExactPackAclRow.holds Try.pinned (OpenSpec.ofChange fnExactPackAclWrong)

/-- 'laws.FnExactUnpackAcl': WHATEVER THE INPUT: true; the input reads as it did. -/
def fnExactUnpackAclSpec : ChangeSpec := { name := "fnExactUnpackAcl", fn := fun _ => fun
  | [d] => { results := [.lit (.bool true)], args := [d] }
  | _ => none }
def fnExactUnpackAclRow : OpenClaim := { program := "ytgilmmofbpembaa", sum := "64e10d1ae16dcaae2b19a1d13f172eb47bab8734443772822e59465740f8f0ea", func := "loop.example/g00817/laws.FnExactUnpackAcl", spec := "fnExactUnpackAcl", inPlace := ["internal/abi.NoEscape", "internal/bytealg.MakeNoZero"], apart := false }
def FnExactUnpackAclSaid : Prop := fnExactUnpackAclRow.holds Try.pinned (OpenSpec.ofChange fnExactUnpackAclSpec)

/-- ITS FALSE NEIGHBOUR: 'it returns false'. Refute it at one input. -/
def fnExactUnpackAclWrong : ChangeSpec := { name := "fnExactUnpackAcl", fn := fun _ => fun
  | [d] => { results := [.lit (.bool false)], args := [d] }
  | _ => none }
def FnExactUnpackAclWrongFalsely : Prop := fnExactUnpackAclRow.holds Try.pinned (OpenSpec.ofChange fnExactUnpackAclWrong)

/- THE SECOND FORM. 'bulk': how many values and letters a reading holds, each counted each time it is reached (what is shared counts as often as it is met; a slice's spare places count too). A statement '..UptoSaid' is the law's where the arguments, and the package variables that the reading takes, are together of bulk at most 1048576: NARROWER than '..Said'. Prove '..Said' where nothing that the law and all that it calls make is longer than what came in: it says more and counts as full. Else prove '..UptoSaid'. A law counts once. -/
mutual
def uptoBulk {H : Type} : DataW H → Nat
  | .lit (.string bytes) => bytes.length + 1
  | .lit _ => 1
  | .nil => 1
  | .ptr d => uptoBulk d + 1
  | .slice elems spare => uptoBulkAll elems + uptoBulkAll spare + 1
  | .agg parts => uptoBulkAll parts + 1
  | .iface _ d => uptoBulk d + 1
  | .map entries => uptoBulkEntries entries + 1
  | .held _ => 1
def uptoBulkAll {H : Type} : List (DataW H) → Nat
  | [] => 0
  | d :: r => uptoBulk d + uptoBulkAll r
def uptoBulkEntries {H : Type} : List (Lit × DataW H) → Nat
  | [] => 0
  | x :: r => uptoBulkEntry x + uptoBulkEntries r
def uptoBulkEntry {H : Type} : Lit × DataW H → Nat
  | (.string bytes, d) => bytes.length + uptoBulk d + 1
  | (_, d) => uptoBulk d + 1
 end
def uptoSmall : (H : Type) → List (DataW H) → Bool := fun _ ds => decide (uptoBulkAll ds ≤ 1048576)
def OpenSpec.upto (s : _root_.Go.ChangeSpec) : _root_.Go.OpenSpec := { _root_.Go.OpenSpec.ofChange s with cond := some uptoSmall }

/-- 'laws.FnExactIsAcl', WHERE WHAT IT READS IS OF BULK AT MOST 1048576: true; the input reads as it did. -/
def fnExactIsAclUptoRow : OpenClaim := { program := "ytgilmmofbpembaa", sum := "64e10d1ae16dcaae2b19a1d13f172eb47bab8734443772822e59465740f8f0ea", func := "loop.example/g00817/laws.FnExactIsAcl", spec := "fnExactIsAcl", apart := false, narrowed := true }
def FnExactIsAclUptoSaid : Prop := fnExactIsAclUptoRow.holds Try.pinned (OpenSpec.upto fnExactIsAclSpec)

/-- 'laws.FnExactAclPerm', WHERE WHAT IT READS IS OF BULK AT MOST 1048576: true; the input reads as it did. -/
def fnExactAclPermUptoRow : OpenClaim := { program := "ytgilmmofbpembaa", sum := "64e10d1ae16dcaae2b19a1d13f172eb47bab8734443772822e59465740f8f0ea", func := "loop.example/g00817/laws.FnExactAclPerm", spec := "fnExactAclPerm", apart := false, narrowed := true }
def FnExactAclPermUptoSaid : Prop := fnExactAclPermUptoRow.holds Try.pinned (OpenSpec.upto fnExactAclPermSpec)

/-- 'laws.FnExactMaskOf', WHERE WHAT IT READS IS OF BULK AT MOST 1048576: true; the input reads as it did. -/
def fnExactMaskOfUptoRow : OpenClaim := { program := "ytgilmmofbpembaa", sum := "64e10d1ae16dcaae2b19a1d13f172eb47bab8734443772822e59465740f8f0ea", func := "loop.example/g00817/laws.FnExactMaskOf", spec := "fnExactMaskOf", apart := false, narrowed := true }
def FnExactMaskOfUptoSaid : Prop := fnExactMaskOfUptoRow.holds Try.pinned (OpenSpec.upto fnExactMaskOfSpec)

/-- 'laws.FnExactPackAcl', WHERE WHAT IT READS IS OF BULK AT MOST 1048576: true; the input reads as it did. -/
def fnExactPackAclUptoRow : OpenClaim := { program := "ytgilmmofbpembaa", sum := "64e10d1ae16dcaae2b19a1d13f172eb47bab8734443772822e59465740f8f0ea", func := "loop.example/g00817/laws.FnExactPackAcl", spec := "fnExactPackAcl", inPlace := ["internal/abi.NoEscape", "internal/bytealg.MakeNoZero"], apart := false, narrowed := true }
def FnExactPackAclUptoSaid : Prop := fnExactPackAclUptoRow.holds Try.pinned (OpenSpec.upto fnExactPackAclSpec)

/-- 'laws.FnExactUnpackAcl', WHERE WHAT IT READS IS OF BULK AT MOST 1048576: true; the input reads as it did. -/
def fnExactUnpackAclUptoRow : OpenClaim := { program := "ytgilmmofbpembaa", sum := "64e10d1ae16dcaae2b19a1d13f172eb47bab8734443772822e59465740f8f0ea", func := "loop.example/g00817/laws.FnExactUnpackAcl", spec := "fnExactUnpackAcl", inPlace := ["internal/abi.NoEscape", "internal/bytealg.MakeNoZero"], apart := false, narrowed := true }
def FnExactUnpackAclUptoSaid : Prop := fnExactUnpackAclUptoRow.holds Try.pinned (OpenSpec.upto fnExactUnpackAclSpec)

end Rows
end Go.Proofs.Ytgilmmofbpembaa
