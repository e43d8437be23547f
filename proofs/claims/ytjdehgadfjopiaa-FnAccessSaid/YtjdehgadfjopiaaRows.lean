/-
  No cell of these rows narrows 'for every input' (looked for: loops, veiled, ifaces, maps, wideKeys, modest, calm, conditions, laid).
  DERIVED. THE GIVEN ROWS OF THIS SEAT. 10 by the template 'for every input the law returns true; each argument reads behind the call as it read before'; 0 by the template 'total and deterministic' (their statements: YtjdehgadfjopiaaTotals.lean).
  GIVEN WITH THE SEED: the statements are not yours to turn. If you find one false, say at which input.
  Laid BY PROGRAM, IN A SANDBOX (cutbox-rows.mjs): the forced cells as the released guide's own fill.sh prints them over the translation b9d96b06c6bb79c0… (all of the seat's roots in one cut). By AI agents, Wed Nov 11 2026. No macro, syntax, notation, axiom, sorry.
-/
import Derived.Test.YtjdehgadfjopiaaChecked
import GoSem.Claim
import GoSem.ClaimJoined
import GoSem.ClaimMapViews
import Derived.JoinedTies
import Derived.KernelRfl
namespace Go.Proofs.Ytjdehgadfjopiaa
/- THE CELL 'sum', in the pinned program and in every row, IS THE sha256 OF THE DUMP (.gsa) THAT YtjdehgadfjopiaaProg.lean LOADS. Nothing in Lean hashes anything: it is a label: what it is worth is what the hold of that sum in a sandbox is worth. -/
noncomputable def Try.pinned : Pinned := { name := "ytjdehgadfjopiaa", sum := "b9d96b06c6bb79c0846fca65c461d962331cac199e5fc6cdc54bdbf35496206f", checked := Try.checked }
namespace Rows
def none {H : Type} : Left H := { results := [], args := [] }

/-- 'laws.FnAccess': WHATEVER THE INPUT: true; the input reads as it did. -/
def fnAccessSpec : ChangeSpec := { name := "fnAccess", fn := fun _ => fun
  | [d] => { results := [.lit (.bool true)], args := [d] }
  | _ => none }
def fnAccessRow : OpenClaim := { program := "ytjdehgadfjopiaa", sum := "b9d96b06c6bb79c0846fca65c461d962331cac199e5fc6cdc54bdbf35496206f", func := "loop.example/g00817/laws.FnAccess", spec := "fnAccess", unfollowed := true, recurses := true, apart := false }
def FnAccessSaid : Prop := fnAccessRow.holds Try.pinned (OpenSpec.ofChange fnAccessSpec)

/-- ITS FALSE NEIGHBOUR: 'it returns false'. Refute it at one input. -/
def fnAccessWrong : ChangeSpec := { name := "fnAccess", fn := fun _ => fun
  | [d] => { results := [.lit (.bool false)], args := [d] }
  | _ => none }
def FnAccessWrongFalsely : Prop := fnAccessRow.holds Try.pinned (OpenSpec.ofChange fnAccessWrong)

/-- 'laws.FnModes': WHATEVER THE INPUT: true; the input reads as it did. -/
def fnModesSpec : ChangeSpec := { name := "fnModes", fn := fun _ => fun
  | [d] => { results := [.lit (.bool true)], args := [d] }
  | _ => none }
def fnModesRow : OpenClaim := { program := "ytjdehgadfjopiaa", sum := "b9d96b06c6bb79c0846fca65c461d962331cac199e5fc6cdc54bdbf35496206f", func := "loop.example/g00817/laws.FnModes", spec := "fnModes", apart := false }
def FnModesSaid : Prop := fnModesRow.holds Try.pinned (OpenSpec.ofChange fnModesSpec)

/-- ITS FALSE NEIGHBOUR: 'it returns false'. Refute it at one input. -/
def fnModesWrong : ChangeSpec := { name := "fnModes", fn := fun _ => fun
  | [d] => { results := [.lit (.bool false)], args := [d] }
  | _ => none }
def FnModesWrongFalsely : Prop := fnModesRow.holds Try.pinned (OpenSpec.ofChange fnModesWrong)

/-- 'laws.FnSticky': WHATEVER THE INPUT: true; the input reads as it did. -/
def fnStickySpec : ChangeSpec := { name := "fnSticky", fn := fun _ => fun
  | [d] => { results := [.lit (.bool true)], args := [d] }
  | _ => none }
def fnStickyRow : OpenClaim := { program := "ytjdehgadfjopiaa", sum := "b9d96b06c6bb79c0846fca65c461d962331cac199e5fc6cdc54bdbf35496206f", func := "loop.example/g00817/laws.FnSticky", spec := "fnSticky", apart := false }
def FnStickySaid : Prop := fnStickyRow.holds Try.pinned (OpenSpec.ofChange fnStickySpec)

/-- ITS FALSE NEIGHBOUR: 'it returns false'. Refute it at one input. -/
def fnStickyWrong : ChangeSpec := { name := "fnSticky", fn := fun _ => fun
  | [d] => { results := [.lit (.bool false)], args := [d] }
  | _ => none }
def FnStickyWrongFalsely : Prop := fnStickyRow.holds Try.pinned (OpenSpec.ofChange fnStickyWrong)

/-- 'laws.FnExactIsCred': WHATEVER THE INPUT: true; the input reads as it did. -/
def fnExactIsCredSpec : ChangeSpec := { name := "fnExactIsCred", fn := fun _ => fun
  | [d] => { results := [.lit (.bool true)], args := [d] }
  | _ => none }
def fnExactIsCredRow : OpenClaim := { program := "ytjdehgadfjopiaa", sum := "b9d96b06c6bb79c0846fca65c461d962331cac199e5fc6cdc54bdbf35496206f", func := "loop.example/g00817/laws.FnExactIsCred", spec := "fnExactIsCred", apart := false }
def FnExactIsCredSaid : Prop := fnExactIsCredRow.holds Try.pinned (OpenSpec.ofChange fnExactIsCredSpec)

/-- ITS FALSE NEIGHBOUR: 'it returns false'. Refute it at one input. -/
def fnExactIsCredWrong : ChangeSpec := { name := "fnExactIsCred", fn := fun _ => fun
  | [d] => { results := [.lit (.bool false)], args := [d] }
  | _ => none }
def FnExactIsCredWrongFalsely : Prop := fnExactIsCredRow.holds Try.pinned (OpenSpec.ofChange fnExactIsCredWrong)

/-- 'laws.FnExactInGroup': WHATEVER THE INPUT: true; the input reads as it did. -/
def fnExactInGroupSpec : ChangeSpec := { name := "fnExactInGroup", fn := fun _ => fun
  | [d1, d2] => { results := [.lit (.bool true)], args := [d1, d2] }
  | _ => none }
def fnExactInGroupRow : OpenClaim := { program := "ytjdehgadfjopiaa", sum := "b9d96b06c6bb79c0846fca65c461d962331cac199e5fc6cdc54bdbf35496206f", func := "loop.example/g00817/laws.FnExactInGroup", spec := "fnExactInGroup", apart := false }
def FnExactInGroupSaid : Prop := fnExactInGroupRow.holds Try.pinned (OpenSpec.ofChange fnExactInGroupSpec)

/-- ITS FALSE NEIGHBOUR: 'it returns false'. Refute it at one input. -/
def fnExactInGroupWrong : ChangeSpec := { name := "fnExactInGroup", fn := fun _ => fun
  | [d1, d2] => { results := [.lit (.bool false)], args := [d1, d2] }
  | _ => none }
def FnExactInGroupWrongFalsely : Prop := fnExactInGroupRow.holds Try.pinned (OpenSpec.ofChange fnExactInGroupWrong)

/-- 'laws.FnExactPermOf': WHATEVER THE INPUT: true; the input reads as it did. -/
def fnExactPermOfSpec : ChangeSpec := { name := "fnExactPermOf", fn := fun _ => fun
  | [d1, d2] => { results := [.lit (.bool true)], args := [d1, d2] }
  | _ => none }
def fnExactPermOfRow : OpenClaim := { program := "ytjdehgadfjopiaa", sum := "b9d96b06c6bb79c0846fca65c461d962331cac199e5fc6cdc54bdbf35496206f", func := "loop.example/g00817/laws.FnExactPermOf", spec := "fnExactPermOf", apart := false }
def FnExactPermOfSaid : Prop := fnExactPermOfRow.holds Try.pinned (OpenSpec.ofChange fnExactPermOfSpec)

/-- ITS FALSE NEIGHBOUR: 'it returns false'. Refute it at one input. -/
def fnExactPermOfWrong : ChangeSpec := { name := "fnExactPermOf", fn := fun _ => fun
  | [d1, d2] => { results := [.lit (.bool false)], args := [d1, d2] }
  | _ => none }
def FnExactPermOfWrongFalsely : Prop := fnExactPermOfRow.holds Try.pinned (OpenSpec.ofChange fnExactPermOfWrong)

/-- 'laws.FnExactAllowed': WHATEVER THE INPUT: true; the input reads as it did. -/
def fnExactAllowedSpec : ChangeSpec := { name := "fnExactAllowed", fn := fun _ => fun
  | [d1, d2, d3, d4, d5, d6] => { results := [.lit (.bool true)], args := [d1, d2, d3, d4, d5, d6] }
  | _ => none }
def fnExactAllowedRow : OpenClaim := { program := "ytjdehgadfjopiaa", sum := "b9d96b06c6bb79c0846fca65c461d962331cac199e5fc6cdc54bdbf35496206f", func := "loop.example/g00817/laws.FnExactAllowed", spec := "fnExactAllowed", unfollowed := true, recurses := true, apart := false }
def FnExactAllowedSaid : Prop := fnExactAllowedRow.holds Try.pinned (OpenSpec.ofChange fnExactAllowedSpec)

/-- ITS FALSE NEIGHBOUR: 'it returns false'. Refute it at one input. -/
def fnExactAllowedWrong : ChangeSpec := { name := "fnExactAllowed", fn := fun _ => fun
  | [d1, d2, d3, d4, d5, d6] => { results := [.lit (.bool false)], args := [d1, d2, d3, d4, d5, d6] }
  | _ => none }
def FnExactAllowedWrongFalsely : Prop := fnExactAllowedRow.holds Try.pinned (OpenSpec.ofChange fnExactAllowedWrong)

/-- 'laws.FnExactFormatMode': WHATEVER THE INPUT: true; the input reads as it did. -/
def fnExactFormatModeSpec : ChangeSpec := { name := "fnExactFormatMode", fn := fun _ => fun
  | [d] => { results := [.lit (.bool true)], args := [d] }
  | _ => none }
def fnExactFormatModeRow : OpenClaim := { program := "ytjdehgadfjopiaa", sum := "b9d96b06c6bb79c0846fca65c461d962331cac199e5fc6cdc54bdbf35496206f", func := "loop.example/g00817/laws.FnExactFormatMode", spec := "fnExactFormatMode", apart := false }
def FnExactFormatModeSaid : Prop := fnExactFormatModeRow.holds Try.pinned (OpenSpec.ofChange fnExactFormatModeSpec)

/-- ITS FALSE NEIGHBOUR: 'it returns false'. Refute it at one input. -/
def fnExactFormatModeWrong : ChangeSpec := { name := "fnExactFormatMode", fn := fun _ => fun
  | [d] => { results := [.lit (.bool false)], args := [d] }
  | _ => none }
def FnExactFormatModeWrongFalsely : Prop := fnExactFormatModeRow.holds Try.pinned (OpenSpec.ofChange fnExactFormatModeWrong)

/-- 'laws.FnExactParseMode': WHATEVER THE INPUT: true; the input reads as it did. -/
def fnExactParseModeSpec : ChangeSpec := { name := "fnExactParseMode", fn := fun _ => fun
  | [d] => { results := [.lit (.bool true)], args := [d] }
  | _ => none }
def fnExactParseModeRow : OpenClaim := { program := "ytjdehgadfjopiaa", sum := "b9d96b06c6bb79c0846fca65c461d962331cac199e5fc6cdc54bdbf35496206f", func := "loop.example/g00817/laws.FnExactParseMode", spec := "fnExactParseMode", apart := false }
def FnExactParseModeSaid : Prop := fnExactParseModeRow.holds Try.pinned (OpenSpec.ofChange fnExactParseModeSpec)

/-- ITS FALSE NEIGHBOUR: 'it returns false'. Refute it at one input. -/
def fnExactParseModeWrong : ChangeSpec := { name := "fnExactParseMode", fn := fun _ => fun
  | [d] => { results := [.lit (.bool false)], args := [d] }
  | _ => none }
def FnExactParseModeWrongFalsely : Prop := fnExactParseModeRow.holds Try.pinned (OpenSpec.ofChange fnExactParseModeWrong)

/-- 'laws.FnExactMayRemove': WHATEVER THE INPUT: true; the input reads as it did. -/
def fnExactMayRemoveSpec : ChangeSpec := { name := "fnExactMayRemove", fn := fun _ => fun
  | [d1, d2, d3, d4] => { results := [.lit (.bool true)], args := [d1, d2, d3, d4] }
  | _ => none }
def fnExactMayRemoveRow : OpenClaim := { program := "ytjdehgadfjopiaa", sum := "b9d96b06c6bb79c0846fca65c461d962331cac199e5fc6cdc54bdbf35496206f", func := "loop.example/g00817/laws.FnExactMayRemove", spec := "fnExactMayRemove", apart := false }
def FnExactMayRemoveSaid : Prop := fnExactMayRemoveRow.holds Try.pinned (OpenSpec.ofChange fnExactMayRemoveSpec)

/-- ITS FALSE NEIGHBOUR: 'it returns false'. Refute it at one input. -/
def fnExactMayRemoveWrong : ChangeSpec := { name := "fnExactMayRemove", fn := fun _ => fun
  | [d1, d2, d3, d4] => { results := [.lit (.bool false)], args := [d1, d2, d3, d4] }
  | _ => none }
def FnExactMayRemoveWrongFalsely : Prop := fnExactMayRemoveRow.holds Try.pinned (OpenSpec.ofChange fnExactMayRemoveWrong)

/- THE SECOND FORM. 'bulk': how many values and letters a reading holds, each counted each time it is reached (what is shared counts as often as it is met; a slice's spare places count too). A statement '..UptoSaid' is the law's where the arguments, and the package variables that the reading takes, are together of bulk at most 1048576: NARROWER than '..Said'. Prove '..Said' where nothing that the law and all that it calls make is longer than what came in: it says more and counts as full. Else prove '..UptoSaid'. A law counts once. -/
mutual
def uptoBulk {H : Type} : DataW H → Nat
  | .lit (.string bytes) => bytes.length + 1
  | .lit _ => 1
  | .nil => 1
  | .ptr d => uptoBulk d + 1
  | .slice elems spare => uptoBulkAll elems + uptoBulkAll spare + 1
  | .agg parts => uptoBulkAll parts + 1
  | .iface _ d => uptoBulk d + 1
  | .map entries => uptoBulkEntries entries + 1
  | .held _ => 1
def uptoBulkAll {H : Type} : List (DataW H) → Nat
  | [] => 0
  | d :: r => uptoBulk d + uptoBulkAll r
def uptoBulkEntries {H : Type} : List (Lit × DataW H) → Nat
  | [] => 0
  | x :: r => uptoBulkEntry x + uptoBulkEntries r
def uptoBulkEntry {H : Type} : Lit × DataW H → Nat
  | (.string bytes, d) => bytes.length + uptoBulk d + 1
  | (_, d) => uptoBulk d + 1
 end
def uptoSmall : (H : Type) → List (DataW H) → Bool := fun _ ds => decide (uptoBulkAll ds ≤ 1048576)
def OpenSpec.upto (s : _root_.Go.ChangeSpec) : _root_.Go.OpenSpec := { _root_.Go.OpenSpec.ofChange s with cond := some uptoSmall }

/-- 'laws.FnAccess', WHERE WHAT IT READS IS OF BULK AT MOST 1048576: true; the input reads as it did. -/
def fnAccessUptoRow : OpenClaim := { program := "ytjdehgadfjopiaa", sum := "b9d96b06c6bb79c0846fca65c461d962331cac199e5fc6cdc54bdbf35496206f", func := "loop.example/g00817/laws.FnAccess", spec := "fnAccess", unfollowed := true, recurses := true, apart := false, narrowed := true }
def FnAccessUptoSaid : Prop := fnAccessUptoRow.holds Try.pinned (OpenSpec.upto fnAccessSpec)

/-- 'laws.FnModes', WHERE WHAT IT READS IS OF BULK AT MOST 1048576: true; the input reads as it did. -/
def fnModesUptoRow : OpenClaim := { program := "ytjdehgadfjopiaa", sum := "b9d96b06c6bb79c0846fca65c461d962331cac199e5fc6cdc54bdbf35496206f", func := "loop.example/g00817/laws.FnModes", spec := "fnModes", apart := false, narrowed := true }
def FnModesUptoSaid : Prop := fnModesUptoRow.holds Try.pinned (OpenSpec.upto fnModesSpec)

/-- 'laws.FnSticky', WHERE WHAT IT READS IS OF BULK AT MOST 1048576: true; the input reads as it did. -/
def fnStickyUptoRow : OpenClaim := { program := "ytjdehgadfjopiaa", sum := "b9d96b06c6bb79c0846fca65c461d962331cac199e5fc6cdc54bdbf35496206f", func := "loop.example/g00817/laws.FnSticky", spec := "fnSticky", apart := false, narrowed := true }
def FnStickyUptoSaid : Prop := fnStickyUptoRow.holds Try.pinned (OpenSpec.upto fnStickySpec)

/-- 'laws.FnExactIsCred', WHERE WHAT IT READS IS OF BULK AT MOST 1048576: true; the input reads as it did. -/
def fnExactIsCredUptoRow : OpenClaim := { program := "ytjdehgadfjopiaa", sum := "b9d96b06c6bb79c0846fca65c461d962331cac199e5fc6cdc54bdbf35496206f", func := "loop.example/g00817/laws.FnExactIsCred", spec := "fnExactIsCred", apart := false, narrowed := true }
def FnExactIsCredUptoSaid : Prop := fnExactIsCredUptoRow.holds Try.pinned (OpenSpec.upto fnExactIsCredSpec)

/-- 'laws.FnExactInGroup', WHERE WHAT IT READS IS OF BULK AT MOST 1048576: true; the input reads as it did. -/
def fnExactInGroupUptoRow : OpenClaim := { program := "ytjdehgadfjopiaa", sum := "b9d96b06c6bb79c0846fca65c461d962331cac199e5fc6cdc54bdbf35496206f", func := "loop.example/g00817/laws.FnExactInGroup", spec := "fnExactInGroup", apart := false, narrowed := true }
def FnExactInGroupUptoSaid : Prop := fnExactInGroupUptoRow.holds Try.pinned (OpenSpec.upto fnExactInGroupSpec)

/-- 'laws.FnExactPermOf', WHERE WHAT IT READS IS OF BULK AT MOST 1048576: true; the input reads as it did. -/
def fnExactPermOfUptoRow : OpenClaim := { program := "ytjdehgadfjopiaa", sum := "b9d96b06c6bb79c0846fca65c461d962331cac199e5fc6cdc54bdbf35496206f", func := "loop.example/g00817/laws.FnExactPermOf", spec := "fnExactPermOf", apart := false, narrowed := true }
def FnExactPermOfUptoSaid : Prop := fnExactPermOfUptoRow.holds Try.pinned (OpenSpec.upto fnExactPermOfSpec)

/-- 'laws.FnExactAllowed', WHERE WHAT IT READS IS OF BULK AT MOST 1048576: true; the input reads as it did. -/
def fnExactAllowedUptoRow : OpenClaim := { program := "ytjdehgadfjopiaa", sum := "b9d96b06c6bb79c0846fca65c461d962331cac199e5fc6cdc54bdbf35496206f", func := "loop.example/g00817/laws.FnExactAllowed", spec := "fnExactAllowed", unfollowed := true, recurses := true, apart := false, narrowed := true }
def FnExactAllowedUptoSaid : Prop := fnExactAllowedUptoRow.holds Try.pinned (OpenSpec.upto fnExactAllowedSpec)

/-- 'laws.FnExactFormatMode', WHERE WHAT IT READS IS OF BULK AT MOST 1048576: true; the input reads as it did. -/
def fnExactFormatModeUptoRow : OpenClaim := { program := "ytjdehgadfjopiaa", sum := "b9d96b06c6bb79c0846fca65c461d962331cac199e5fc6cdc54bdbf35496206f", func := "loop.example/g00817/laws.FnExactFormatMode", spec := "fnExactFormatMode", apart := false, narrowed := true }
def FnExactFormatModeUptoSaid : Prop := fnExactFormatModeUptoRow.holds Try.pinned (OpenSpec.upto fnExactFormatModeSpec)

/-- 'laws.FnExactParseMode', WHERE WHAT IT READS IS OF BULK AT MOST 1048576: true; the input reads as it did. -/
def fnExactParseModeUptoRow : OpenClaim := { program := "ytjdehgadfjopiaa", sum := "b9d96b06c6bb79c0846fca65c461d962331cac199e5fc6cdc54bdbf35496206f", func := "loop.example/g00817/laws.FnExactParseMode", spec := "fnExactParseMode", apart := false, narrowed := true }
def FnExactParseModeUptoSaid : Prop := fnExactParseModeUptoRow.holds Try.pinned (OpenSpec.upto fnExactParseModeSpec)

/-- 'laws.FnExactMayRemove', WHERE WHAT IT READS IS OF BULK AT MOST 1048576: true; the input reads as it did. -/
def fnExactMayRemoveUptoRow : OpenClaim := { program := "ytjdehgadfjopiaa", sum := "b9d96b06c6bb79c0846fca65c461d962331cac199e5fc6cdc54bdbf35496206f", func := "loop.example/g00817/laws.FnExactMayRemove", spec := "fnExactMayRemove", apart := false, narrowed := true }
def FnExactMayRemoveUptoSaid : Prop := fnExactMayRemoveUptoRow.holds Try.pinned (OpenSpec.upto fnExactMayRemoveSpec)

end Rows
end Go.Proofs.Ytjdehgadfjopiaa
