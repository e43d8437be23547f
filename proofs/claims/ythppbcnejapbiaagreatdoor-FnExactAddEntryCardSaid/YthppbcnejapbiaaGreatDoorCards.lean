/-
  DERIVED. GIVEN WITH THE SEED: THE CARDS: each row of YthppbcnejapbiaaGreatDoorRows.lean that lists a variable, with what it lists TIED to the program's text (the seventh form; the later family's looks); each row that meets fmt, with fmt's text TOLD by the authors' own Lean function (tested against real Go, not proved from fmt's source: count such statements apart). THE CARD IS WHAT COUNTS. Prove the row's statement (the work); the ties are given (YthppbcnejapbiaaGreatDoorTie.lean); close each card by the builder's one call (the guide's Derived/Test/ToyasCard.lean, 'card_holds'). Laid BY PROGRAM, IN A SANDBOX (cutbox-door.mjs). By AI agents, Wed Nov 11 2026. No macro, syntax, notation, axiom, sorry.
-/
import Derived.Test.YthppbcnejapbiaaGreatDoorRows
import GoSem.ClaimSeven
namespace Go.Proofs.YthppbcnejapbiaaGreatDoor
namespace Rows

/-- THE TIED CARD OF 'laws.FnExactFindEntry'. -/
def fnExactFindEntryCard : Claim7 := { stood := { row := fnExactFindEntryRow, standIns := [], harness := (true, "6b05c086abffb8043ed275c1ba5e1871cfa973a4699bc51418cf9439ce201bc0"), looks := false }, kinds := [], alts := [], laidByText := true, laidKinds := [.data, .data, .pinned], laidTests := true, laidLooks := .later }
def FnExactFindEntryCardSaid : Prop := Claim7.holds Tryz.pinned (.plain (OpenSpec.ofChange fnExactFindEntrySpec)) fnExactFindEntryCard

/-- THE TIED CARD OF 'laws.FnExactEntriesOf'. -/
def fnExactEntriesOfCard : Claim7 := { stood := { row := fnExactEntriesOfRow, standIns := [], harness := (true, "6b05c086abffb8043ed275c1ba5e1871cfa973a4699bc51418cf9439ce201bc0"), looks := false }, kinds := [], alts := [], laidByText := true, laidKinds := [.data, .data, .pinned], laidTests := true, laidLooks := .later }
def FnExactEntriesOfCardSaid : Prop := Claim7.holds Tryz.pinned (.plain (OpenSpec.ofChange fnExactEntriesOfSpec)) fnExactEntriesOfCard

/-- THE TIED CARD OF 'laws.FnExactAddEntry'. -/
def fnExactAddEntryCard : Claim7 := { stood := { row := fnExactAddEntryRow, standIns := [], harness := (true, "6b05c086abffb8043ed275c1ba5e1871cfa973a4699bc51418cf9439ce201bc0"), looks := false }, kinds := [], alts := [], laidByText := true, laidKinds := [.data, .data, .pinned], laidTests := true, laidLooks := .later }
def FnExactAddEntryCardSaid : Prop := Claim7.holds Tryz.pinned (.plain (OpenSpec.ofChange fnExactAddEntrySpec)) fnExactAddEntryCard

/-- THE TIED CARD OF 'laws.FnExactRemoveEntry'. -/
def fnExactRemoveEntryCard : Claim7 := { stood := { row := fnExactRemoveEntryRow, standIns := [], harness := (true, "6b05c086abffb8043ed275c1ba5e1871cfa973a4699bc51418cf9439ce201bc0"), looks := false }, kinds := [], alts := [], laidByText := true, laidKinds := [.data, .data, .pinned], laidTests := true, laidLooks := .later }
def FnExactRemoveEntryCardSaid : Prop := Claim7.holds Tryz.pinned (.plain (OpenSpec.ofChange fnExactRemoveEntrySpec)) fnExactRemoveEntryCard

/-- THE TIED CARD OF 'laws.FnExactParentOf'. -/
def fnExactParentOfCard : Claim7 := { stood := { row := fnExactParentOfRow, standIns := [], harness := (true, "6b05c086abffb8043ed275c1ba5e1871cfa973a4699bc51418cf9439ce201bc0"), looks := false }, kinds := [], alts := [], laidByText := true, laidKinds := [.data, .data, .pinned], laidTests := true, laidLooks := .later }
def FnExactParentOfCardSaid : Prop := Claim7.holds Tryz.pinned (.plain (OpenSpec.ofChange fnExactParentOfSpec)) fnExactParentOfCard

/-- THE TIED CARD OF 'laws.FnExactMayAccess'. -/
def fnExactMayAccessCard : Claim7 := { stood := { row := fnExactMayAccessRow, standIns := [], harness := (true, "6b05c086abffb8043ed275c1ba5e1871cfa973a4699bc51418cf9439ce201bc0"), looks := false }, kinds := [], alts := [], laidByText := true, laidKinds := [.data, .data, .pinned], laidTests := true, laidLooks := .later }
def FnExactMayAccessCardSaid : Prop := Claim7.holds Tryz.pinned (.plain (OpenSpec.ofChange fnExactMayAccessSpec)) fnExactMayAccessCard

/-- THE TIED CARD OF 'laws.FnExactResolvePath'. -/
def fnExactResolvePathCard : Claim7 := { stood := { row := fnExactResolvePathRow, standIns := [], harness := (true, "6b05c086abffb8043ed275c1ba5e1871cfa973a4699bc51418cf9439ce201bc0"), looks := false }, kinds := [], alts := [], laidByText := true, laidKinds := [.data, .data, .pinned], laidTests := true, laidLooks := .later }
def FnExactResolvePathCardSaid : Prop := Claim7.holds Tryz.pinned (.plain (OpenSpec.ofChange fnExactResolvePathSpec)) fnExactResolvePathCard

/-- THE TIED CARD OF 'laws.FnExactResolveParent'. -/
def fnExactResolveParentCard : Claim7 := { stood := { row := fnExactResolveParentRow, standIns := [], harness := (true, "6b05c086abffb8043ed275c1ba5e1871cfa973a4699bc51418cf9439ce201bc0"), looks := false }, kinds := [], alts := [], laidByText := true, laidKinds := [.data, .data, .pinned], laidTests := true, laidLooks := .later }
def FnExactResolveParentCardSaid : Prop := Claim7.holds Tryz.pinned (.plain (OpenSpec.ofChange fnExactResolveParentSpec)) fnExactResolveParentCard

/-- THE TIED CARD OF 'laws.FnExactPathOf'. -/
def fnExactPathOfCard : Claim7 := { stood := { row := fnExactPathOfRow, standIns := [], harness := (true, "6b05c086abffb8043ed275c1ba5e1871cfa973a4699bc51418cf9439ce201bc0"), looks := false }, kinds := [], alts := [], laidByText := true, laidKinds := [.data, .data, .pinned], laidTests := true, laidLooks := .later }
def FnExactPathOfCardSaid : Prop := Claim7.holds Tryz.pinned (.plain (OpenSpec.ofChange fnExactPathOfSpec)) fnExactPathOfCard

/-- THE SECOND FORM's CARD OF 'laws.FnExactFindEntry'. -/
def fnExactFindEntryUptoCard : Claim7 := { stood := { row := fnExactFindEntryUptoRow, standIns := [], harness := (true, "6b05c086abffb8043ed275c1ba5e1871cfa973a4699bc51418cf9439ce201bc0"), looks := false }, kinds := [], alts := [], laidByText := true, laidKinds := [.data, .data, .pinned], laidTests := true, laidLooks := .later }
def FnExactFindEntryUptoCardSaid : Prop := Claim7.holds Tryz.pinned (.plain (OpenSpec.upto fnExactFindEntrySpec)) fnExactFindEntryUptoCard

/-- THE SECOND FORM's CARD OF 'laws.FnExactEntriesOf'. -/
def fnExactEntriesOfUptoCard : Claim7 := { stood := { row := fnExactEntriesOfUptoRow, standIns := [], harness := (true, "6b05c086abffb8043ed275c1ba5e1871cfa973a4699bc51418cf9439ce201bc0"), looks := false }, kinds := [], alts := [], laidByText := true, laidKinds := [.data, .data, .pinned], laidTests := true, laidLooks := .later }
def FnExactEntriesOfUptoCardSaid : Prop := Claim7.holds Tryz.pinned (.plain (OpenSpec.upto fnExactEntriesOfSpec)) fnExactEntriesOfUptoCard

/-- THE SECOND FORM's CARD OF 'laws.FnExactAddEntry'. -/
def fnExactAddEntryUptoCard : Claim7 := { stood := { row := fnExactAddEntryUptoRow, standIns := [], harness := (true, "6b05c086abffb8043ed275c1ba5e1871cfa973a4699bc51418cf9439ce201bc0"), looks := false }, kinds := [], alts := [], laidByText := true, laidKinds := [.data, .data, .pinned], laidTests := true, laidLooks := .later }
def FnExactAddEntryUptoCardSaid : Prop := Claim7.holds Tryz.pinned (.plain (OpenSpec.upto fnExactAddEntrySpec)) fnExactAddEntryUptoCard

/-- THE SECOND FORM's CARD OF 'laws.FnExactRemoveEntry'. -/
def fnExactRemoveEntryUptoCard : Claim7 := { stood := { row := fnExactRemoveEntryUptoRow, standIns := [], harness := (true, "6b05c086abffb8043ed275c1ba5e1871cfa973a4699bc51418cf9439ce201bc0"), looks := false }, kinds := [], alts := [], laidByText := true, laidKinds := [.data, .data, .pinned], laidTests := true, laidLooks := .later }
def FnExactRemoveEntryUptoCardSaid : Prop := Claim7.holds Tryz.pinned (.plain (OpenSpec.upto fnExactRemoveEntrySpec)) fnExactRemoveEntryUptoCard

/-- THE SECOND FORM's CARD OF 'laws.FnExactParentOf'. -/
def fnExactParentOfUptoCard : Claim7 := { stood := { row := fnExactParentOfUptoRow, standIns := [], harness := (true, "6b05c086abffb8043ed275c1ba5e1871cfa973a4699bc51418cf9439ce201bc0"), looks := false }, kinds := [], alts := [], laidByText := true, laidKinds := [.data, .data, .pinned], laidTests := true, laidLooks := .later }
def FnExactParentOfUptoCardSaid : Prop := Claim7.holds Tryz.pinned (.plain (OpenSpec.upto fnExactParentOfSpec)) fnExactParentOfUptoCard

/-- THE SECOND FORM's CARD OF 'laws.FnExactMayAccess'. -/
def fnExactMayAccessUptoCard : Claim7 := { stood := { row := fnExactMayAccessUptoRow, standIns := [], harness := (true, "6b05c086abffb8043ed275c1ba5e1871cfa973a4699bc51418cf9439ce201bc0"), looks := false }, kinds := [], alts := [], laidByText := true, laidKinds := [.data, .data, .pinned], laidTests := true, laidLooks := .later }
def FnExactMayAccessUptoCardSaid : Prop := Claim7.holds Tryz.pinned (.plain (OpenSpec.upto fnExactMayAccessSpec)) fnExactMayAccessUptoCard

/-- THE SECOND FORM's CARD OF 'laws.FnExactResolvePath'. -/
def fnExactResolvePathUptoCard : Claim7 := { stood := { row := fnExactResolvePathUptoRow, standIns := [], harness := (true, "6b05c086abffb8043ed275c1ba5e1871cfa973a4699bc51418cf9439ce201bc0"), looks := false }, kinds := [], alts := [], laidByText := true, laidKinds := [.data, .data, .pinned], laidTests := true, laidLooks := .later }
def FnExactResolvePathUptoCardSaid : Prop := Claim7.holds Tryz.pinned (.plain (OpenSpec.upto fnExactResolvePathSpec)) fnExactResolvePathUptoCard

/-- THE SECOND FORM's CARD OF 'laws.FnExactResolveParent'. -/
def fnExactResolveParentUptoCard : Claim7 := { stood := { row := fnExactResolveParentUptoRow, standIns := [], harness := (true, "6b05c086abffb8043ed275c1ba5e1871cfa973a4699bc51418cf9439ce201bc0"), looks := false }, kinds := [], alts := [], laidByText := true, laidKinds := [.data, .data, .pinned], laidTests := true, laidLooks := .later }
def FnExactResolveParentUptoCardSaid : Prop := Claim7.holds Tryz.pinned (.plain (OpenSpec.upto fnExactResolveParentSpec)) fnExactResolveParentUptoCard

/-- THE SECOND FORM's CARD OF 'laws.FnExactPathOf'. -/
def fnExactPathOfUptoCard : Claim7 := { stood := { row := fnExactPathOfUptoRow, standIns := [], harness := (true, "6b05c086abffb8043ed275c1ba5e1871cfa973a4699bc51418cf9439ce201bc0"), looks := false }, kinds := [], alts := [], laidByText := true, laidKinds := [.data, .data, .pinned], laidTests := true, laidLooks := .later }
def FnExactPathOfUptoCardSaid : Prop := Claim7.holds Tryz.pinned (.plain (OpenSpec.upto fnExactPathOfSpec)) fnExactPathOfUptoCard
end Rows
end Go.Proofs.YthppbcnejapbiaaGreatDoor
