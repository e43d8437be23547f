/-
  DERIVED. GIVEN WITH THE SEED: THE CARDS: each row of YtbbnginolidedaaGreatDoorRows.lean that lists a variable, with what it lists TIED to the program's text (the seventh form; the later family's looks); each row that meets fmt, with fmt's text TOLD by the authors' own Lean function (tested against real Go, not proved from fmt's source: count such statements apart). THE CARD IS WHAT COUNTS. Prove the row's statement (the work); the ties are given (YtbbnginolidedaaGreatDoorTie.lean); close each card by the builder's one call (the guide's Derived/Test/ToyasCard.lean, 'card_holds'). Laid BY PROGRAM, IN A SANDBOX (cutbox-door.mjs). By AI agents, Wed Nov 11 2026. No macro, syntax, notation, axiom, sorry.
-/
import Derived.Test.YtbbnginolidedaaGreatDoorRows
import GoSem.ClaimSeven
namespace Go.Proofs.YtbbnginolidedaaGreatDoor
namespace Rows

/-- THE TIED CARD OF 'laws.FnContent'. -/
def fnContentCard : Claim7 := { stood := { row := fnContentRow, standIns := [], harness := (true, "c1a120654fe439a7ac0df084641fd775d2dceaadc477d436a34843cf904b6ab3"), looks := false }, kinds := [], alts := [], laidByText := true, laidKinds := [.data, .data, .pinned], laidTests := true, laidLooks := .later }
def FnContentCardSaid : Prop := Claim7.holds Tryz.pinned (.plain (OpenSpec.ofChange fnContentSpec)) fnContentCard

/-- THE TIED CARD OF 'laws.FnResize'. -/
def fnResizeCard : Claim7 := { stood := { row := fnResizeRow, standIns := [], harness := (true, "c1a120654fe439a7ac0df084641fd775d2dceaadc477d436a34843cf904b6ab3"), looks := false }, kinds := [], alts := [], laidByText := true, laidKinds := [.data, .data, .pinned], laidTests := true, laidLooks := .later }
def FnResizeCardSaid : Prop := Claim7.holds Tryz.pinned (.plain (OpenSpec.ofChange fnResizeSpec)) fnResizeCard

/-- THE TIED CARD OF 'laws.FnMoveOwner'. -/
def fnMoveOwnerCard : Claim7 := { stood := { row := fnMoveOwnerRow, standIns := [], harness := (true, "c1a120654fe439a7ac0df084641fd775d2dceaadc477d436a34843cf904b6ab3"), looks := false }, kinds := [], alts := [], laidByText := true, laidKinds := [.data, .data, .pinned], laidTests := true, laidLooks := .later }
def FnMoveOwnerCardSaid : Prop := Claim7.holds Tryz.pinned (.plain (OpenSpec.ofChange fnMoveOwnerSpec)) fnMoveOwnerCard

/-- THE TIED CARD OF 'laws.FnExactWriteBytes'. -/
def fnExactWriteBytesCard : Claim7 := { stood := { row := fnExactWriteBytesRow, standIns := [], harness := (true, "c1a120654fe439a7ac0df084641fd775d2dceaadc477d436a34843cf904b6ab3"), looks := false }, kinds := [], alts := [], laidByText := true, laidKinds := [.data, .data, .pinned], laidTests := true, laidLooks := .later }
def FnExactWriteBytesCardSaid : Prop := Claim7.holds Tryz.pinned (.plain (OpenSpec.ofChange fnExactWriteBytesSpec)) fnExactWriteBytesCard

/-- THE TIED CARD OF 'laws.FnExactMoveOwner'. -/
def fnExactMoveOwnerCard : Claim7 := { stood := { row := fnExactMoveOwnerRow, standIns := [], harness := (true, "c1a120654fe439a7ac0df084641fd775d2dceaadc477d436a34843cf904b6ab3"), looks := false }, kinds := [], alts := [], laidByText := true, laidKinds := [.data, .data, .pinned], laidTests := true, laidLooks := .later }
def FnExactMoveOwnerCardSaid : Prop := Claim7.holds Tryz.pinned (.plain (OpenSpec.ofChange fnExactMoveOwnerSpec)) fnExactMoveOwnerCard

/-- THE TIED CARD OF 'laws.FnEntries'. -/
def fnEntriesCard : Claim7 := { stood := { row := fnEntriesRow, standIns := [], harness := (true, "c1a120654fe439a7ac0df084641fd775d2dceaadc477d436a34843cf904b6ab3"), looks := false }, kinds := [], alts := [], laidByText := true, laidKinds := [.data, .data, .data, .data, .data, .pinned], laidTests := true, laidLooks := .later }
def FnEntriesCardSaid : Prop := Claim7.holds Tryz.pinned (.plain (OpenSpec.ofChange fnEntriesSpec)) fnEntriesCard

/-- THE TIED CARD OF 'laws.FnExactEntriesOf'. -/
def fnExactEntriesOfCard : Claim7 := { stood := { row := fnExactEntriesOfRow, standIns := [], harness := (true, "c1a120654fe439a7ac0df084641fd775d2dceaadc477d436a34843cf904b6ab3"), looks := false }, kinds := [], alts := [], laidByText := true, laidKinds := [.data, .data, .pinned], laidTests := true, laidLooks := .later }
def FnExactEntriesOfCardSaid : Prop := Claim7.holds Tryz.pinned (.plain (OpenSpec.ofChange fnExactEntriesOfSpec)) fnExactEntriesOfCard

/-- THE TIED CARD OF 'laws.FnExactFindEntry'. -/
def fnExactFindEntryCard : Claim7 := { stood := { row := fnExactFindEntryRow, standIns := [], harness := (true, "c1a120654fe439a7ac0df084641fd775d2dceaadc477d436a34843cf904b6ab3"), looks := false }, kinds := [], alts := [], laidByText := true, laidKinds := [.data, .data, .pinned], laidTests := true, laidLooks := .later }
def FnExactFindEntryCardSaid : Prop := Claim7.holds Tryz.pinned (.plain (OpenSpec.ofChange fnExactFindEntrySpec)) fnExactFindEntryCard

/-- THE TIED CARD OF 'laws.FnExactAddEntry'. -/
def fnExactAddEntryCard : Claim7 := { stood := { row := fnExactAddEntryRow, standIns := [], harness := (true, "c1a120654fe439a7ac0df084641fd775d2dceaadc477d436a34843cf904b6ab3"), looks := false }, kinds := [], alts := [], laidByText := true, laidKinds := [.data, .data, .pinned], laidTests := true, laidLooks := .later }
def FnExactAddEntryCardSaid : Prop := Claim7.holds Tryz.pinned (.plain (OpenSpec.ofChange fnExactAddEntrySpec)) fnExactAddEntryCard

/-- THE TIED CARD OF 'laws.FnExactRemoveEntry'. -/
def fnExactRemoveEntryCard : Claim7 := { stood := { row := fnExactRemoveEntryRow, standIns := [], harness := (true, "c1a120654fe439a7ac0df084641fd775d2dceaadc477d436a34843cf904b6ab3"), looks := false }, kinds := [], alts := [], laidByText := true, laidKinds := [.data, .data, .pinned], laidTests := true, laidLooks := .later }
def FnExactRemoveEntryCardSaid : Prop := Claim7.holds Tryz.pinned (.plain (OpenSpec.ofChange fnExactRemoveEntrySpec)) fnExactRemoveEntryCard

/-- THE TIED CARD OF 'laws.FnExactParentOf'. -/
def fnExactParentOfCard : Claim7 := { stood := { row := fnExactParentOfRow, standIns := [], harness := (true, "c1a120654fe439a7ac0df084641fd775d2dceaadc477d436a34843cf904b6ab3"), looks := false }, kinds := [], alts := [], laidByText := true, laidKinds := [.data, .data, .pinned], laidTests := true, laidLooks := .later }
def FnExactParentOfCardSaid : Prop := Claim7.holds Tryz.pinned (.plain (OpenSpec.ofChange fnExactParentOfSpec)) fnExactParentOfCard

/-- THE SECOND FORM's CARD OF 'laws.FnContent'. -/
def fnContentUptoCard : Claim7 := { stood := { row := fnContentUptoRow, standIns := [], harness := (true, "c1a120654fe439a7ac0df084641fd775d2dceaadc477d436a34843cf904b6ab3"), looks := false }, kinds := [], alts := [], laidByText := true, laidKinds := [.data, .data, .pinned], laidTests := true, laidLooks := .later }
def FnContentUptoCardSaid : Prop := Claim7.holds Tryz.pinned (.plain (OpenSpec.upto fnContentSpec)) fnContentUptoCard

/-- THE SECOND FORM's CARD OF 'laws.FnResize'. -/
def fnResizeUptoCard : Claim7 := { stood := { row := fnResizeUptoRow, standIns := [], harness := (true, "c1a120654fe439a7ac0df084641fd775d2dceaadc477d436a34843cf904b6ab3"), looks := false }, kinds := [], alts := [], laidByText := true, laidKinds := [.data, .data, .pinned], laidTests := true, laidLooks := .later }
def FnResizeUptoCardSaid : Prop := Claim7.holds Tryz.pinned (.plain (OpenSpec.upto fnResizeSpec)) fnResizeUptoCard

/-- THE SECOND FORM's CARD OF 'laws.FnMoveOwner'. -/
def fnMoveOwnerUptoCard : Claim7 := { stood := { row := fnMoveOwnerUptoRow, standIns := [], harness := (true, "c1a120654fe439a7ac0df084641fd775d2dceaadc477d436a34843cf904b6ab3"), looks := false }, kinds := [], alts := [], laidByText := true, laidKinds := [.data, .data, .pinned], laidTests := true, laidLooks := .later }
def FnMoveOwnerUptoCardSaid : Prop := Claim7.holds Tryz.pinned (.plain (OpenSpec.upto fnMoveOwnerSpec)) fnMoveOwnerUptoCard

/-- THE SECOND FORM's CARD OF 'laws.FnExactWriteBytes'. -/
def fnExactWriteBytesUptoCard : Claim7 := { stood := { row := fnExactWriteBytesUptoRow, standIns := [], harness := (true, "c1a120654fe439a7ac0df084641fd775d2dceaadc477d436a34843cf904b6ab3"), looks := false }, kinds := [], alts := [], laidByText := true, laidKinds := [.data, .data, .pinned], laidTests := true, laidLooks := .later }
def FnExactWriteBytesUptoCardSaid : Prop := Claim7.holds Tryz.pinned (.plain (OpenSpec.upto fnExactWriteBytesSpec)) fnExactWriteBytesUptoCard

/-- THE SECOND FORM's CARD OF 'laws.FnExactMoveOwner'. -/
def fnExactMoveOwnerUptoCard : Claim7 := { stood := { row := fnExactMoveOwnerUptoRow, standIns := [], harness := (true, "c1a120654fe439a7ac0df084641fd775d2dceaadc477d436a34843cf904b6ab3"), looks := false }, kinds := [], alts := [], laidByText := true, laidKinds := [.data, .data, .pinned], laidTests := true, laidLooks := .later }
def FnExactMoveOwnerUptoCardSaid : Prop := Claim7.holds Tryz.pinned (.plain (OpenSpec.upto fnExactMoveOwnerSpec)) fnExactMoveOwnerUptoCard

/-- THE SECOND FORM's CARD OF 'laws.FnEntries'. -/
def fnEntriesUptoCard : Claim7 := { stood := { row := fnEntriesUptoRow, standIns := [], harness := (true, "c1a120654fe439a7ac0df084641fd775d2dceaadc477d436a34843cf904b6ab3"), looks := false }, kinds := [], alts := [], laidByText := true, laidKinds := [.data, .data, .data, .data, .data, .pinned], laidTests := true, laidLooks := .later }
def FnEntriesUptoCardSaid : Prop := Claim7.holds Tryz.pinned (.plain (OpenSpec.upto fnEntriesSpec)) fnEntriesUptoCard

/-- THE SECOND FORM's CARD OF 'laws.FnExactEntriesOf'. -/
def fnExactEntriesOfUptoCard : Claim7 := { stood := { row := fnExactEntriesOfUptoRow, standIns := [], harness := (true, "c1a120654fe439a7ac0df084641fd775d2dceaadc477d436a34843cf904b6ab3"), looks := false }, kinds := [], alts := [], laidByText := true, laidKinds := [.data, .data, .pinned], laidTests := true, laidLooks := .later }
def FnExactEntriesOfUptoCardSaid : Prop := Claim7.holds Tryz.pinned (.plain (OpenSpec.upto fnExactEntriesOfSpec)) fnExactEntriesOfUptoCard

/-- THE SECOND FORM's CARD OF 'laws.FnExactFindEntry'. -/
def fnExactFindEntryUptoCard : Claim7 := { stood := { row := fnExactFindEntryUptoRow, standIns := [], harness := (true, "c1a120654fe439a7ac0df084641fd775d2dceaadc477d436a34843cf904b6ab3"), looks := false }, kinds := [], alts := [], laidByText := true, laidKinds := [.data, .data, .pinned], laidTests := true, laidLooks := .later }
def FnExactFindEntryUptoCardSaid : Prop := Claim7.holds Tryz.pinned (.plain (OpenSpec.upto fnExactFindEntrySpec)) fnExactFindEntryUptoCard

/-- THE SECOND FORM's CARD OF 'laws.FnExactAddEntry'. -/
def fnExactAddEntryUptoCard : Claim7 := { stood := { row := fnExactAddEntryUptoRow, standIns := [], harness := (true, "c1a120654fe439a7ac0df084641fd775d2dceaadc477d436a34843cf904b6ab3"), looks := false }, kinds := [], alts := [], laidByText := true, laidKinds := [.data, .data, .pinned], laidTests := true, laidLooks := .later }
def FnExactAddEntryUptoCardSaid : Prop := Claim7.holds Tryz.pinned (.plain (OpenSpec.upto fnExactAddEntrySpec)) fnExactAddEntryUptoCard

/-- THE SECOND FORM's CARD OF 'laws.FnExactRemoveEntry'. -/
def fnExactRemoveEntryUptoCard : Claim7 := { stood := { row := fnExactRemoveEntryUptoRow, standIns := [], harness := (true, "c1a120654fe439a7ac0df084641fd775d2dceaadc477d436a34843cf904b6ab3"), looks := false }, kinds := [], alts := [], laidByText := true, laidKinds := [.data, .data, .pinned], laidTests := true, laidLooks := .later }
def FnExactRemoveEntryUptoCardSaid : Prop := Claim7.holds Tryz.pinned (.plain (OpenSpec.upto fnExactRemoveEntrySpec)) fnExactRemoveEntryUptoCard

/-- THE SECOND FORM's CARD OF 'laws.FnExactParentOf'. -/
def fnExactParentOfUptoCard : Claim7 := { stood := { row := fnExactParentOfUptoRow, standIns := [], harness := (true, "c1a120654fe439a7ac0df084641fd775d2dceaadc477d436a34843cf904b6ab3"), looks := false }, kinds := [], alts := [], laidByText := true, laidKinds := [.data, .data, .pinned], laidTests := true, laidLooks := .later }
def FnExactParentOfUptoCardSaid : Prop := Claim7.holds Tryz.pinned (.plain (OpenSpec.upto fnExactParentOfSpec)) fnExactParentOfUptoCard
end Rows
end Go.Proofs.YtbbnginolidedaaGreatDoor
