/-
  DERIVED. GIVEN WITH THE SEED: THE CARDS: each row of YtjefefedhhloiaaGreatDoorRows.lean that lists a variable, with what it lists TIED to the program's text (the seventh form; the later family's looks); each row that meets fmt, with fmt's text TOLD by the authors' own Lean function (tested against real Go, not proved from fmt's source: count such statements apart). THE CARD IS WHAT COUNTS. Prove the row's statement (the work); the ties are given (YtjefefedhhloiaaGreatDoorTie.lean); close each card by the builder's one call (the guide's Derived/Test/ToyasCard.lean, 'card_holds'). Laid BY PROGRAM, IN A SANDBOX (cutbox-door.mjs). By AI agents, Wed Nov 11 2026. No macro, syntax, notation, axiom, sorry.
-/
import Derived.Test.YtjefefedhhloiaaGreatDoorRows
import GoSem.ClaimSeven
namespace Go.Proofs.YtjefefedhhloiaaGreatDoor
namespace Rows

/-- THE TIED CARD OF 'laws.FnContent'. -/
def fnContentCard : Claim7 := { stood := { row := fnContentRow, standIns := [], harness := (true, "4c763e70dc0c2c562b233284526b49687c1b2d170351d01a9892d444049863f7"), looks := false }, kinds := [], alts := [], laidByText := true, laidKinds := [.data, .data, .pinned], laidTests := true, laidLooks := .later }
def FnContentCardSaid : Prop := Claim7.holds Tryz.pinned (.plain (OpenSpec.ofChange fnContentSpec)) fnContentCard

/-- THE TIED CARD OF 'laws.FnResize'. -/
def fnResizeCard : Claim7 := { stood := { row := fnResizeRow, standIns := [], harness := (true, "4c763e70dc0c2c562b233284526b49687c1b2d170351d01a9892d444049863f7"), looks := false }, kinds := [], alts := [], laidByText := true, laidKinds := [.data, .data, .pinned], laidTests := true, laidLooks := .later }
def FnResizeCardSaid : Prop := Claim7.holds Tryz.pinned (.plain (OpenSpec.ofChange fnResizeSpec)) fnResizeCard

/-- THE TIED CARD OF 'laws.FnMoveOwner'. -/
def fnMoveOwnerCard : Claim7 := { stood := { row := fnMoveOwnerRow, standIns := [], harness := (true, "4c763e70dc0c2c562b233284526b49687c1b2d170351d01a9892d444049863f7"), looks := false }, kinds := [], alts := [], laidByText := true, laidKinds := [.data, .data, .pinned], laidTests := true, laidLooks := .later }
def FnMoveOwnerCardSaid : Prop := Claim7.holds Tryz.pinned (.plain (OpenSpec.ofChange fnMoveOwnerSpec)) fnMoveOwnerCard

/-- THE TIED CARD OF 'laws.FnExactReadBytes'. -/
def fnExactReadBytesCard : Claim7 := { stood := { row := fnExactReadBytesRow, standIns := [], harness := (true, "4c763e70dc0c2c562b233284526b49687c1b2d170351d01a9892d444049863f7"), looks := false }, kinds := [], alts := [], laidByText := true, laidKinds := [.data, .data, .pinned], laidTests := true, laidLooks := .later }
def FnExactReadBytesCardSaid : Prop := Claim7.holds Tryz.pinned (.plain (OpenSpec.ofChange fnExactReadBytesSpec)) fnExactReadBytesCard

/-- THE TIED CARD OF 'laws.FnExactWriteBytes'. -/
def fnExactWriteBytesCard : Claim7 := { stood := { row := fnExactWriteBytesRow, standIns := [], harness := (true, "4c763e70dc0c2c562b233284526b49687c1b2d170351d01a9892d444049863f7"), looks := false }, kinds := [], alts := [], laidByText := true, laidKinds := [.data, .data, .pinned], laidTests := true, laidLooks := .later }
def FnExactWriteBytesCardSaid : Prop := Claim7.holds Tryz.pinned (.plain (OpenSpec.ofChange fnExactWriteBytesSpec)) fnExactWriteBytesCard

/-- THE TIED CARD OF 'laws.FnExactResizeFile'. -/
def fnExactResizeFileCard : Claim7 := { stood := { row := fnExactResizeFileRow, standIns := [], harness := (true, "4c763e70dc0c2c562b233284526b49687c1b2d170351d01a9892d444049863f7"), looks := false }, kinds := [], alts := [], laidByText := true, laidKinds := [.data, .data, .pinned], laidTests := true, laidLooks := .later }
def FnExactResizeFileCardSaid : Prop := Claim7.holds Tryz.pinned (.plain (OpenSpec.ofChange fnExactResizeFileSpec)) fnExactResizeFileCard

/-- THE TIED CARD OF 'laws.FnExactFreeObject'. -/
def fnExactFreeObjectCard : Claim7 := { stood := { row := fnExactFreeObjectRow, standIns := [], harness := (true, "4c763e70dc0c2c562b233284526b49687c1b2d170351d01a9892d444049863f7"), looks := false }, kinds := [], alts := [], laidByText := true, laidKinds := [.data, .data, .pinned], laidTests := true, laidLooks := .later }
def FnExactFreeObjectCardSaid : Prop := Claim7.holds Tryz.pinned (.plain (OpenSpec.ofChange fnExactFreeObjectSpec)) fnExactFreeObjectCard

/-- THE TIED CARD OF 'laws.FnExactMoveOwner'. -/
def fnExactMoveOwnerCard : Claim7 := { stood := { row := fnExactMoveOwnerRow, standIns := [], harness := (true, "4c763e70dc0c2c562b233284526b49687c1b2d170351d01a9892d444049863f7"), looks := false }, kinds := [], alts := [], laidByText := true, laidKinds := [.data, .data, .pinned], laidTests := true, laidLooks := .later }
def FnExactMoveOwnerCardSaid : Prop := Claim7.holds Tryz.pinned (.plain (OpenSpec.ofChange fnExactMoveOwnerSpec)) fnExactMoveOwnerCard

/-- THE SECOND FORM's CARD OF 'laws.FnContent'. -/
def fnContentUptoCard : Claim7 := { stood := { row := fnContentUptoRow, standIns := [], harness := (true, "4c763e70dc0c2c562b233284526b49687c1b2d170351d01a9892d444049863f7"), looks := false }, kinds := [], alts := [], laidByText := true, laidKinds := [.data, .data, .pinned], laidTests := true, laidLooks := .later }
def FnContentUptoCardSaid : Prop := Claim7.holds Tryz.pinned (.plain (OpenSpec.upto fnContentSpec)) fnContentUptoCard

/-- THE SECOND FORM's CARD OF 'laws.FnResize'. -/
def fnResizeUptoCard : Claim7 := { stood := { row := fnResizeUptoRow, standIns := [], harness := (true, "4c763e70dc0c2c562b233284526b49687c1b2d170351d01a9892d444049863f7"), looks := false }, kinds := [], alts := [], laidByText := true, laidKinds := [.data, .data, .pinned], laidTests := true, laidLooks := .later }
def FnResizeUptoCardSaid : Prop := Claim7.holds Tryz.pinned (.plain (OpenSpec.upto fnResizeSpec)) fnResizeUptoCard

/-- THE SECOND FORM's CARD OF 'laws.FnMoveOwner'. -/
def fnMoveOwnerUptoCard : Claim7 := { stood := { row := fnMoveOwnerUptoRow, standIns := [], harness := (true, "4c763e70dc0c2c562b233284526b49687c1b2d170351d01a9892d444049863f7"), looks := false }, kinds := [], alts := [], laidByText := true, laidKinds := [.data, .data, .pinned], laidTests := true, laidLooks := .later }
def FnMoveOwnerUptoCardSaid : Prop := Claim7.holds Tryz.pinned (.plain (OpenSpec.upto fnMoveOwnerSpec)) fnMoveOwnerUptoCard

/-- THE SECOND FORM's CARD OF 'laws.FnExactReadBytes'. -/
def fnExactReadBytesUptoCard : Claim7 := { stood := { row := fnExactReadBytesUptoRow, standIns := [], harness := (true, "4c763e70dc0c2c562b233284526b49687c1b2d170351d01a9892d444049863f7"), looks := false }, kinds := [], alts := [], laidByText := true, laidKinds := [.data, .data, .pinned], laidTests := true, laidLooks := .later }
def FnExactReadBytesUptoCardSaid : Prop := Claim7.holds Tryz.pinned (.plain (OpenSpec.upto fnExactReadBytesSpec)) fnExactReadBytesUptoCard

/-- THE SECOND FORM's CARD OF 'laws.FnExactWriteBytes'. -/
def fnExactWriteBytesUptoCard : Claim7 := { stood := { row := fnExactWriteBytesUptoRow, standIns := [], harness := (true, "4c763e70dc0c2c562b233284526b49687c1b2d170351d01a9892d444049863f7"), looks := false }, kinds := [], alts := [], laidByText := true, laidKinds := [.data, .data, .pinned], laidTests := true, laidLooks := .later }
def FnExactWriteBytesUptoCardSaid : Prop := Claim7.holds Tryz.pinned (.plain (OpenSpec.upto fnExactWriteBytesSpec)) fnExactWriteBytesUptoCard

/-- THE SECOND FORM's CARD OF 'laws.FnExactResizeFile'. -/
def fnExactResizeFileUptoCard : Claim7 := { stood := { row := fnExactResizeFileUptoRow, standIns := [], harness := (true, "4c763e70dc0c2c562b233284526b49687c1b2d170351d01a9892d444049863f7"), looks := false }, kinds := [], alts := [], laidByText := true, laidKinds := [.data, .data, .pinned], laidTests := true, laidLooks := .later }
def FnExactResizeFileUptoCardSaid : Prop := Claim7.holds Tryz.pinned (.plain (OpenSpec.upto fnExactResizeFileSpec)) fnExactResizeFileUptoCard

/-- THE SECOND FORM's CARD OF 'laws.FnExactFreeObject'. -/
def fnExactFreeObjectUptoCard : Claim7 := { stood := { row := fnExactFreeObjectUptoRow, standIns := [], harness := (true, "4c763e70dc0c2c562b233284526b49687c1b2d170351d01a9892d444049863f7"), looks := false }, kinds := [], alts := [], laidByText := true, laidKinds := [.data, .data, .pinned], laidTests := true, laidLooks := .later }
def FnExactFreeObjectUptoCardSaid : Prop := Claim7.holds Tryz.pinned (.plain (OpenSpec.upto fnExactFreeObjectSpec)) fnExactFreeObjectUptoCard

/-- THE SECOND FORM's CARD OF 'laws.FnExactMoveOwner'. -/
def fnExactMoveOwnerUptoCard : Claim7 := { stood := { row := fnExactMoveOwnerUptoRow, standIns := [], harness := (true, "4c763e70dc0c2c562b233284526b49687c1b2d170351d01a9892d444049863f7"), looks := false }, kinds := [], alts := [], laidByText := true, laidKinds := [.data, .data, .pinned], laidTests := true, laidLooks := .later }
def FnExactMoveOwnerUptoCardSaid : Prop := Claim7.holds Tryz.pinned (.plain (OpenSpec.upto fnExactMoveOwnerSpec)) fnExactMoveOwnerUptoCard
end Rows
end Go.Proofs.YtjefefedhhloiaaGreatDoor
