/-
  DERIVED. GIVEN WITH THE SEED: THE CARDS: each row of YtmljjdglmlnbaaaGreatDoorRows.lean that lists a variable, with what it lists TIED to the program's text (the seventh form; the later family's looks); each row that meets fmt, with fmt's text TOLD by the authors' own Lean function (tested against real Go, not proved from fmt's source: count such statements apart). THE CARD IS WHAT COUNTS. Prove the row's statement (the work); the ties are given (YtmljjdglmlnbaaaGreatDoorTie.lean); close each card by the builder's one call (the guide's Derived/Test/ToyasCard.lean, 'card_holds'). Laid BY PROGRAM, IN A SANDBOX (cutbox-door.mjs). By AI agents, Wed Nov 11 2026. No macro, syntax, notation, axiom, sorry.
-/
import Derived.Test.YtmljjdglmlnbaaaGreatDoorRows
import GoSem.ClaimSeven
namespace Go.Proofs.YtmljjdglmlnbaaaGreatDoor
namespace Rows

/-- THE TIED CARD OF 'laws.FnExactNewFS'. -/
def fnExactNewFSCard : Claim7 := { stood := { row := fnExactNewFSRow, standIns := [], harness := (true, "ab7ccdd449f3b0f5f026e28509e60c3ad4dc59ae74cbe0c85e6fdcca4f6a76cc"), looks := false }, kinds := [], alts := [], laidByText := true, laidKinds := [.data, .data, .pinned], laidTests := true, laidLooks := .later }
def FnExactNewFSCardSaid : Prop := Claim7.holds Tryz.pinned (.plain (OpenSpec.ofChange fnExactNewFSSpec)) fnExactNewFSCard

/-- THE TIED CARD OF 'laws.FnExactInodesOf'. -/
def fnExactInodesOfCard : Claim7 := { stood := { row := fnExactInodesOfRow, standIns := [], harness := (true, "ab7ccdd449f3b0f5f026e28509e60c3ad4dc59ae74cbe0c85e6fdcca4f6a76cc"), looks := false }, kinds := [], alts := [], laidByText := true, laidKinds := [.data, .data, .pinned], laidTests := true, laidLooks := .later }
def FnExactInodesOfCardSaid : Prop := Claim7.holds Tryz.pinned (.plain (OpenSpec.ofChange fnExactInodesOfSpec)) fnExactInodesOfCard

/-- THE TIED CARD OF 'laws.FnExactNextInode'. -/
def fnExactNextInodeCard : Claim7 := { stood := { row := fnExactNextInodeRow, standIns := [], harness := (true, "ab7ccdd449f3b0f5f026e28509e60c3ad4dc59ae74cbe0c85e6fdcca4f6a76cc"), looks := false }, kinds := [], alts := [], laidByText := true, laidKinds := [.data, .data, .pinned], laidTests := true, laidLooks := .later }
def FnExactNextInodeCardSaid : Prop := Claim7.holds Tryz.pinned (.plain (OpenSpec.ofChange fnExactNextInodeSpec)) fnExactNextInodeCard

/-- THE TIED CARD OF 'laws.FnExactNextBlock'. -/
def fnExactNextBlockCard : Claim7 := { stood := { row := fnExactNextBlockRow, standIns := [], harness := (true, "ab7ccdd449f3b0f5f026e28509e60c3ad4dc59ae74cbe0c85e6fdcca4f6a76cc"), looks := false }, kinds := [], alts := [], laidByText := true, laidKinds := [.data, .data, .pinned], laidTests := true, laidLooks := .later }
def FnExactNextBlockCardSaid : Prop := Claim7.holds Tryz.pinned (.plain (OpenSpec.ofChange fnExactNextBlockSpec)) fnExactNextBlockCard

/-- THE SECOND FORM's CARD OF 'laws.FnExactNewFS'. -/
def fnExactNewFSUptoCard : Claim7 := { stood := { row := fnExactNewFSUptoRow, standIns := [], harness := (true, "ab7ccdd449f3b0f5f026e28509e60c3ad4dc59ae74cbe0c85e6fdcca4f6a76cc"), looks := false }, kinds := [], alts := [], laidByText := true, laidKinds := [.data, .data, .pinned], laidTests := true, laidLooks := .later }
def FnExactNewFSUptoCardSaid : Prop := Claim7.holds Tryz.pinned (.plain (OpenSpec.upto fnExactNewFSSpec)) fnExactNewFSUptoCard

/-- THE SECOND FORM's CARD OF 'laws.FnExactInodesOf'. -/
def fnExactInodesOfUptoCard : Claim7 := { stood := { row := fnExactInodesOfUptoRow, standIns := [], harness := (true, "ab7ccdd449f3b0f5f026e28509e60c3ad4dc59ae74cbe0c85e6fdcca4f6a76cc"), looks := false }, kinds := [], alts := [], laidByText := true, laidKinds := [.data, .data, .pinned], laidTests := true, laidLooks := .later }
def FnExactInodesOfUptoCardSaid : Prop := Claim7.holds Tryz.pinned (.plain (OpenSpec.upto fnExactInodesOfSpec)) fnExactInodesOfUptoCard

/-- THE SECOND FORM's CARD OF 'laws.FnExactNextInode'. -/
def fnExactNextInodeUptoCard : Claim7 := { stood := { row := fnExactNextInodeUptoRow, standIns := [], harness := (true, "ab7ccdd449f3b0f5f026e28509e60c3ad4dc59ae74cbe0c85e6fdcca4f6a76cc"), looks := false }, kinds := [], alts := [], laidByText := true, laidKinds := [.data, .data, .pinned], laidTests := true, laidLooks := .later }
def FnExactNextInodeUptoCardSaid : Prop := Claim7.holds Tryz.pinned (.plain (OpenSpec.upto fnExactNextInodeSpec)) fnExactNextInodeUptoCard

/-- THE SECOND FORM's CARD OF 'laws.FnExactNextBlock'. -/
def fnExactNextBlockUptoCard : Claim7 := { stood := { row := fnExactNextBlockUptoRow, standIns := [], harness := (true, "ab7ccdd449f3b0f5f026e28509e60c3ad4dc59ae74cbe0c85e6fdcca4f6a76cc"), looks := false }, kinds := [], alts := [], laidByText := true, laidKinds := [.data, .data, .pinned], laidTests := true, laidLooks := .later }
def FnExactNextBlockUptoCardSaid : Prop := Claim7.holds Tryz.pinned (.plain (OpenSpec.upto fnExactNextBlockSpec)) fnExactNextBlockUptoCard
end Rows
end Go.Proofs.YtmljjdglmlnbaaaGreatDoor
