/-
  DERIVED. GIVEN WITH THE SEED: THE CARDS: each row of YthobdeidjagnhaaDoorRows.lean that lists a variable, with what it lists TIED to the program's text (the seventh form; the later family's looks); each row that meets fmt, with fmt's text TOLD by the authors' own Lean function (tested against real Go, not proved from fmt's source: count such statements apart). THE CARD IS WHAT COUNTS. Prove the row's statement (the work); the ties are given (YthobdeidjagnhaaDoorTie.lean); close each card by the builder's one call (the guide's Derived/Test/ToyasCard.lean, 'card_holds'). Laid BY PROGRAM, IN A SANDBOX (cutbox-door.mjs). By AI agents, Wed Nov 11 2026. No macro, syntax, notation, axiom, sorry.
-/
import Derived.Test.YthobdeidjagnhaaDoorRows
import GoSem.ClaimSeven
namespace Go.Proofs.YthobdeidjagnhaaDoor
namespace Rows

/-- THE TIED CARD OF 'laws.FnInodes'. -/
def fnInodesCard : Claim7 := { stood := { row := fnInodesRow, standIns := [], harness := (true, "ebcbe4b522939667c9dc81c6c327753568bf88658a6289871e03ce974811e2ba"), looks := false }, kinds := [], alts := [], laidByText := true, laidKinds := [.data], laidTests := true, laidLooks := .later }
def FnInodesCardSaid : Prop := Claim7.holds Tryd.pinned (.plain (OpenSpec.ofChange fnInodesSpec)) fnInodesCard

/-- THE TIED CARD OF 'laws.FnExactIsInode'. -/
def fnExactIsInodeCard : Claim7 := { stood := { row := fnExactIsInodeRow, standIns := [], harness := (true, "ebcbe4b522939667c9dc81c6c327753568bf88658a6289871e03ce974811e2ba"), looks := false }, kinds := [], alts := [], laidByText := true, laidKinds := [.data], laidTests := true, laidLooks := .later }
def FnExactIsInodeCardSaid : Prop := Claim7.holds Tryd.pinned (.plain (OpenSpec.ofChange fnExactIsInodeSpec)) fnExactIsInodeCard

/-- THE TIED CARD OF 'laws.FnExactPackInode'. -/
def fnExactPackInodeCard : Claim7 := { stood := { row := fnExactPackInodeRow, standIns := [], harness := (true, "ebcbe4b522939667c9dc81c6c327753568bf88658a6289871e03ce974811e2ba"), looks := false }, kinds := [], alts := [], laidByText := true, laidKinds := [.data], laidTests := true, laidLooks := .later }
def FnExactPackInodeCardSaid : Prop := Claim7.holds Tryd.pinned (.plain (OpenSpec.ofChange fnExactPackInodeSpec)) fnExactPackInodeCard

/-- THE TIED CARD OF 'laws.FnExactUnpackInode'. -/
def fnExactUnpackInodeCard : Claim7 := { stood := { row := fnExactUnpackInodeRow, standIns := [], harness := (true, "ebcbe4b522939667c9dc81c6c327753568bf88658a6289871e03ce974811e2ba"), looks := false }, kinds := [], alts := [], laidByText := true, laidKinds := [.data], laidTests := true, laidLooks := .later }
def FnExactUnpackInodeCardSaid : Prop := Claim7.holds Tryd.pinned (.plain (OpenSpec.ofChange fnExactUnpackInodeSpec)) fnExactUnpackInodeCard

/-- THE SECOND FORM's CARD OF 'laws.FnInodes'. -/
def fnInodesUptoCard : Claim7 := { stood := { row := fnInodesUptoRow, standIns := [], harness := (true, "ebcbe4b522939667c9dc81c6c327753568bf88658a6289871e03ce974811e2ba"), looks := false }, kinds := [], alts := [], laidByText := true, laidKinds := [.data], laidTests := true, laidLooks := .later }
def FnInodesUptoCardSaid : Prop := Claim7.holds Tryd.pinned (.plain (OpenSpec.upto fnInodesSpec)) fnInodesUptoCard

/-- THE SECOND FORM's CARD OF 'laws.FnExactIsInode'. -/
def fnExactIsInodeUptoCard : Claim7 := { stood := { row := fnExactIsInodeUptoRow, standIns := [], harness := (true, "ebcbe4b522939667c9dc81c6c327753568bf88658a6289871e03ce974811e2ba"), looks := false }, kinds := [], alts := [], laidByText := true, laidKinds := [.data], laidTests := true, laidLooks := .later }
def FnExactIsInodeUptoCardSaid : Prop := Claim7.holds Tryd.pinned (.plain (OpenSpec.upto fnExactIsInodeSpec)) fnExactIsInodeUptoCard

/-- THE SECOND FORM's CARD OF 'laws.FnExactPackInode'. -/
def fnExactPackInodeUptoCard : Claim7 := { stood := { row := fnExactPackInodeUptoRow, standIns := [], harness := (true, "ebcbe4b522939667c9dc81c6c327753568bf88658a6289871e03ce974811e2ba"), looks := false }, kinds := [], alts := [], laidByText := true, laidKinds := [.data], laidTests := true, laidLooks := .later }
def FnExactPackInodeUptoCardSaid : Prop := Claim7.holds Tryd.pinned (.plain (OpenSpec.upto fnExactPackInodeSpec)) fnExactPackInodeUptoCard

/-- THE SECOND FORM's CARD OF 'laws.FnExactUnpackInode'. -/
def fnExactUnpackInodeUptoCard : Claim7 := { stood := { row := fnExactUnpackInodeUptoRow, standIns := [], harness := (true, "ebcbe4b522939667c9dc81c6c327753568bf88658a6289871e03ce974811e2ba"), looks := false }, kinds := [], alts := [], laidByText := true, laidKinds := [.data], laidTests := true, laidLooks := .later }
def FnExactUnpackInodeUptoCardSaid : Prop := Claim7.holds Tryd.pinned (.plain (OpenSpec.upto fnExactUnpackInodeSpec)) fnExactUnpackInodeUptoCard
end Rows
end Go.Proofs.YthobdeidjagnhaaDoor
