/-
  DERIVED. GIVEN WITH THE SEED: THE CARDS: each row of YtmljjdglmlnbaaaDoorRows.lean that lists a variable, with what it lists TIED to the program's text (the seventh form; the later family's looks); each row that meets fmt, with fmt's text TOLD by the authors' own Lean function (tested against real Go, not proved from fmt's source: count such statements apart). THE CARD IS WHAT COUNTS. Prove the row's statement (the work); the ties are given (YtmljjdglmlnbaaaDoorTie.lean); close each card by the builder's one call (the guide's Derived/Test/ToyasCard.lean, 'card_holds'). Laid BY PROGRAM, IN A SANDBOX (cutbox-door.mjs). By AI agents, Wed Nov 11 2026. No macro, syntax, notation, axiom, sorry.
-/
import Derived.Test.YtmljjdglmlnbaaaDoorRows
import GoSem.ClaimSeven
namespace Go.Proofs.YtmljjdglmlnbaaaDoor
namespace Rows

/-- THE TIED CARD OF 'laws.FnExactErrorName'. -/
def fnExactErrorNameCard : Claim7 := { stood := { row := fnExactErrorNameRow, standIns := [], harness := (true, "d47d68c32ddfa3842f2e711d1af7d20d210aef42b9da9c54817f298385f17042"), looks := false }, kinds := [], alts := [], laidByText := true, laidKinds := [.data], laidTests := true, laidLooks := .later }
def FnExactErrorNameCardSaid : Prop := Claim7.holds Tryd.pinned (.plain (OpenSpec.ofChange fnExactErrorNameSpec)) fnExactErrorNameCard

/-- THE TIED CARD OF 'laws.FnExactIsFS'. -/
def fnExactIsFSCard : Claim7 := { stood := { row := fnExactIsFSRow, standIns := [], harness := (true, "d47d68c32ddfa3842f2e711d1af7d20d210aef42b9da9c54817f298385f17042"), looks := false }, kinds := [], alts := [], laidByText := true, laidKinds := [.data, .data, .pinned], laidTests := true, laidLooks := .later }
def FnExactIsFSCardSaid : Prop := Claim7.holds Tryd.pinned (.plain (OpenSpec.ofChange fnExactIsFSSpec)) fnExactIsFSCard

/-- THE TIED CARD OF 'laws.FnExactBlocksOf'. -/
def fnExactBlocksOfCard : Claim7 := { stood := { row := fnExactBlocksOfRow, standIns := [], harness := (true, "d47d68c32ddfa3842f2e711d1af7d20d210aef42b9da9c54817f298385f17042"), looks := false }, kinds := [], alts := [], laidByText := true, laidKinds := [.data, .data, .pinned], laidTests := true, laidLooks := .later }
def FnExactBlocksOfCardSaid : Prop := Claim7.holds Tryd.pinned (.plain (OpenSpec.ofChange fnExactBlocksOfSpec)) fnExactBlocksOfCard

/-- THE SECOND FORM's CARD OF 'laws.FnExactErrorName'. -/
def fnExactErrorNameUptoCard : Claim7 := { stood := { row := fnExactErrorNameUptoRow, standIns := [], harness := (true, "d47d68c32ddfa3842f2e711d1af7d20d210aef42b9da9c54817f298385f17042"), looks := false }, kinds := [], alts := [], laidByText := true, laidKinds := [.data], laidTests := true, laidLooks := .later }
def FnExactErrorNameUptoCardSaid : Prop := Claim7.holds Tryd.pinned (.plain (OpenSpec.upto fnExactErrorNameSpec)) fnExactErrorNameUptoCard

/-- THE SECOND FORM's CARD OF 'laws.FnExactIsFS'. -/
def fnExactIsFSUptoCard : Claim7 := { stood := { row := fnExactIsFSUptoRow, standIns := [], harness := (true, "d47d68c32ddfa3842f2e711d1af7d20d210aef42b9da9c54817f298385f17042"), looks := false }, kinds := [], alts := [], laidByText := true, laidKinds := [.data, .data, .pinned], laidTests := true, laidLooks := .later }
def FnExactIsFSUptoCardSaid : Prop := Claim7.holds Tryd.pinned (.plain (OpenSpec.upto fnExactIsFSSpec)) fnExactIsFSUptoCard

/-- THE SECOND FORM's CARD OF 'laws.FnExactBlocksOf'. -/
def fnExactBlocksOfUptoCard : Claim7 := { stood := { row := fnExactBlocksOfUptoRow, standIns := [], harness := (true, "d47d68c32ddfa3842f2e711d1af7d20d210aef42b9da9c54817f298385f17042"), looks := false }, kinds := [], alts := [], laidByText := true, laidKinds := [.data, .data, .pinned], laidTests := true, laidLooks := .later }
def FnExactBlocksOfUptoCardSaid : Prop := Claim7.holds Tryd.pinned (.plain (OpenSpec.upto fnExactBlocksOfSpec)) fnExactBlocksOfUptoCard
end Rows
end Go.Proofs.YtmljjdglmlnbaaaDoor
