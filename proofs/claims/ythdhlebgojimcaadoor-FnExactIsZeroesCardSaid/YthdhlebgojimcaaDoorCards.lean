/-
  DERIVED. GIVEN WITH THE SEED: THE CARDS: each row of YthdhlebgojimcaaDoorRows.lean that lists a variable, with what it lists TIED to the program's text (the seventh form; the later family's looks); each row that meets fmt, with fmt's text TOLD by the authors' own Lean function (tested against real Go, not proved from fmt's source: count such statements apart). THE CARD IS WHAT COUNTS. Prove the row's statement (the work); the ties are given (YthdhlebgojimcaaDoorTie.lean); close each card by the builder's one call (the guide's Derived/Test/ToyasCard.lean, 'card_holds'). Laid BY PROGRAM, IN A SANDBOX (cutbox-door.mjs). By AI agents, Wed Nov 11 2026. No macro, syntax, notation, axiom, sorry.
-/
import Derived.Test.YthdhlebgojimcaaDoorRows
import GoSem.ClaimSeven
namespace Go.Proofs.YthdhlebgojimcaaDoor
namespace Rows

/-- THE TIED CARD OF 'laws.FnExactIsZeroes'. -/
def fnExactIsZeroesCard : Claim7 := { stood := { row := fnExactIsZeroesRow, standIns := [], harness := (true, "44c22088a5eb01c3f62d976e6da48f7bfac9f776192e163b9318350120a1d014"), looks := false }, kinds := [], alts := [], laidByText := true, laidKinds := [.data, .pinned], laidTests := true, laidLooks := .later }
def FnExactIsZeroesCardSaid : Prop := Claim7.holds Tryd.pinned (.plain (OpenSpec.ofChange fnExactIsZeroesSpec)) fnExactIsZeroesCard

/-- THE SECOND FORM's CARD OF 'laws.FnExactIsZeroes'. -/
def fnExactIsZeroesUptoCard : Claim7 := { stood := { row := fnExactIsZeroesUptoRow, standIns := [], harness := (true, "44c22088a5eb01c3f62d976e6da48f7bfac9f776192e163b9318350120a1d014"), looks := false }, kinds := [], alts := [], laidByText := true, laidKinds := [.data, .pinned], laidTests := true, laidLooks := .later }
def FnExactIsZeroesUptoCardSaid : Prop := Claim7.holds Tryd.pinned (.plain (OpenSpec.upto fnExactIsZeroesSpec)) fnExactIsZeroesUptoCard
end Rows
end Go.Proofs.YthdhlebgojimcaaDoor
