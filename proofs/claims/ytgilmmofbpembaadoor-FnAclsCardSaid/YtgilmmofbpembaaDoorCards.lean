/-
  DERIVED. GIVEN WITH THE SEED: THE CARDS: each row of YtgilmmofbpembaaDoorRows.lean that lists a variable, with what it lists TIED to the program's text (the seventh form; the later family's looks); each row that meets fmt, with fmt's text TOLD by the authors' own Lean function (tested against real Go, not proved from fmt's source: count such statements apart). THE CARD IS WHAT COUNTS. Prove the row's statement (the work); the ties are given (YtgilmmofbpembaaDoorTie.lean); close each card by the builder's one call (the guide's Derived/Test/ToyasCard.lean, 'card_holds'). Laid BY PROGRAM, IN A SANDBOX (cutbox-door.mjs). By AI agents, Wed Nov 11 2026. No macro, syntax, notation, axiom, sorry.
-/
import Derived.Test.YtgilmmofbpembaaDoorRows
import GoSem.ClaimSeven
namespace Go.Proofs.YtgilmmofbpembaaDoor
namespace Rows

/-- THE TIED CARD OF 'laws.FnAcls'. -/
def fnAclsCard : Claim7 := { stood := { row := fnAclsRow, standIns := [], harness := (true, "82c5f99cc3605eb833a1aac75db0ac91b86ea42429243604a363b7b719a9d1f4"), looks := true }, kinds := [], alts := [], laidByText := true, laidKinds := [.data, .data, .data, .sentinel, .sentinel], laidTests := true, laidLooks := .later }
def FnAclsCardSaid : Prop := Claim7.holds Tryd.pinned (.plain (OpenSpec.ofChange fnAclsSpec)) fnAclsCard

/-- THE TIED CARD OF 'laws.FnExactFormatAcl'. -/
def fnExactFormatAclCard : Claim7 := { stood := { row := fnExactFormatAclRow, standIns := [], harness := (true, "82c5f99cc3605eb833a1aac75db0ac91b86ea42429243604a363b7b719a9d1f4"), looks := true }, kinds := [], alts := [], laidByText := true, laidKinds := [.data, .data, .data], laidTests := true, laidLooks := .later }
def FnExactFormatAclCardSaid : Prop := Claim7.holds Tryd.pinned (.plain (OpenSpec.ofChange fnExactFormatAclSpec)) fnExactFormatAclCard

/-- THE TIED CARD OF 'laws.FnExactParseAcl'. -/
def fnExactParseAclCard : Claim7 := { stood := { row := fnExactParseAclRow, standIns := [], harness := (true, "82c5f99cc3605eb833a1aac75db0ac91b86ea42429243604a363b7b719a9d1f4"), looks := true }, kinds := [], alts := [], laidByText := true, laidKinds := [.data, .data, .data, .sentinel, .sentinel], laidTests := true, laidLooks := .later }
def FnExactParseAclCardSaid : Prop := Claim7.holds Tryd.pinned (.plain (OpenSpec.ofChange fnExactParseAclSpec)) fnExactParseAclCard

/-- THE SECOND FORM's CARD OF 'laws.FnAcls'. -/
def fnAclsUptoCard : Claim7 := { stood := { row := fnAclsUptoRow, standIns := [], harness := (true, "82c5f99cc3605eb833a1aac75db0ac91b86ea42429243604a363b7b719a9d1f4"), looks := true }, kinds := [], alts := [], laidByText := true, laidKinds := [.data, .data, .data, .sentinel, .sentinel], laidTests := true, laidLooks := .later }
def FnAclsUptoCardSaid : Prop := Claim7.holds Tryd.pinned (.plain (OpenSpec.upto fnAclsSpec)) fnAclsUptoCard

/-- THE SECOND FORM's CARD OF 'laws.FnExactFormatAcl'. -/
def fnExactFormatAclUptoCard : Claim7 := { stood := { row := fnExactFormatAclUptoRow, standIns := [], harness := (true, "82c5f99cc3605eb833a1aac75db0ac91b86ea42429243604a363b7b719a9d1f4"), looks := true }, kinds := [], alts := [], laidByText := true, laidKinds := [.data, .data, .data], laidTests := true, laidLooks := .later }
def FnExactFormatAclUptoCardSaid : Prop := Claim7.holds Tryd.pinned (.plain (OpenSpec.upto fnExactFormatAclSpec)) fnExactFormatAclUptoCard

/-- THE SECOND FORM's CARD OF 'laws.FnExactParseAcl'. -/
def fnExactParseAclUptoCard : Claim7 := { stood := { row := fnExactParseAclUptoRow, standIns := [], harness := (true, "82c5f99cc3605eb833a1aac75db0ac91b86ea42429243604a363b7b719a9d1f4"), looks := true }, kinds := [], alts := [], laidByText := true, laidKinds := [.data, .data, .data, .sentinel, .sentinel], laidTests := true, laidLooks := .later }
def FnExactParseAclUptoCardSaid : Prop := Claim7.holds Tryd.pinned (.plain (OpenSpec.upto fnExactParseAclSpec)) fnExactParseAclUptoCard
end Rows
end Go.Proofs.YtgilmmofbpembaaDoor
