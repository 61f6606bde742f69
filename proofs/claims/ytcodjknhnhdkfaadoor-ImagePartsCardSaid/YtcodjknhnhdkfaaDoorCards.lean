/-
  DERIVED. GIVEN WITH THE SEED: THE CARDS: each row of YtcodjknhnhdkfaaDoorRows.lean that lists a variable, with what it lists TIED to the program's text (the seventh form; the later family's looks); each row that meets fmt, with fmt's text TOLD by the authors' own Lean function (tested against real Go, not proved from fmt's source: count such statements apart). THE CARD IS WHAT COUNTS. Prove the row's statement (the work); the ties are given (YtcodjknhnhdkfaaDoorTie.lean); close each card by the builder's one call (the guide's Derived/Test/ToyasCard.lean, 'card_holds'). Laid BY PROGRAM, IN A SANDBOX (cutbox-door.mjs). By AI agents, Wed Nov 11 2026. No macro, syntax, notation, axiom, sorry.
-/
import Derived.Test.YtcodjknhnhdkfaaDoorRows
import GoSem.ClaimSeven
namespace Go.Proofs.YtcodjknhnhdkfaaDoor
namespace Rows

/-- THE TIED CARD OF 'complinelaw19.ImageParts'. -/
def imagePartsCard : Claim7 := { stood := { row := imagePartsRow, standIns := [], harness := (true, "5e8f54eb64fd2e905d8b2bd31c13cba15b3226f2f178419d61847fe18b10cf1c"), looks := false }, kinds := [], alts := [], laidByText := true, laidKinds := [.data], laidTests := true, laidLooks := .later }
def ImagePartsCardSaid : Prop := Claim7.holds Tryd.pinned (.plain (OpenSpec.ofChange imagePartsSpec)) imagePartsCard

/-- THE SECOND FORM's CARD OF 'complinelaw19.ImageParts'. -/
def imagePartsUptoCard : Claim7 := { stood := { row := imagePartsUptoRow, standIns := [], harness := (true, "5e8f54eb64fd2e905d8b2bd31c13cba15b3226f2f178419d61847fe18b10cf1c"), looks := false }, kinds := [], alts := [], laidByText := true, laidKinds := [.data], laidTests := true, laidLooks := .later }
def ImagePartsUptoCardSaid : Prop := Claim7.holds Tryd.pinned (.plain (OpenSpec.upto imagePartsSpec)) imagePartsUptoCard
end Rows
end Go.Proofs.YtcodjknhnhdkfaaDoor
