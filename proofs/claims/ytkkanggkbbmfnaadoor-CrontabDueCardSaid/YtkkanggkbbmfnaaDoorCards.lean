/-
  DERIVED. GIVEN WITH THE SEED: THE CARDS: each row of YtkkanggkbbmfnaaDoorRows.lean that lists a variable, with what it lists TIED to the program's text (the seventh form; the later family's looks); each row that meets fmt, with fmt's text TOLD by the authors' own Lean function (tested against real Go, not proved from fmt's source: count such statements apart). THE CARD IS WHAT COUNTS. Prove the row's statement (the work); the ties are given (YtkkanggkbbmfnaaDoorTie.lean); close each card by the builder's one call (the guide's Derived/Test/ToyasCard.lean, 'card_holds'). Laid BY PROGRAM, IN A SANDBOX (cutbox-door.mjs). By AI agents, Wed Nov 11 2026. No macro, syntax, notation, axiom, sorry.
-/
import Derived.Test.YtkkanggkbbmfnaaDoorRows
import GoSem.ClaimSeven
namespace Go.Proofs.YtkkanggkbbmfnaaDoor
namespace Rows

/-- THE TIED CARD OF 'complinelaw16.CrontabDue'. -/
def crontabDueCard : Claim7 := { stood := { row := crontabDueRow, standIns := [], harness := (true, "664c8423a611cfdba12e40f6b54b53bf7e2df0aaced0ad9c3ba551b13531c598"), looks := false }, kinds := [], alts := [], laidByText := true, laidKinds := [.data, .data, .wider, .pinned], laidTests := true, laidLooks := .later }
def CrontabDueCardSaid : Prop := Claim7.holds Tryd.pinned (.plain (OpenSpec.ofChange crontabDueSpec)) crontabDueCard

/-- THE TIED CARD OF 'complinelaw16.CrontabParts'. -/
def crontabPartsCard : Claim7 := { stood := { row := crontabPartsRow, standIns := [], harness := (true, "664c8423a611cfdba12e40f6b54b53bf7e2df0aaced0ad9c3ba551b13531c598"), looks := false }, kinds := [], alts := [], laidByText := true, laidKinds := [.data, .data, .wider, .pinned], laidTests := true, laidLooks := .later }
def CrontabPartsCardSaid : Prop := Claim7.holds Tryd.pinned (.plain (OpenSpec.ofChange crontabPartsSpec)) crontabPartsCard

/-- THE SECOND FORM's CARD OF 'complinelaw16.CrontabDue'. -/
def crontabDueUptoCard : Claim7 := { stood := { row := crontabDueUptoRow, standIns := [], harness := (true, "664c8423a611cfdba12e40f6b54b53bf7e2df0aaced0ad9c3ba551b13531c598"), looks := false }, kinds := [], alts := [], laidByText := true, laidKinds := [.data, .data, .wider, .pinned], laidTests := true, laidLooks := .later }
def CrontabDueUptoCardSaid : Prop := Claim7.holds Tryd.pinned (.plain (OpenSpec.upto crontabDueSpec)) crontabDueUptoCard

/-- THE SECOND FORM's CARD OF 'complinelaw16.CrontabParts'. -/
def crontabPartsUptoCard : Claim7 := { stood := { row := crontabPartsUptoRow, standIns := [], harness := (true, "664c8423a611cfdba12e40f6b54b53bf7e2df0aaced0ad9c3ba551b13531c598"), looks := false }, kinds := [], alts := [], laidByText := true, laidKinds := [.data, .data, .wider, .pinned], laidTests := true, laidLooks := .later }
def CrontabPartsUptoCardSaid : Prop := Claim7.holds Tryd.pinned (.plain (OpenSpec.upto crontabPartsSpec)) crontabPartsUptoCard
end Rows
end Go.Proofs.YtkkanggkbbmfnaaDoor
