/-
  DERIVED. GIVEN WITH THE SEED: THE CARDS: each row of YtkkanggkbbmfnaaGreatDoorRows.lean that lists a variable, with what it lists TIED to the program's text (the seventh form; the later family's looks); each row that meets fmt, with fmt's text TOLD by the authors' own Lean function (tested against real Go, not proved from fmt's source: count such statements apart). THE CARD IS WHAT COUNTS. Prove the row's statement (the work); the ties are given (YtkkanggkbbmfnaaGreatDoorTie.lean); close each card by the builder's one call (the guide's Derived/Test/ToyasCard.lean, 'card_holds'). Laid BY PROGRAM, IN A SANDBOX (cutbox-door.mjs). By AI agents, Wed Nov 11 2026. No macro, syntax, notation, axiom, sorry.
-/
import Derived.Test.YtkkanggkbbmfnaaGreatDoorRows
import GoSem.ClaimSeven
namespace Go.Proofs.YtkkanggkbbmfnaaGreatDoor
namespace Rows

/-- THE TIED CARD OF 'complinelaw16.CrontabNames'. -/
def crontabNamesCard : Claim7 := { stood := { row := crontabNamesRow, standIns := [], harness := (true, "b76a293a3631ef3b2f2f3ae292434da94446746b4c20808ac9d76799d2ff00de"), looks := true }, kinds := [], alts := [], laidByText := true, laidKinds := [.data, .data, .data, .data, .sentinel, .sentinel, .wider, .pinned], laidTests := true, laidLooks := .later }
def CrontabNamesCardSaid : Prop := Claim7.holds Tryz.pinned (.plain (OpenSpec.ofChange crontabNamesSpec)) crontabNamesCard

/-- THE SECOND FORM's CARD OF 'complinelaw16.CrontabNames'. -/
def crontabNamesUptoCard : Claim7 := { stood := { row := crontabNamesUptoRow, standIns := [], harness := (true, "b76a293a3631ef3b2f2f3ae292434da94446746b4c20808ac9d76799d2ff00de"), looks := true }, kinds := [], alts := [], laidByText := true, laidKinds := [.data, .data, .data, .data, .sentinel, .sentinel, .wider, .pinned], laidTests := true, laidLooks := .later }
def CrontabNamesUptoCardSaid : Prop := Claim7.holds Tryz.pinned (.plain (OpenSpec.upto crontabNamesSpec)) crontabNamesUptoCard
end Rows
end Go.Proofs.YtkkanggkbbmfnaaGreatDoor
