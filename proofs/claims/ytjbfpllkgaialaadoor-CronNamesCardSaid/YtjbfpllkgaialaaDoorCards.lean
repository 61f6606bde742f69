/-
  DERIVED. GIVEN WITH THE SEED: THE CARDS: each row of YtjbfpllkgaialaaDoorRows.lean that lists a variable, with what it lists TIED to the program's text (the seventh form; the later family's looks); each row that meets fmt, with fmt's text TOLD by the authors' own Lean function (tested against real Go, not proved from fmt's source: count such statements apart). THE CARD IS WHAT COUNTS. Prove the row's statement (the work); the ties are given (YtjbfpllkgaialaaDoorTie.lean); close each card by the builder's one call (the guide's Derived/Test/ToyasCard.lean, 'card_holds'). Laid BY PROGRAM, IN A SANDBOX (cutbox-door.mjs). By AI agents, Wed Nov 11 2026. No macro, syntax, notation, axiom, sorry.
-/
import Derived.Test.YtjbfpllkgaialaaDoorRows
import GoSem.ClaimSeven
namespace Go.Proofs.YtjbfpllkgaialaaDoor
namespace Rows

/-- THE TIED CARD OF 'complinelaw07.CronNames'. -/
def cronNamesCard : Claim7 := { stood := { row := cronNamesRow, standIns := [], harness := (true, "5a012e10fbf70ed5007ad192b175e4e40219f058a8ec8a0ea1b81c3a6d592d47"), looks := false }, kinds := [], alts := [], laidByText := true, laidKinds := [.data, .wider, .pinned], laidTests := true, laidLooks := .later }
def CronNamesCardSaid : Prop := Claim7.holds Tryd.pinned (.plain (OpenSpec.ofChange cronNamesSpec)) cronNamesCard

/-- THE TIED CARD OF 'complinelaw07.CronTexts'. -/
def cronTextsCard : Claim7 := { stood := { row := cronTextsRow, standIns := [], harness := (true, "5a012e10fbf70ed5007ad192b175e4e40219f058a8ec8a0ea1b81c3a6d592d47"), looks := false }, kinds := [], alts := [], laidByText := true, laidKinds := [.data, .data, .data, .data, .wider, .pinned], laidTests := true, laidLooks := .later }
def CronTextsCardSaid : Prop := Claim7.holds Tryd.pinned (.plain (OpenSpec.ofChange cronTextsSpec)) cronTextsCard

/-- THE TIED CARD OF 'complinelaw07.CronValues'. -/
def cronValuesCard : Claim7 := { stood := { row := cronValuesRow, standIns := [], harness := (true, "5a012e10fbf70ed5007ad192b175e4e40219f058a8ec8a0ea1b81c3a6d592d47"), looks := false }, kinds := [], alts := [], laidByText := true, laidKinds := [.data, .data, .data, .data, .wider, .pinned], laidTests := true, laidLooks := .later }
def CronValuesCardSaid : Prop := Claim7.holds Tryd.pinned (.plain (OpenSpec.ofChange cronValuesSpec)) cronValuesCard

/-- THE TIED CARD OF 'complinelaw07.CronLists'. -/
def cronListsCard : Claim7 := { stood := { row := cronListsRow, standIns := [], harness := (true, "5a012e10fbf70ed5007ad192b175e4e40219f058a8ec8a0ea1b81c3a6d592d47"), looks := false }, kinds := [], alts := [], laidByText := true, laidKinds := [.data, .wider, .pinned], laidTests := true, laidLooks := .later }
def CronListsCardSaid : Prop := Claim7.holds Tryd.pinned (.plain (OpenSpec.ofChange cronListsSpec)) cronListsCard

/-- THE SECOND FORM's CARD OF 'complinelaw07.CronNames'. -/
def cronNamesUptoCard : Claim7 := { stood := { row := cronNamesUptoRow, standIns := [], harness := (true, "5a012e10fbf70ed5007ad192b175e4e40219f058a8ec8a0ea1b81c3a6d592d47"), looks := false }, kinds := [], alts := [], laidByText := true, laidKinds := [.data, .wider, .pinned], laidTests := true, laidLooks := .later }
def CronNamesUptoCardSaid : Prop := Claim7.holds Tryd.pinned (.plain (OpenSpec.upto cronNamesSpec)) cronNamesUptoCard

/-- THE SECOND FORM's CARD OF 'complinelaw07.CronTexts'. -/
def cronTextsUptoCard : Claim7 := { stood := { row := cronTextsUptoRow, standIns := [], harness := (true, "5a012e10fbf70ed5007ad192b175e4e40219f058a8ec8a0ea1b81c3a6d592d47"), looks := false }, kinds := [], alts := [], laidByText := true, laidKinds := [.data, .data, .data, .data, .wider, .pinned], laidTests := true, laidLooks := .later }
def CronTextsUptoCardSaid : Prop := Claim7.holds Tryd.pinned (.plain (OpenSpec.upto cronTextsSpec)) cronTextsUptoCard

/-- THE SECOND FORM's CARD OF 'complinelaw07.CronValues'. -/
def cronValuesUptoCard : Claim7 := { stood := { row := cronValuesUptoRow, standIns := [], harness := (true, "5a012e10fbf70ed5007ad192b175e4e40219f058a8ec8a0ea1b81c3a6d592d47"), looks := false }, kinds := [], alts := [], laidByText := true, laidKinds := [.data, .data, .data, .data, .wider, .pinned], laidTests := true, laidLooks := .later }
def CronValuesUptoCardSaid : Prop := Claim7.holds Tryd.pinned (.plain (OpenSpec.upto cronValuesSpec)) cronValuesUptoCard

/-- THE SECOND FORM's CARD OF 'complinelaw07.CronLists'. -/
def cronListsUptoCard : Claim7 := { stood := { row := cronListsUptoRow, standIns := [], harness := (true, "5a012e10fbf70ed5007ad192b175e4e40219f058a8ec8a0ea1b81c3a6d592d47"), looks := false }, kinds := [], alts := [], laidByText := true, laidKinds := [.data, .wider, .pinned], laidTests := true, laidLooks := .later }
def CronListsUptoCardSaid : Prop := Claim7.holds Tryd.pinned (.plain (OpenSpec.upto cronListsSpec)) cronListsUptoCard
end Rows
end Go.Proofs.YtjbfpllkgaialaaDoor
