/-
  DERIVED. GIVEN WITH THE SEED: THE CARDS: each row of YtheaimlfngaaoaaDoorRows.lean that lists a variable, with what it lists TIED to the program's text (the seventh form; the later family's looks); each row that meets fmt, with fmt's text TOLD by the authors' own Lean function (tested against real Go, not proved from fmt's source: count such statements apart). THE CARD IS WHAT COUNTS. Prove the row's statement (the work); the ties are given (YtheaimlfngaaoaaDoorTie.lean); close each card by the builder's one call (the guide's Derived/Test/ToyasCard.lean, 'card_holds'). Laid BY PROGRAM, IN A SANDBOX (cutbox-door.mjs). By AI agents, Wed Nov 11 2026. No macro, syntax, notation, axiom, sorry.
-/
import Derived.Test.YtheaimlfngaaoaaDoorRows
import GoSem.ClaimSeven
namespace Go.Proofs.YtheaimlfngaaoaaDoor
namespace Rows

/-- THE TIED CARD OF 'complinelaw08.FiresNext'. -/
def firesNextCard : Claim7 := { stood := { row := firesNextRow, standIns := [], harness := (true, "e28d809337d86055c0fb1be72315b136d77ed7b29a3bab96208968430d03e496"), looks := false }, kinds := [], alts := [], laidByText := true, laidKinds := [.data, .data, .wider, .pinned], laidTests := true, laidLooks := .later }
def FiresNextCardSaid : Prop := Claim7.holds Tryd.pinned (.plain (OpenSpec.ofChange firesNextSpec)) firesNextCard

/-- THE TIED CARD OF 'complinelaw08.FiresBetween'. -/
def firesBetweenCard : Claim7 := { stood := { row := firesBetweenRow, standIns := [], harness := (true, "e28d809337d86055c0fb1be72315b136d77ed7b29a3bab96208968430d03e496"), looks := false }, kinds := [], alts := [], laidByText := true, laidKinds := [.data, .data, .wider, .pinned], laidTests := true, laidLooks := .later }
def FiresBetweenCardSaid : Prop := Claim7.holds Tryd.pinned (.plain (OpenSpec.ofChange firesBetweenSpec)) firesBetweenCard

/-- THE TIED CARD OF 'complinelaw08.FiresEras'. -/
def firesErasCard : Claim7 := { stood := { row := firesErasRow, standIns := [], harness := (true, "e28d809337d86055c0fb1be72315b136d77ed7b29a3bab96208968430d03e496"), looks := false }, kinds := [], alts := [], laidByText := true, laidKinds := [.data, .data, .wider, .pinned], laidTests := true, laidLooks := .later }
def FiresErasCardSaid : Prop := Claim7.holds Tryd.pinned (.plain (OpenSpec.ofChange firesErasSpec)) firesErasCard

/-- THE TIED CARD OF 'complinelaw08.FiresParts'. -/
def firesPartsCard : Claim7 := { stood := { row := firesPartsRow, standIns := [], harness := (true, "e28d809337d86055c0fb1be72315b136d77ed7b29a3bab96208968430d03e496"), looks := false }, kinds := [], alts := [], laidByText := true, laidKinds := [.data, .data, .wider, .pinned], laidTests := true, laidLooks := .later }
def FiresPartsCardSaid : Prop := Claim7.holds Tryd.pinned (.plain (OpenSpec.ofChange firesPartsSpec)) firesPartsCard

/-- THE SECOND FORM's CARD OF 'complinelaw08.FiresNext'. -/
def firesNextUptoCard : Claim7 := { stood := { row := firesNextUptoRow, standIns := [], harness := (true, "e28d809337d86055c0fb1be72315b136d77ed7b29a3bab96208968430d03e496"), looks := false }, kinds := [], alts := [], laidByText := true, laidKinds := [.data, .data, .wider, .pinned], laidTests := true, laidLooks := .later }
def FiresNextUptoCardSaid : Prop := Claim7.holds Tryd.pinned (.plain (OpenSpec.upto firesNextSpec)) firesNextUptoCard

/-- THE SECOND FORM's CARD OF 'complinelaw08.FiresBetween'. -/
def firesBetweenUptoCard : Claim7 := { stood := { row := firesBetweenUptoRow, standIns := [], harness := (true, "e28d809337d86055c0fb1be72315b136d77ed7b29a3bab96208968430d03e496"), looks := false }, kinds := [], alts := [], laidByText := true, laidKinds := [.data, .data, .wider, .pinned], laidTests := true, laidLooks := .later }
def FiresBetweenUptoCardSaid : Prop := Claim7.holds Tryd.pinned (.plain (OpenSpec.upto firesBetweenSpec)) firesBetweenUptoCard

/-- THE SECOND FORM's CARD OF 'complinelaw08.FiresEras'. -/
def firesErasUptoCard : Claim7 := { stood := { row := firesErasUptoRow, standIns := [], harness := (true, "e28d809337d86055c0fb1be72315b136d77ed7b29a3bab96208968430d03e496"), looks := false }, kinds := [], alts := [], laidByText := true, laidKinds := [.data, .data, .wider, .pinned], laidTests := true, laidLooks := .later }
def FiresErasUptoCardSaid : Prop := Claim7.holds Tryd.pinned (.plain (OpenSpec.upto firesErasSpec)) firesErasUptoCard

/-- THE SECOND FORM's CARD OF 'complinelaw08.FiresParts'. -/
def firesPartsUptoCard : Claim7 := { stood := { row := firesPartsUptoRow, standIns := [], harness := (true, "e28d809337d86055c0fb1be72315b136d77ed7b29a3bab96208968430d03e496"), looks := false }, kinds := [], alts := [], laidByText := true, laidKinds := [.data, .data, .wider, .pinned], laidTests := true, laidLooks := .later }
def FiresPartsUptoCardSaid : Prop := Claim7.holds Tryd.pinned (.plain (OpenSpec.upto firesPartsSpec)) firesPartsUptoCard
end Rows
end Go.Proofs.YtheaimlfngaaoaaDoor
