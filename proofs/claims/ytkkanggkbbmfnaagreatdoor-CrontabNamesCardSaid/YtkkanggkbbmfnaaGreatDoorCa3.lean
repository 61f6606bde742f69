
/- the calendar's example; the walks of CalendarMonths and CalendarEras -/
import Derived.Test.YtkkanggkbbmfnaaGreatDoorCa2
namespace Go.Proofs.YtkkanggkbbmfnaaGreatDoor.Ca
open Go.RowKit Go.Lib
set_option linter.unusedVariables false

theorem bcell {W w1 : World} (hb : Below W.heap.size W w1) : (∀ b o, b < W.heap.size → w1.cell? ⟨b, o, none⟩ = W.cell? ⟨b, o, none⟩) ∧ (∀ b o, b < W.heap.size → w1.frozen? ⟨b, o, none⟩ = W.frozen? ⟨b, o, none⟩) :=
  ⟨fun b o h => hb.cell (p := ⟨b, o, none⟩) h, fun b o h => hb.frozen (p := ⟨b, o, none⟩) h⟩
theorem old_blk {w w' : World} {b : Nat} {o : Obj} (hb : Below w.heap.size w w') (h : w.heap[b]? = some o) : w'.heap[b]? = some o := (hb.block b (by
  have := (Array.getElem?_eq_some_iff.1 h).1; exact this)).trans h

end Go.Proofs.YtkkanggkbbmfnaaGreatDoor.Ca
