
/- the calendar's example; the walks of CalendarMonths and CalendarEras -/
import Derived.Test.YtipcfdiibbehbaaDoorCa2
namespace Go.Proofs.YtipcfdiibbehbaaDoor.Ca
open Go.RowKit Go.Lib
set_option linter.unusedVariables false

theorem bcell {W w1 : World} (hb : Below W.heap.size W w1) : (∀ b o, b < W.heap.size → w1.cell? ⟨b, o, none⟩ = W.cell? ⟨b, o, none⟩) ∧ (∀ b o, b < W.heap.size → w1.frozen? ⟨b, o, none⟩ = W.frozen? ⟨b, o, none⟩) :=
  ⟨fun b o h => hb.cell (p := ⟨b, o, none⟩) h, fun b o h => hb.frozen (p := ⟨b, o, none⟩) h⟩
theorem old_blk {w w' : World} {b : Nat} {o : Obj} (hb : Below w.heap.size w w') (h : w.heap[b]? = some o) : w'.heap[b]? = some o := (hb.block b (by
  have := (Array.getElem?_eq_some_iff.1 h).1; exact this)).trans h

theorem lives06_any (w : World) : Calls Tryd.prog 4 #[] w fun e w' => e = .returned (.bool true) ∧ Below w.heap.size w w' := by
  go_enter Tryd.func4, Tryd.ntmps4
  go_wp2_with fail
  refine (Of_in 1440 w (by omega) (by omega)).mono ?_
  rintro e w' ⟨y, mo, d, wd, h, mi, rfl, hi, hb⟩
  obtain ⟨rfl, rfl, rfl, rfl, rfl, rfl⟩ := isM_1440.same hi
  clear hi
  go_wp2_with fail
  go_ret
  exact ⟨rfl, hb.alloc (by have := hb.size; omega) _⟩

end Go.Proofs.YtipcfdiibbehbaaDoor.Ca
