
/- wheels: a wheel built -/
import Derived.Test.YtcafiehlhdoibaaWh9
namespace Go.Proofs.Ytcafiehlhdoibaa.Wh
open Go.RowKit Go.Lib Go.Sort Go.Maps Hp Ht
set_option linter.unusedVariables false
set_option maxRecDepth 200000
def wcn (n : Nat) : Array Value := #[.int .i64 0, .int .i64 0, .map none] ++ Array.replicate n (.map none)
theorem wcn_cells (n : Nat) : (wcn n).size = 3 + n ∧ ∀ s, s < n → (wcn n)[3 + s]? = some (.map none) := by
  unfold wcn
  refine ⟨by simp, fun s hs => ?_⟩
  rw [Array.getElem?_append]
  rw [if_neg (by simp)]
  simp [hs]
theorem run_zero (w : World) : (zeroValue 67).run Try.prog w = .ok (.agg (wcn 449)) w := by kernel_rfl
theorem run_box (C : Array Value) (w : World) : (Instr.box 67 (.agg C)).run Try.prog w = .ok (.pointer (some ⟨w.heap.size, 0, none⟩)) (w.alloc (.cells C 67)) := by kernel_rfl
theorem wcn_zero : ∃ Z : Array Value, (∀ w, (zeroValue 67).run Try.prog w = .ok (.agg Z) w) ∧ Z.size = 452 ∧ Z ≠ #[] ∧ ∀ s, s < 449 → Z[3 + s]? = some (.map none) := by
  obtain ⟨h1, h2⟩ := wcn_cells 449
  exact ⟨_, run_zero, h1, fun e => by rw [e] at h1; simp at h1, h2⟩
theorem set_cells {Z : Array Value} (h1 : Z.size = 452) (h2 : ∀ s, s < 449 → Z[3 + s]? = some (.map none)) (a b c : Value) :
    (((Z.setIfInBounds 0 a).setIfInBounds 1 b).setIfInBounds 2 c).size = 452 ∧ (((Z.setIfInBounds 0 a).setIfInBounds 1 b).setIfInBounds 2 c)[0]? = some a ∧ (((Z.setIfInBounds 0 a).setIfInBounds 1 b).setIfInBounds 2 c)[1]? = some b ∧
    (((Z.setIfInBounds 0 a).setIfInBounds 1 b).setIfInBounds 2 c)[2]? = some c ∧ ∀ s, s < 449 → (((Z.setIfInBounds 0 a).setIfInBounds 1 b).setIfInBounds 2 c)[3 + s]? = some (.map none) := by
  refine ⟨by simpa using h1, ?_, ?_, ?_, fun s hs => ?_⟩
  · rw [Array.getElem?_setIfInBounds_ne (by omega), Array.getElem?_setIfInBounds_ne (by omega), Array.getElem?_setIfInBounds_self_of_lt (by omega)]
  · rw [Array.getElem?_setIfInBounds_ne (by omega), Array.getElem?_setIfInBounds_self_of_lt (by simp; omega)]
  · rw [Array.getElem?_setIfInBounds_self_of_lt (by simp; omega)]
  · rw [Array.getElem?_setIfInBounds_ne (by omega), Array.getElem?_setIfInBounds_ne (by omega), Array.getElem?_setIfInBounds_ne (by omega)]; exact h2 s hs
end Go.Proofs.Ytcafiehlhdoibaa.Wh
