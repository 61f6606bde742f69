
/- a region that draws its order, with a call in its midst that all the rest waits for: what is said of the world is another thing behind the call (of no program) -/
import Derived.Test.YtcafiehlhdoibaaHs
namespace Go.Proofs.Ytcafiehlhdoibaa.Ht
open Go.RowKit Go.Sort
variable {P : Program} {md : Region.Mode} {ops : Array Oper} {Q : Exit → Act → World → Prop} {S S' : World → Prop} {late late' : List Nat}
/-- whatever is not yet done is late -/
def allLate (listed : Array Bool) (late : List Nat) : Bool := (List.range listed.size).all fun j => listed.getD j true || late.contains j
theorem allLate_spec {listed : Array Bool} (h : allLate listed late = true) (j : Nat) (hj : listed.getD j true = false) : j ∈ late := by
  have hlt : j < listed.size := by
    rcases Nat.lt_or_ge j listed.size with h' | h'
    · exact h'
    · simp [Array.getElem?_eq_none h'] at hj
  have := List.all_eq_true.1 h j (List.mem_range.2 hlt)
  rw [hj, Bool.false_or] at this
  simpa using this
theorem relateA : ∀ (f : Nat) (listed : Array Bool) (a : Act) (w : World), (∀ j, listed.getD j true = false → j ∈ late) → Ahd P md ops Q S' late' f listed a w → Ahd P md ops Q S late f listed a w
  | 0, _, _, _, _, h => h
  | f + 1, listed, a, w, hl, h => by
    refine ⟨h.1, fun i hi => wpOp_mono (fun a' w' h' => ⟨fun hn => absurd (hl i (mem_ready.1 hi).1) hn, relateA f _ a' w' (fun j hj => hl j ?_) h'.2⟩) (h.2 i hi)⟩
    by_cases hij : i = j
    · subst hij; exact (mem_ready.1 hi).1
    · rwa [getD_set_ne true hij] at hj
/-- from here on something else is said of the world, and others are late -/
theorem relate (late' : List Nat) (S' : World → Prop) {f : Nat} {listed : Array Bool} {a : Act} {w : World} (hl : allLate listed late = true) (hS : S' w) (h : S' w → Ahd P md ops (Nrm Q) S' late' f listed a w) : Ahd P md ops (Nrm Q) S late f listed a w :=
  relateA f listed a w (allLate_spec hl) (h hS)
end Go.Proofs.Ytcafiehlhdoibaa.Ht
