/- a region that draws: two operations come up at once (of no program) -/
import Derived.Test.YtcodjknhnhdkfaaGreatDoorBr02
namespace Go.Proofs.YtcodjknhnhdkfaaGreatDoor.Ht
open Go.RowKit Go.Sort
variable {P : Program} {md : Region.Mode} {ops : Array Oper} {Q : Exit → Act → World → Prop} {S : World → Prop} {L : Nat}
theorem fork {i j : Nat} (oi oj : Oper) {f : Nat} {listed : Array Bool} {a : Act} {w : World} (hi : ops[i]? = some oi) (hj : ops[j]? = some oj) (hr : Region.ready md ops listed = [i, j])
    (hwi : Region.wanted oi (yielded ops a.tmps) = true) (hwj : Region.wanted oj (yielded ops a.tmps) = true)
    (h1 : ∀ K : Act → World → Prop, (∀ a' w', (i ≠ L → S w') → ((i ≠ L → S w') → Ahead P md ops (Nrm Q) S L f (listed.setIfInBounds i true) a' w') → K a' w') → Oper.wp P oi a w K (Nrm Q))
    (h2 : ∀ K : Act → World → Prop, (∀ a' w', (j ≠ L → S w') → ((j ≠ L → S w') → Ahead P md ops (Nrm Q) S L f (listed.setIfInBounds j true) a' w') → K a' w') → Oper.wp P oj a w K (Nrm Q)) : Ahead P md ops (Nrm Q) S L (f + 1) listed a w :=
  ⟨(fun h0 => by rw [hr] at h0; cases h0), fun m hm => by
    rw [hr] at hm
    unfold wpOp
    rcases List.mem_cons.1 hm with rfl | hm
    · simp only [hi, hwi, if_true]
      exact .inl (h1 _ (fun a' w' h1 h2 => ⟨h1, h2 h1⟩))
    · obtain rfl := List.mem_singleton.1 hm
      simp only [hj, hwj, if_true]
      exact .inl (h2 _ (fun a' w' h1 h2 => ⟨h1, h2 h1⟩))⟩
end Go.Proofs.YtcodjknhnhdkfaaGreatDoor.Ht
