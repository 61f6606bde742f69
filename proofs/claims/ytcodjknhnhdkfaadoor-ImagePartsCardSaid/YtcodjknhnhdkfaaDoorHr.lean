
/- a region that draws, whose last operation waits for all others, in a round of a range over a function; a call as a step (of no program) -/
import Derived.Test.YtcodjknhnhdkfaaDoorHt
import Derived.Test.YtcodjknhnhdkfaaDoorRo
namespace Go.Proofs.YtcodjknhnhdkfaaDoor.Ht
open Go.RowKit Go.Sort Go.Proofs.YtcodjknhnhdkfaaDoor.Rg
variable {P : Program} {ops : Array Oper} {Q : Exit → Act → World → Prop} {S : World → Prop}

theorem begin_round {id k n : Nat} {a : Act} {w : World} (L : Nat) (S : World → Prop) (hm : P.follows .mixedOrders = true) (hd : noDefer ops = true) (hS : S w.drew)
    (h : S w.drew → Ahead P .any ops (Nrm Q) S L ops.size (Array.replicate ops.size false) a w.drew) : (Code.region id ops true).wpIn (Fence.wide.inRound k) n P Q a w := by
  have h1 : (Code.region id ops true).wpIn (Fence.wide.inRound k) n P (Nrm Q) a w :=
    wpIn_region_any hm (any_round (noDefer_spec hd) _ _ _ _ (any_wide (fun ⟨_, _, h⟩ => h) _ _ _ _ (Ahead.any _ _ _ _ (h hS))))
  exact wpIn_mono h1 (fun e _ _ hq => by cases e <;> first | exact hq | exact hq.elim)
/-- a call of a function of the program -/
theorem enter {o : Oper} {a : Act} {w : World} {K : Act → World → Prop} (f : FuncId) (args : Array Value) (hr : (execOp a.eval o).run P w = .ok (.enter f args) w) {R : Ending → World → Prop} (hc : Calls P f args w R)
    (h : ∀ e w', R e w' → ∃ v, e = .returned v ∧ K (a.put o.dst v) w') : Oper.wp P o a w K Q := by
  unfold Oper.wp
  rw [hr]
  exact hc.mono fun e w' hR => by obtain ⟨v, rfl, hk⟩ := h e w' hR; exact hk
end Go.Proofs.YtcodjknhnhdkfaaDoor.Ht
