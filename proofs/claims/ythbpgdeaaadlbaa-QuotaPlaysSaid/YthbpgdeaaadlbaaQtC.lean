
/- quotas' laws: the end where the result lies in a cell -/
import Derived.Test.YthbpgdeaaadlbaaQt9
namespace Go.Proofs.Ythbpgdeaaadlbaa.Qt
open Go.RowKit Go.Lib Go.Maps Go.WideElems Go.ChangeMaps Go.MapKept Go.Sort Hp Rg
set_option linter.unusedVariables false
attribute [local go_sem] Oper.semAt_some
set_option maxRecDepth 20000
theorem results_c1 {fn : Func} {p : Tmp} {ty : TypeId} (h : fn.results = #[.cell p ty]) (tmps : Array Value) (P : Program) (w : World) :
    (results fn tmps).run P w = ((asAddr (tmps.getD p undef)).run P w).andThen fun x w₁ => (loadVar ty x).run P w₁ := by
  simp only [results, h]
  simp [Sem.run_bind, Result.andThen]
def mk1 (D : Nat) : Deferred := { target := .collected D, args := #[] }
/-- the end where the result lies in a cell -/
theorem leaveC {n : Nat} {fn : Func} {tmps : Array Value} {D r R0 : Nat} {ty : TypeId} {X : World} {b : Bool} {R : Ending → World → Prop} (hres : fn.results = #[.cell r ty]) (hty : ty = 4) (ht : tmps.getD r undef = .pointer (some ⟨R0, 0, none⟩)) (h : X.heap[D]? = some (.deferred (some []))) (hc : X.cell? ⟨R0, 0, none⟩ = some (.bool b)) (hR : ∀ X', But D X X' → R (.returned (.bool b)) X') :
    LeavesInM Fence.wide n Try.prog fn tmps R ([mk1 D]) .returning X := by
  subst hty
  refine ⟨by simp, .inl ⟨D, _, rfl, run_takeDeferred h, ?_⟩⟩
  have hbut := but_put D X (.deferred none)
  refine ⟨.bool b, ?_, hR _ hbut⟩
  have hne : R0 ≠ D := fun e => by subst e; unfold World.cell? at hc; rw [h] at hc; cases hc
  have hc' : (X.putObj D (.deferred none)).cell? ⟨R0, 0, none⟩ = some (.bool b) := by
    rw [← hc]; unfold World.cell?; rw [hbut.2.2.2.2 R0 hne]
  generalize X.putObj D (.deferred none) = X' at hc'
  rw [results_c1 hres, ht]
  clear hR h hc hne hbut ht hres
  go_simp
/-- .. ahead of a range -/
theorem leaveC0 {n : Nat} {fn : Func} {tmps : Array Value} {r R0 : Nat} {ty : TypeId} {X : World} {b : Bool} {R : Ending → World → Prop} (hres : fn.results = #[.cell r ty]) (hty : ty = 4) (ht : tmps.getD r undef = .pointer (some ⟨R0, 0, none⟩)) (hc : X.cell? ⟨R0, 0, none⟩ = some (.bool b)) (hR : R (.returned (.bool b)) X) :
    LeavesInM Fence.wide n Try.prog fn tmps R [] .returning X := by
  subst hty
  refine ⟨.bool b, ?_, hR⟩
  rw [results_c1 hres, ht]
  clear hR ht hres
  go_simp
end Go.Proofs.Ythbpgdeaaadlbaa.Qt
