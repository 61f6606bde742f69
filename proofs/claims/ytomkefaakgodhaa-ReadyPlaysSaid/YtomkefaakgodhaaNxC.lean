
/- ready's laws: the end where the result lies in a cell -/
import Derived.Test.YtomkefaakgodhaaNx5
namespace Go.Proofs.Ytomkefaakgodhaa.Nx
open Go.RowKit Go.Lib Go.Sort Go.Shelf Hp HpE Ht Rg
set_option linter.unusedVariables false
attribute [local go_sem] Oper.semAt_some
set_option maxRecDepth 20000
theorem c1_of {w : World} {b : Nat} {v : Value} {t : TypeId} (h : w.heap[b]? = some (.cells #[v] t (0, 0))) : w.cell? ⟨b, 0, none⟩ = some v ∧ w.frozen? ⟨b, 0, none⟩ = false := by
  constructor <;> simp [World.cell?, World.frozen?, h]
theorem results_c1 {fn : Func} {p : Tmp} {ty : TypeId} (h : fn.results = #[.cell p ty]) (tmps : Array Value) (P : Program) (w : World) :
    (results fn tmps).run P w = ((asAddr (tmps.getD p undef)).run P w).andThen fun x w₁ => (loadVar ty x).run P w₁ := by
  simp only [results, h]
  simp [Sem.run_bind, Result.andThen]
/-- the end where the result lies in a cell -/
theorem leaveC {n : Nat} {fn : Func} {tmps : Array Value} {D r R0 : Nat} {ty : TypeId} {X : World} {b : Bool} {R : Ending → World → Prop} (hres : fn.results = #[.cell r ty]) (hty : ty = 4) (ht : tmps.getD r undef = .pointer (some ⟨R0, 0, none⟩)) (h : X.heap[D]? = some (.deferred (some []))) (hc : X.cell? ⟨R0, 0, none⟩ = some (.bool b)) (hR : ∀ X', But D X X' → R (.returned (.bool b)) X') :
    LeavesInM Fence.wide n Try.prog fn tmps R ([mk1 D]) .returning X := by
  subst hty
  refine ⟨by simp, .inl ⟨D, _, rfl, run_takeDeferred h, ?_⟩⟩
  have hbut := but_put D X (.deferred none)
  refine ⟨.bool b, ?_, hR _ hbut⟩
  have hne : R0 ≠ D := fun e => by subst e; unfold World.cell? at hc; rw [h] at hc; cases hc
  have hc' : (X.putObj D (.deferred none)).cell? ⟨R0, 0, none⟩ = some (.bool b) := by
    rw [← hc]; unfold World.cell?; rw [hbut.2.2.2.2 R0 hne]
  generalize X.putObj D (.deferred none) = X' at hc'
  rw [results_c1 hres, ht]
  clear hR h hc hne hbut ht hres
  go_simp
/-- .. ahead of a range -/
theorem leaveC0 {n : Nat} {fn : Func} {tmps : Array Value} {r R0 : Nat} {ty : TypeId} {X : World} {b : Bool} {R : Ending → World → Prop} (hres : fn.results = #[.cell r ty]) (hty : ty = 4) (ht : tmps.getD r undef = .pointer (some ⟨R0, 0, none⟩)) (hc : X.cell? ⟨R0, 0, none⟩ = some (.bool b)) (hR : R (.returned (.bool b)) X) :
    LeavesInM Fence.wide n Try.prog fn tmps R [] .returning X := by
  subst hty
  refine ⟨.bool b, ?_, hR⟩
  rw [results_c1 hres, ht]
  clear hR ht hres
  go_simp
/-- .. behind many ranges -/
theorem leaveCs {n : Nat} {fn : Func} {tmps : Array Value} {r R0 : Nat} {ty : TypeId} {b : Bool} {R : Ending → World → Prop} (hres : fn.results = #[.cell r ty]) (hty : ty = 4) (ht : tmps.getD r undef = .pointer (some ⟨R0, 0, none⟩)) {B : Nat} :
    ∀ (Ds : List Nat) (X : World), Recs B X Ds → X.cell? ⟨R0, 0, none⟩ = some (.bool b) → (∀ X', Fr (fun x => x ∈ Ds) X X' → R (.returned (.bool b)) X') → LeavesInM Fence.wide n Try.prog fn tmps R (Ds.map mk1) .returning X
  | [], X, _, hc, hR => leaveC0 hres hty ht hc (hR X (Fr.refl _ _))
  | D :: Ds, X, h, hc, hR => by
    have hD := h.at' D (List.mem_cons_self ..)
    refine ⟨by simp, .inl ⟨D, _, rfl, run_takeDeferred hD.2, ?_⟩⟩
    have hbut := but_put D X (.deferred none)
    have hnd := List.nodup_cons.1 h.nd
    have hne : R0 ≠ D := fun e => by subst e; unfold World.cell? at hc; rw [hD.2] at hc; cases hc
    have hc' : (X.putObj D (.deferred none)).cell? ⟨R0, 0, none⟩ = some (.bool b) := by
      rw [← hc]; unfold World.cell?; rw [hbut.2.2.2.2 R0 hne]
    refine leaveCs (B := B) hres hty ht Ds _ ?_ hc' fun X' b => hR X' ?_
    · exact ⟨hnd.2, fun E hE => ⟨(h.at' E (List.mem_cons_of_mem _ hE)).1, (hbut.2.2.2.2 E (fun e => by subst e; exact hnd.1 hE)).trans (h.at' E (List.mem_cons_of_mem _ hE)).2⟩⟩
    · have hf : Fr (fun x => x ∈ D :: Ds) X (X.putObj D (.deferred none)) := ⟨hbut.1, hbut.2.1, hbut.2.2.1, Nat.le_of_eq hbut.2.2.2.1.symm, fun k hk hn => hbut.2.2.2.2 k (fun e => hn (by rw [e]; exact List.mem_cons_self ..))⟩
      exact hf.trans b fun x hx => .inl (List.mem_cons_of_mem _ hx)
end Go.Proofs.Ytomkefaakgodhaa.Nx
