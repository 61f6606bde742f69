
/- pairs in a row: found, the least one, cut out -/
import Derived.Test.YtomkefaakgodhaaHpYE
import Derived.Test.YtomkefaakgodhaaHpOE
namespace Go.Proofs.Ytomkefaakgodhaa.HpE
open Go.RowKit Go.Lib Go.Sort Hp Ht
set_option linter.unusedVariables false
set_option maxRecDepth 20000
/-- pairs that lie in a row -/
def Src (X : World) (v : Value) (l : List (K × Int)) : Prop :=
  (l = [] ∧ ∃ p c, v = .slice p 0 c) ∨ ∃ g c, v = .slice (some ⟨g, 0, none⟩) l.length c ∧ ∀ i, i < l.length → X.cell? ⟨g, i * 2, none⟩ = some (ek (el l i).1) ∧ X.cell? ⟨g, i * 2 + 1, none⟩ = some (er (el l i).2)
theorem Src.old {X Y : World} {v : Value} {l : List (K × Int)} (h : Src X v l) (e : Below X.heap.size X Y) : Src Y v l := by
  rcases h with h | ⟨g, c, h1, h2⟩
  · exact .inl h
  · exact .inr ⟨g, c, h1, fun i hi => ⟨(e.cell (World.block_lt_of_cell? _ _ (h2 i hi).1)).trans (h2 i hi).1, (e.cell (World.block_lt_of_cell? _ _ (h2 i hi).2)).trans (h2 i hi).2⟩⟩
theorem src_own {X : World} {B : Nat} {t : TypeId} {v : Value} {l : List (K × Int)} (h : X.ownsRow B t 2 v l.length (cs l)) : Src X v l := by
  rcases h.2 with ⟨rfl, h0⟩ | ⟨g, cap, cur, rfl, _, _⟩
  · exact .inl ⟨List.eq_nil_of_length_eq_zero h0, none, 0, rfl⟩
  · refine .inr ⟨g, cap, rfl, fun i hi => ?_⟩
    have hc := h.cells (g := g) rfl
    have hg := cs_get l i hi
    have h1 := hc _ _ hg.1
    have h2 := hc _ _ hg.2
    have e : ∀ j, (⟨g, 0, none⟩ : Addr).add j = ⟨g, j, none⟩ := fun j => by unfold Addr.add; split <;> simp_all
    rw [e] at h1 h2
    exact ⟨h1, h2⟩
theorem Src.shape {X : World} {v : Value} {l : List (K × Int)} (h : Src X v l) : ∃ a c, v = .slice a l.length c ∧ (l ≠ [] → ∃ g, a = some ⟨g, 0, none⟩ ∧ ∀ i, i < l.length → X.cell? ⟨g, i * 2, none⟩ = some (ek (el l i).1) ∧ X.cell? ⟨g, i * 2 + 1, none⟩ = some (er (el l i).2)) := by
  rcases h with ⟨rfl, p, c, rfl⟩ | ⟨g, c, h1, h2⟩
  · exact ⟨p, c, rfl, fun h => absurd rfl h⟩
  · exact ⟨_, c, h1, fun _ => ⟨g, rfl, h2⟩⟩
/-- where a key is -/
def ix (k : K) (l : List (K × Int)) (i : Nat) : Prop := (∀ j, j < i → j < l.length → (el l j).1 ≠ k) ∧ i ≤ l.length ∧ (i < l.length → (el l i).1 = k)
theorem ix_out {k : K} {l : List (K × Int)} (h : ix k l l.length) : k ∉ l.map (·.1) := fun hm => by
  obtain ⟨p, hp, rfl⟩ := List.mem_map.1 hm
  obtain ⟨i, hi, rfl⟩ := mem_el hp
  exact h.1 i hi hi rfl
def ixv (l : List (K × Int)) (i : Nat) : Int := if i < l.length then ((i : Nat) : Int) else -1
end Go.Proofs.Ytomkefaakgodhaa.HpE

