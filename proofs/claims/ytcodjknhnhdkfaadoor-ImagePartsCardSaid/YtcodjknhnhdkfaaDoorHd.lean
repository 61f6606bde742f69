
/- as Ht.take, where the last operation waits for others by many between (of no program) -/
import Derived.Test.YtcodjknhnhdkfaaDoorHr
namespace Go.Proofs.YtcodjknhnhdkfaaDoor.Ht
open Go.RowKit Go.Sort
variable {P : Program} {md : Region.Mode} {ops : Array Oper} {Q : Exit → Act → World → Prop} {S : World → Prop} {L : Nat}

def lastD (k : Nat) (md : Region.Mode) (ops : Array Oper) (L : Nat) : Bool := (List.range ops.size).all fun i => i == L || waits md ops k L i
theorem lastD_spec {k : Nat} (h : lastD k md ops L = true) (listed : Array Bool) (hc : Closed md ops listed) {i : Nat} (hi : i ∈ Region.ready md ops listed) (hL : L ∈ Region.ready md ops listed) : i = L := by
  obtain ⟨h0, o, ho, _⟩ := mem_ready.1 hi
  have hlt : i < ops.size := (Array.getElem?_eq_some_iff.1 ho).1
  have := List.all_eq_true.1 h i (List.mem_range.2 hlt)
  rcases Bool.or_eq_true_iff.1 this with h1 | h1
  · exact beq_iff_eq.1 h1
  · exfalso
    have := waits_spec hc k L i (fun m hm => ready_direct hL hm) h1
    rcases Nat.lt_or_ge i listed.size with h' | h'
    · simp [h'] at h0 this; rw [h0] at this; cases this
    · simp [Array.getElem?_eq_none h'] at this
theorem ahead_deep {i : Nat} {oi : Oper} {v : Value} (hlast : ∀ listed, Closed md ops listed → ∀ {i}, i ∈ Region.ready md ops listed → L ∈ Region.ready md ops listed → i = L) (hiL : i ≠ L) (hi : ops[i]? = some oi) (hsel : Region.noSelect ops = true)
    (hQ : ∀ c a w, Q (.panic c) (a.put oi.dst v) w → Q (.panic c) a w) : ∀ (f : Nat) (listed : Array Bool) (a : Act) (w : World), Closed md ops listed →
      (∀ j oj, ops[j]? = some oj → j ≠ i → listed.getD j true = false → (∀ e ∈ oj.after, Region.binds md e = true → e.on ≠ i) → oi.apart ops oj = true) →
      i ∈ Region.ready md ops listed → YieldsIf P ops S oi v a → S w →
      Ahead P md ops Q S L f (listed.setIfInBounds i true) (a.put oi.dst v) w → Ahead P md ops Q S L (f + 1) listed a w
  | f, listed, a, w, hcl, hfree, hr, hy, hS, H => by
    refine ⟨fun h => absurd hr (by rw [h]; simp), fun j hj => ?_⟩
    by_cases hji : j = i
    · subst hji; exact hy.wpOp hi hS ⟨fun _ => hS, H⟩
    have hjL : j ≠ L := fun e => hiL (hlast _ hcl hr (e ▸ hj))
    cases f with
    | zero =>
      have := ready_mono hj hji
      rw [H.1] at this
      cases this
    | succ f =>
      obtain ⟨hjun, oj, hoj, hall⟩ := mem_ready.1 hj
      have hnot : ∀ e ∈ oj.after, Region.binds md e = true → e.on ≠ i := fun e he hb heq => by
        have h1 := hall e he hb
        have h0 := (mem_ready.1 hr).1
        rw [heq] at h1
        rcases Nat.lt_or_ge i listed.size with h' | h'
        · simp [h'] at h0 h1; rw [h0] at h1; cases h1
        · simp [Array.getElem?_eq_none h'] at h1
      have h2 := wpOp_putIf hoj (hfree j oj hoj hji hjun hnot) (fun cs b => Region.noSelect_spec hsel i oi cs b hi) (fun cs b => Region.noSelect_spec hsel j oj cs b hoj) hQ hy (H.2 j (ready_mono hj hji))
      refine wpOp_mono (fun a' w' h3 => ⟨h3.2.1, ahead_deep hlast hiL hi hsel hQ f (listed.setIfInBounds j true) a' w' (hcl.next hj) ?_ (ready_mono hr (Ne.symm hji)) h3.1 (h3.2.1 hjL) ?_⟩) h2
      · intro k ok hk hki hun hno
        refine hfree k ok hk hki ?_ hno
        by_cases hjk : j = k
        · subst hjk; exact hjun
        · rwa [getD_set_ne true hjk] at hun
      · rw [Array.setIfInBounds_comm _ _ hji]
        exact h3.2.2
theorem takeD (k : Nat) {i : Nat} (oi : Oper) (v : Value) {f : Nat} {listed : Array Bool} {a : Act} {w : World} (hi : ops[i]? = some oi) (hlast : lastD k md ops L = true) (hcl : closedB md ops listed = true) (hiL : i ≠ L)
    (hs : Region.noSelect ops = true) (hf : Region.free md ops listed i = true) (hr : (Region.ready md ops listed).contains i = true) (hS : S w) (hy : YieldsIf P ops S oi v a)
    (h : Ahead P md ops (Nrm Q) S L f (listed.setIfInBounds i true) (a.put oi.dst v) w) : Ahead P md ops (Nrm Q) S L (f + 1) listed a w :=
  ahead_deep (lastD_spec hlast) hiL hi hs (fun _ _ _ h => h.elim) f listed a w (closed_spec hcl) (Region.free_spec hi hf) (by simpa using hr) hy hS h
/-- .. where S holds behind every operation: no operation is the last one -/
theorem takeN {i : Nat} (oi : Oper) (v : Value) {f : Nat} {listed : Array Bool} {a : Act} {w : World} (hi : ops[i]? = some oi) (hL : ops.size ≤ L) (hcl : closedB md ops listed = true)
    (hs : Region.noSelect ops = true) (hf : Region.free md ops listed i = true) (hr : (Region.ready md ops listed).contains i = true) (hS : S w) (hy : YieldsIf P ops S oi v a)
    (h : Ahead P md ops (Nrm Q) S L f (listed.setIfInBounds i true) (a.put oi.dst v) w) : Ahead P md ops (Nrm Q) S L (f + 1) listed a w :=
  ahead_deep (fun listed _ {i} _ hL' => by
    obtain ⟨_, o, ho, _⟩ := mem_ready.1 hL'
    have := (Array.getElem?_eq_some_iff.1 ho).1
    omega) (fun e => by have := (Array.getElem?_eq_some_iff.1 hi).1; omega) hi hs (fun _ _ _ h => h.elim) f listed a w (closed_spec hcl) (Region.free_spec hi hf) (by simpa using hr) hy hS h
end Go.Proofs.YtcodjknhnhdkfaaDoor.Ht
