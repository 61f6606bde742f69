/- a region that draws its order and ends in some operations that wait for all others: what is said of the world need hold ahead of those alone (of no program) -/
import Derived.Test.YtcodjknhnhdkfaaGreatDoorBr02
namespace Go.Proofs.YtcodjknhnhdkfaaGreatDoor.Ht
open Go.RowKit Go.Sort
variable {P : Program} {md : Region.Mode} {ops : Array Oper} {Q : Exit → Act → World → Prop} {S : World → Prop} {L : Nat} {late : List Nat}

/-- from here on, in whatever order: S holds behind every operation but the late ones -/
def Ahd (P : Program) (md : Region.Mode) (ops : Array Oper) (Q : Exit → Act → World → Prop) (S : World → Prop) (late : List Nat) : Nat → Array Bool → Act → World → Prop
  | 0, listed, a, w => Region.ready md ops listed = [] ∧ Q .normal a w
  | f + 1, listed, a, w => (Region.ready md ops listed = [] → Q .normal a w) ∧
    ∀ i ∈ Region.ready md ops listed, wpOp P ops Q i (fun a' w' => (i ∉ late → S w') ∧ Ahd P md ops Q S late f (listed.setIfInBounds i true) a' w') a w
theorem Ahd.any : ∀ (f : Nat) (listed : Array Bool) (a : Act) (w : World), Ahd P md ops Q S late f listed a w → Ahead P md ops Q (fun _ => True) L f listed a w
  | 0, _, _, _, h => h
  | f + 1, _, _, _, h => ⟨h.1, fun i hi => wpOp_mono (fun _ _ h' => ⟨fun _ => trivial, Ahd.any f _ _ _ h'.2⟩) (h.2 i hi)⟩
/-- the late ones wait for number i -/
def lateB (k : Nat) (md : Region.Mode) (ops : Array Oper) (late : List Nat) (i : Nat) : Bool := late.all fun j => waits md ops k j i
theorem ahd_first {k i : Nat} {oi : Oper} {v : Value} (hlate : lateB k md ops late i = true) (hi : ops[i]? = some oi) (hsel : Region.noSelect ops = true)
    (hQ : ∀ c a w, Q (.panic c) (a.put oi.dst v) w → Q (.panic c) a w) : ∀ (f : Nat) (listed : Array Bool) (a : Act) (w : World), Closed md ops listed →
      (∀ j oj, ops[j]? = some oj → j ≠ i → listed.getD j true = false → (∀ e ∈ oj.after, Region.binds md e = true → e.on ≠ i) → oi.apart ops oj = true) →
      i ∈ Region.ready md ops listed → YieldsIf P ops S oi v a → S w →
      Ahd P md ops Q S late f (listed.setIfInBounds i true) (a.put oi.dst v) w → Ahd P md ops Q S late (f + 1) listed a w
  | f, listed, a, w, hcl, hfree, hr, hy, hS, H => by
    refine ⟨fun h => absurd hr (by rw [h]; simp), fun j hj => ?_⟩
    by_cases hji : j = i
    · subst hji; exact hy.wpOp hi hS ⟨fun _ => hS, H⟩
    have hjL : j ∉ late := fun hm => by
      have h1 := List.all_eq_true.1 hlate j hm
      have h2 := waits_spec hcl k j i (fun m hm => ready_direct hj hm) h1
      obtain ⟨h0, o, ho, _⟩ := mem_ready.1 hr
      rcases Nat.lt_or_ge i listed.size with h' | h'
      · simp [h'] at h0 h2; rw [h0] at h2; cases h2
      · simp [Array.getElem?_eq_none h'] at h2
    cases f with
    | zero =>
      have := ready_mono hj hji
      rw [H.1] at this
      cases this
    | succ f =>
      obtain ⟨hjun, oj, hoj, hall⟩ := mem_ready.1 hj
      have hnot : ∀ e ∈ oj.after, Region.binds md e = true → e.on ≠ i := fun e he hb heq => by
        have h1 := hall e he hb
        have h0 := (mem_ready.1 hr).1
        rw [heq] at h1
        rcases Nat.lt_or_ge i listed.size with h' | h'
        · simp [h'] at h0 h1; rw [h0] at h1; cases h1
        · simp [Array.getElem?_eq_none h'] at h1
      have h2 := wpOp_putIf hoj (hfree j oj hoj hji hjun hnot) (fun cs b => Region.noSelect_spec hsel i oi cs b hi) (fun cs b => Region.noSelect_spec hsel j oj cs b hoj) hQ hy (H.2 j (ready_mono hj hji))
      refine wpOp_mono (fun a' w' h3 => ⟨h3.2.1, ahd_first hlate hi hsel hQ f (listed.setIfInBounds j true) a' w' (hcl.next hj) ?_ (ready_mono hr (Ne.symm hji)) h3.1 (h3.2.1 hjL) ?_⟩) h2
      · intro k ok hk hki hun hno
        refine hfree k ok hk hki ?_ hno
        by_cases hjk : j = k
        · subst hjk; exact hjun
        · rwa [getD_set_ne true hjk] at hun
      · rw [Array.setIfInBounds_comm _ _ hji]
        exact h3.2.2
/-- from here on with late ones -/
theorem later (late : List Nat) (S : World → Prop) {f : Nat} {listed : Array Bool} {a : Act} {w : World} (hS : S w)
    (h : S w → Ahd P md ops (Nrm Q) S late f listed a w) : Ahead P md ops (Nrm Q) (fun _ => True) L f listed a w := Ahd.any _ _ _ _ (h hS)
theorem takeS (k : Nat) {i : Nat} (oi : Oper) (v : Value) {f : Nat} {listed : Array Bool} {a : Act} {w : World} (hi : ops[i]? = some oi) (hlate : lateB k md ops late i = true) (hcl : closedB md ops listed = true)
    (hs : Region.noSelect ops = true) (hf : Region.free md ops listed i = true) (hr : (Region.ready md ops listed).contains i = true) (hS : S w) (hy : YieldsIf P ops S oi v a)
    (h : Ahd P md ops (Nrm Q) S late f (listed.setIfInBounds i true) (a.put oi.dst v) w) : Ahd P md ops (Nrm Q) S late (f + 1) listed a w :=
  ahd_first hlate hi hs (fun _ _ _ h => h.elim) f listed a w (closed_spec hcl) (Region.free_spec hi hf) (by simpa using hr) hy hS h
theorem stepS {i : Nat} (oi : Oper) {f : Nat} {listed : Array Bool} {a : Act} {w : World} (hi : ops[i]? = some oi) (hr : Region.ready md ops listed = [i]) (hw : Region.wanted oi (yielded ops a.tmps) = true)
    (h : ∀ K : Act → World → Prop, (∀ a' w', (i ∉ late → S w') → ((i ∉ late → S w') → Ahd P md ops (Nrm Q) S late f (listed.setIfInBounds i true) a' w') → K a' w') → Oper.wp P oi a w K (Nrm Q)) : Ahd P md ops (Nrm Q) S late (f + 1) listed a w :=
  ⟨(fun h0 => by rw [hr] at h0; cases h0), fun j hj => by
    rw [hr] at hj
    obtain rfl := List.mem_singleton.1 hj
    unfold wpOp
    simp only [hi, hw, if_true]
    exact .inl (h _ (fun a' w' h1 h2 => ⟨h1, h2 h1⟩))⟩
theorem doneS {f : Nat} {listed : Array Bool} {a : Act} {w : World} (hr : Region.ready md ops listed = []) (h : Q .normal a w) : Ahd P md ops (Nrm Q) S late f listed a w := by
  cases f with
  | zero => exact ⟨hr, h⟩
  | succ f => exact ⟨fun _ => h, by rw [hr]; simp⟩
end Go.Proofs.YtcodjknhnhdkfaaGreatDoor.Ht
