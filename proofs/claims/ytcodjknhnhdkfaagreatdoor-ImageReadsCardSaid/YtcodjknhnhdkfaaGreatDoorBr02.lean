/- a region that draws its order and ends in one operation that waits for all others: what is said of the world need hold ahead of that one alone (of no program) -/
import Derived.Test.YtcodjknhnhdkfaaGreatDoorRows
import Derived.WalkKit
import Derived.OrdersHeld
import Derived.Deep.RegionHeld
import Derived.Deep.MidRow
import Derived.RangeFuncCalls
import Derived.OrdersIn
import Derived.Lib.QuietBelowIn
namespace Go.Proofs.YtcodjknhnhdkfaaGreatDoor.Ht
open Go.RowKit
variable {P : Program} {md : Region.Mode} {ops : Array Oper} {Q : Exit → Act → World → Prop} {S : World → Prop} {L : Nat}

/-- number j waits for number i, by at most k between -/
def direct (md : Region.Mode) (ops : Array Oper) (j i : Nat) : Bool :=
  match ops[j]? with
  | some o => o.after.any fun e => Region.binds md e && e.on == i
  | none => false
def waits (md : Region.Mode) (ops : Array Oper) : Nat → Nat → Nat → Bool
  | 0, j, i => direct md ops j i
  | k + 1, j, i => direct md ops j i || (List.range ops.size).any fun m => direct md ops j m && waits md ops k m i
/-- number L waits for every other operation -/
def last (md : Region.Mode) (ops : Array Oper) (L : Nat) : Bool := (List.range ops.size).all fun i => i == L || waits md ops 2 L i
/-- whatever is listed has those listed for which it waits -/
def Closed (md : Region.Mode) (ops : Array Oper) (listed : Array Bool) : Prop := ∀ j i, listed.getD j false = true → direct md ops j i = true → listed.getD i false = true
def closedB (md : Region.Mode) (ops : Array Oper) (listed : Array Bool) : Bool :=
  (List.range listed.size).all fun j => !(listed.getD j false) || match ops[j]? with
    | some o => o.after.all fun e => !(Region.binds md e) || listed.getD e.on false
    | none => true
theorem direct_spec {j i : Nat} (h : direct md ops j i = true) : ∃ o e, ops[j]? = some o ∧ e ∈ o.after ∧ Region.binds md e = true ∧ e.on = i := by
  unfold direct at h
  cases ho : ops[j]? with
  | none => rw [ho] at h; cases h
  | some o =>
    rw [ho] at h
    obtain ⟨k, hk, hb⟩ := Array.any_eq_true.1 h
    rw [Bool.and_eq_true] at hb
    exact ⟨o, _, rfl, Array.getElem_mem hk, hb.1, beq_iff_eq.1 hb.2⟩
theorem closed_spec {listed : Array Bool} (h : closedB md ops listed = true) : Closed md ops listed := fun j i hj hd => by
  obtain ⟨o, e, ho, he, hb, rfl⟩ := direct_spec hd
  have hlt : j < listed.size := by
    rcases Nat.lt_or_ge j listed.size with h' | h'
    · exact h'
    · simp [Array.getElem?_eq_none h'] at hj
  have := List.all_eq_true.1 h j (List.mem_range.2 hlt)
  rw [hj, ho] at this
  simp only [Bool.not_true, Bool.false_or] at this
  have := Array.all_eq_true_iff_forall_mem.1 this e he
  rw [hb] at this
  simpa using this
theorem ready_direct {listed : Array Bool} {j i : Nat} (hj : j ∈ Region.ready md ops listed) (hd : direct md ops j i = true) : listed.getD i false = true := by
  obtain ⟨_, o, ho, hall⟩ := mem_ready.1 hj
  obtain ⟨o', e, ho', he, hb, rfl⟩ := direct_spec hd
  rw [ho] at ho'
  obtain rfl := Option.some.inj ho'
  exact hall e he hb
theorem Closed.next {listed : Array Bool} (h : Closed md ops listed) {j : Nat} (hj : j ∈ Region.ready md ops listed) : Closed md ops (listed.setIfInBounds j true) := fun m i hm hd => by
  by_cases e : j = m
  · subst e; exact getD_set_true (ready_direct hj hd)
  · rw [getD_set_ne false e] at hm
    exact getD_set_true (h m i hm hd)
theorem waits_spec {listed : Array Bool} (hc : Closed md ops listed) : ∀ k j i, (∀ m, direct md ops j m = true → listed.getD m false = true) → waits md ops k j i = true → listed.getD i false = true
  | 0, _, i, h, hw => h i hw
  | k + 1, j, i, h, hw => by
    unfold waits at hw
    rcases Bool.or_eq_true_iff.1 hw with h1 | h1
    · exact h i h1
    · obtain ⟨m, _, hm⟩ := List.any_eq_true.1 h1
      rw [Bool.and_eq_true] at hm
      exact waits_spec hc k m i (fun x hx => hc m x (h m hm.1) hx) hm.2
theorem last_spec (h : last md ops L = true) {listed : Array Bool} (hc : Closed md ops listed) {i : Nat} (hi : i ∈ Region.ready md ops listed) (hL : L ∈ Region.ready md ops listed) : i = L := by
  obtain ⟨h0, o, ho, _⟩ := mem_ready.1 hi
  have hlt : i < ops.size := (Array.getElem?_eq_some_iff.1 ho).1
  have := List.all_eq_true.1 h i (List.mem_range.2 hlt)
  rcases Bool.or_eq_true_iff.1 this with h1 | h1
  · exact beq_iff_eq.1 h1
  · exfalso
    have := waits_spec hc 2 L i (fun m hm => ready_direct hL hm) h1
    rcases Nat.lt_or_ge i listed.size with h' | h'
    · simp [h'] at h0 this; rw [h0] at this; cases this
    · simp [Array.getElem?_eq_none h'] at this

/-- from here on, in whatever order: S holds behind every operation but the last one -/
def Ahead (P : Program) (md : Region.Mode) (ops : Array Oper) (Q : Exit → Act → World → Prop) (S : World → Prop) (L : Nat) : Nat → Array Bool → Act → World → Prop
  | 0, listed, a, w => Region.ready md ops listed = [] ∧ Q .normal a w
  | f + 1, listed, a, w => (Region.ready md ops listed = [] → Q .normal a w) ∧
    ∀ i ∈ Region.ready md ops listed, wpOp P ops Q i (fun a' w' => (i ≠ L → S w') ∧ Ahead P md ops Q S L f (listed.setIfInBounds i true) a' w') a w
theorem Ahead.any : ∀ (f : Nat) (listed : Array Bool) (a : Act) (w : World), Ahead P md ops Q S L f listed a w → wpAny P md ops Q f listed a w
  | 0, _, _, _, h => h
  | f + 1, _, _, _, h => ⟨h.1, fun i hi => wpOp_mono (fun _ _ h' => Ahead.any f _ _ _ h'.2) (h.2 i hi)⟩

theorem ahead_first {i : Nat} {oi : Oper} {v : Value} (hlast : last md ops L = true) (hiL : i ≠ L) (hi : ops[i]? = some oi) (hsel : Region.noSelect ops = true)
    (hQ : ∀ c a w, Q (.panic c) (a.put oi.dst v) w → Q (.panic c) a w) : ∀ (f : Nat) (listed : Array Bool) (a : Act) (w : World), Closed md ops listed →
      (∀ j oj, ops[j]? = some oj → j ≠ i → listed.getD j true = false → (∀ e ∈ oj.after, Region.binds md e = true → e.on ≠ i) → oi.apart ops oj = true) →
      i ∈ Region.ready md ops listed → YieldsIf P ops S oi v a → S w →
      Ahead P md ops Q S L f (listed.setIfInBounds i true) (a.put oi.dst v) w → Ahead P md ops Q S L (f + 1) listed a w
  | f, listed, a, w, hcl, hfree, hr, hy, hS, H => by
    refine ⟨fun h => absurd hr (by rw [h]; simp), fun j hj => ?_⟩
    by_cases hji : j = i
    · subst hji; exact hy.wpOp hi hS ⟨fun _ => hS, H⟩
    have hjL : j ≠ L := fun e => hiL (last_spec hlast hcl hr (e ▸ hj))
    cases f with
    | zero =>
      have := ready_mono hj hji
      rw [H.1] at this
      cases this
    | succ f =>
      obtain ⟨hjun, oj, hoj, hall⟩ := mem_ready.1 hj
      have hnot : ∀ e ∈ oj.after, Region.binds md e = true → e.on ≠ i := fun e he hb heq => by
        have h1 := hall e he hb
        have h0 := (mem_ready.1 hr).1
        rw [heq] at h1
        rcases Nat.lt_or_ge i listed.size with h' | h'
        · simp [h'] at h0 h1; rw [h0] at h1; cases h1
        · simp [Array.getElem?_eq_none h'] at h1
      have h2 := wpOp_putIf hoj (hfree j oj hoj hji hjun hnot) (fun cs b => Region.noSelect_spec hsel i oi cs b hi) (fun cs b => Region.noSelect_spec hsel j oj cs b hoj) hQ hy (H.2 j (ready_mono hj hji))
      refine wpOp_mono (fun a' w' h3 => ⟨h3.2.1, ahead_first hlast hiL hi hsel hQ f (listed.setIfInBounds j true) a' w' (hcl.next hj) ?_ (ready_mono hr (Ne.symm hji)) h3.1 (h3.2.1 hjL) ?_⟩) h2
      · intro k ok hk hki hun hno
        refine hfree k ok hk hki ?_ hno
        by_cases hjk : j = k
        · subst hjk; exact hjun
        · rwa [getD_set_ne true hjk] at hun
      · rw [Array.setIfInBounds_comm _ _ hji]
        exact h3.2.2

/-- a piece of code that ends in its normal way alone -/
def Nrm (Q : Exit → Act → World → Prop) : Exit → Act → World → Prop
  | .normal, a, w => Q .normal a w
  | _, _, _ => False
theorem wp_nrm {c : Code} {a : Act} {w : World} (h : c.wp P (Nrm Q) a w) : c.wp P Q a w :=
  wp_mono h (fun e _ _ hq => by cases e <;> first | exact hq | exact hq.elim)

/-- the beginning -/
theorem begin' {id : Nat} {a : Act} {w : World} (L : Nat) (S : World → Prop) (hm : P.follows .mixedOrders = true) (hS : S w.drew)
    (h : S w.drew → Ahead P .any ops (Nrm Q) S L ops.size (Array.replicate ops.size false) a w.drew) : (Code.region id ops true).wp P Q a w :=
  wp_nrm (wp_region_any hm (Ahead.any _ _ _ _ (h hS)))
theorem take {i : Nat} (oi : Oper) (v : Value) {f : Nat} {listed : Array Bool} {a : Act} {w : World} (hi : ops[i]? = some oi) (hlast : last md ops L = true) (hcl : closedB md ops listed = true) (hiL : i ≠ L)
    (hs : Region.noSelect ops = true) (hf : Region.free md ops listed i = true) (hr : (Region.ready md ops listed).contains i = true) (hS : S w) (hy : YieldsIf P ops S oi v a)
    (h : Ahead P md ops (Nrm Q) S L f (listed.setIfInBounds i true) (a.put oi.dst v) w) : Ahead P md ops (Nrm Q) S L (f + 1) listed a w :=
  ahead_first hlast hiL hi hs (fun _ _ _ h => h.elim) f listed a w (closed_spec hcl) (Region.free_spec hi hf) (by simpa using hr) hy hS h
theorem step {i : Nat} (oi : Oper) {f : Nat} {listed : Array Bool} {a : Act} {w : World} (hi : ops[i]? = some oi) (hr : Region.ready md ops listed = [i]) (hw : Region.wanted oi (yielded ops a.tmps) = true)
    (h : ∀ K : Act → World → Prop, (∀ a' w', (i ≠ L → S w') → ((i ≠ L → S w') → Ahead P md ops (Nrm Q) S L f (listed.setIfInBounds i true) a' w') → K a' w') → Oper.wp P oi a w K (Nrm Q)) : Ahead P md ops (Nrm Q) S L (f + 1) listed a w :=
  ⟨(fun h0 => by rw [hr] at h0; cases h0), fun j hj => by
    rw [hr] at hj
    obtain rfl := List.mem_singleton.1 hj
    unfold wpOp
    simp only [hi, hw, if_true]
    exact .inl (h _ (fun a' w' h1 h2 => ⟨h1, h2 h1⟩))⟩
theorem done {f : Nat} {listed : Array Bool} {a : Act} {w : World} (hr : Region.ready md ops listed = []) (h : Q .normal a w) : Ahead P md ops (Nrm Q) S L f listed a w := by
  cases f with
  | zero => exact ⟨hr, h⟩
  | succ f => exact ⟨fun _ => h, by rw [hr]; simp⟩
end Go.Proofs.YtcodjknhnhdkfaaGreatDoor.Ht
namespace Go.Proofs.YtcodjknhnhdkfaaGreatDoor.Rg
open Go.RowKit Go.Sort
variable {F : Fence} {n : Nat} {P : Program} {ops : Array Oper} {Q : Exit → Act → World → Prop}

theorem upon_round {o : Oper} {a : Act} {K : Act → World → Prop} {r : Result Next} {l : Nat} (h : o.uponIn F n P a K Q r) : o.uponIn (F.inRound l) n P a K Q r := by
  cases r with
  | ok x w => cases x <;> exact h
  | halt x w => cases x <;> exact h

theorem op_round {l i : Nat} {K K' : Act → World → Prop} {a : Act} {w : World} (hd : ∀ (i : Nat) (o : Oper), ops[i]? = some o → ∀ c, o.op ≠ .defer c) (hK : ∀ a w, K a w → K' a w) (h : wpOpIn F n P ops Q i K a w) :
    wpOpIn (F.inRound l) n P ops Q i K' a w := by
  have h := wpOpIn_mono hK h
  unfold wpOpIn at h ⊢
  cases ho : ops[i]? with
  | none => simpa [ho] using h
  | some o =>
    simp only [ho] at h ⊢
    by_cases hw : Region.wanted o (yielded ops a.tmps) = true
    · simp only [hw, if_true] at h ⊢
      refine ⟨h.1, ?_⟩
      have h2 := h.2
      rw [Oper.semAt_eq _ _ _ (hd i o ho)] at h2 ⊢
      exact upon_round h2
    · simp only [hw] at h ⊢
      exact h

theorem any_round {md : Region.Mode} {l : Nat} (hd : ∀ (i : Nat) (o : Oper), ops[i]? = some o → ∀ c, o.op ≠ .defer c) : ∀ (fuel : Nat) (listed : Array Bool) (a : Act) (w : World),
    wpAnyIn F n P md ops Q fuel listed a w → wpAnyIn (F.inRound l) n P md ops Q fuel listed a w
  | 0, _, _, _, h => h
  | fuel + 1, _, _, _, h => ⟨h.1, fun i hi => op_round hd (fun a w => any_round hd fuel _ a w) (h.2 i hi)⟩

def noDefer (l : Array Oper) : Bool := l.all fun o => match o.op with | .defer _ => false | _ => true
theorem noDefer_spec {l : Array Oper} (h : noDefer l = true) : ∀ (i : Nat) (o : Oper), l[i]? = some o → ∀ c, o.op ≠ .defer c := by
  intro i o ho c e
  unfold noDefer at h
  rw [Array.all_eq_true_iff_forall_mem] at h
  have := h o (Array.mem_of_getElem? ho)
  rw [e] at this
  cases this

/-- a region in a round that only reads, and whose callees leave all that was there: walked once, in the order of the text -/
theorem region_quiet_round {n : Nat} {P : Program} {id k : Nat} {Q : Exit → Act → World → Prop} {a : Act} {w : World} {l : List Oper} (hm : P.follows .mixedOrders = true) (hB : Region.lexB .any l.toArray = true) (hd : noDefer l.toArray = true)
    (h : wpQuietIn Fence.wide n P l.toArray (fun w' => ∃ p : Regrown, w' = grow (redrawn w p.d) p.os) (fun a' => ∀ w', (∃ p : Regrown, w' = grow (redrawn w p.d) p.os) → Q .normal a' w') l a) : (Code.region id l.toArray true).wpIn (Fence.wide.inRound k) n P Q a w := by
  simp only [Region.lexB, Bool.and_eq_true] at hB
  refine wpIn_region_any hm (any_round (noDefer_spec hd) _ _ _ _ (wpAnyIn_of_quiet (C := fun w' => ∃ p : Regrown, w' = grow (redrawn w p.d) p.os) (Q := fun a' => ∀ w', (∃ p : Regrown, w' = grow (redrawn w p.d) p.os) → Q .normal a' w') rfl (fun _ w' hw' h => h w' hw') _ _ _ _ ⟨⟨w.drawn + 1, #[]⟩, by rw [grow_empty]; rfl⟩ ?_))
  have := wpAnyQIn_lex (F := Fence.wide) (n := n) (C := fun w' => ∃ p : Regrown, w' = grow (redrawn w p.d) p.os) (md := .any) hB.1 l 0 (Array.replicate l.toArray.size false) a (by simp) (by simpa using hB.2) h
  simpa using this

theorem upon_wide {o : Oper} {a : Act} {K : Act → World → Prop} {r : Result Next} (h : o.upon P a K Q r) : o.uponIn Fence.wide n P a K Q r := by
  cases r with
  | ok x w => cases x <;> first
    | exact h
    | exact ⟨fun h => (by cases h), callsIn_wide.2 h⟩
    | exact ⟨fun h => (by cases h), fun c cs _ => let ⟨v, w', q, s⟩ := h c cs; ⟨v, w', q, stepsIn_wide.2 s⟩⟩
    | exact h.elim
  | halt x w => cases x <;> exact h

theorem any_wide {md : Region.Mode} (hl : ¬ LetsOut Q) : ∀ (fuel : Nat) (listed : Array Bool) (a : Act) (w : World),
    wpAny P md ops Q fuel listed a w → wpAnyIn Fence.wide n P md ops Q fuel listed a w
  | 0, _, _, _, h => h
  | fuel + 1, _, a, w, h => ⟨h.1, fun i hi => by
    have h := wpOp_mono (fun a' w' h' => any_wide hl fuel _ a' w' h') (h.2 i hi)
    unfold wpOp at h
    unfold wpOpIn
    cases ho : ops[i]? with
    | none => simpa [ho] using h
    | some o =>
      simp only [ho] at h ⊢
      by_cases hw : Region.wanted o (yielded ops a.tmps) = true
      · simp only [hw, if_true] at h ⊢
        rcases h with h | h
        · exact ⟨fun _ _ => trivial, upon_wide h⟩
        · exact absurd h.2 hl
      · simp only [hw] at h ⊢
        exact ⟨fun _ _ => trivial, h⟩⟩

/-- a region in a round, by the laws of wpAnyH: what S says holds behind every operation -/
theorem region_held_round {id k : Nat} {a : Act} {w : World} {S : World → Prop} (hm : P.follows .mixedOrders = true) (hd : noDefer ops = true) (hl : ¬ LetsOut Q) (hS : S w.drew)
    (h : S w.drew → wpAnyH P .any ops Q S ops.size (Array.replicate ops.size false) a w.drew) : (Code.region id ops true).wpIn (Fence.wide.inRound k) n P Q a w :=
  wpIn_region_any hm (any_round (noDefer_spec hd) _ _ _ _ (any_wide hl _ _ _ _ (wpAny_of_held _ _ _ _ (h hS))))
end Go.Proofs.YtcodjknhnhdkfaaGreatDoor.Rg
namespace Go.Proofs.YtcodjknhnhdkfaaGreatDoor.Ht
open Go.RowKit Go.Sort Go.Proofs.YtcodjknhnhdkfaaGreatDoor.Rg
variable {P : Program} {ops : Array Oper} {Q : Exit → Act → World → Prop} {S : World → Prop}

theorem begin_round {id k n : Nat} {a : Act} {w : World} (L : Nat) (S : World → Prop) (hm : P.follows .mixedOrders = true) (hd : noDefer ops = true) (hS : S w.drew)
    (h : S w.drew → Ahead P .any ops (Nrm Q) S L ops.size (Array.replicate ops.size false) a w.drew) : (Code.region id ops true).wpIn (Fence.wide.inRound k) n P Q a w := by
  have h1 : (Code.region id ops true).wpIn (Fence.wide.inRound k) n P (Nrm Q) a w :=
    wpIn_region_any hm (any_round (noDefer_spec hd) _ _ _ _ (any_wide (fun ⟨_, _, h⟩ => h) _ _ _ _ (Ahead.any _ _ _ _ (h hS))))
  exact wpIn_mono h1 (fun e _ _ hq => by cases e <;> first | exact hq | exact hq.elim)
/-- a call of a function of the program -/
theorem enter {o : Oper} {a : Act} {w : World} {K : Act → World → Prop} (f : FuncId) (args : Array Value) (hr : (execOp a.eval o).run P w = .ok (.enter f args) w) {R : Ending → World → Prop} (hc : Calls P f args w R)
    (h : ∀ e w', R e w' → ∃ v, e = .returned v ∧ K (a.put o.dst v) w') : Oper.wp P o a w K Q := by
  unfold Oper.wp
  rw [hr]
  exact hc.mono fun e w' hR => by obtain ⟨v, rfl, hk⟩ := h e w' hR; exact hk
end Go.Proofs.YtcodjknhnhdkfaaGreatDoor.Ht
namespace Go.Proofs.YtcodjknhnhdkfaaGreatDoor.Ht
open Go.RowKit Go.Sort
variable {P : Program} {md : Region.Mode} {ops : Array Oper} {Q : Exit → Act → World → Prop} {S : World → Prop} {L : Nat}

def lastD (k : Nat) (md : Region.Mode) (ops : Array Oper) (L : Nat) : Bool := (List.range ops.size).all fun i => i == L || waits md ops k L i
theorem lastD_spec {k : Nat} (h : lastD k md ops L = true) (listed : Array Bool) (hc : Closed md ops listed) {i : Nat} (hi : i ∈ Region.ready md ops listed) (hL : L ∈ Region.ready md ops listed) : i = L := by
  obtain ⟨h0, o, ho, _⟩ := mem_ready.1 hi
  have hlt : i < ops.size := (Array.getElem?_eq_some_iff.1 ho).1
  have := List.all_eq_true.1 h i (List.mem_range.2 hlt)
  rcases Bool.or_eq_true_iff.1 this with h1 | h1
  · exact beq_iff_eq.1 h1
  · exfalso
    have := waits_spec hc k L i (fun m hm => ready_direct hL hm) h1
    rcases Nat.lt_or_ge i listed.size with h' | h'
    · simp [h'] at h0 this; rw [h0] at this; cases this
    · simp [Array.getElem?_eq_none h'] at this
theorem ahead_deep {i : Nat} {oi : Oper} {v : Value} (hlast : ∀ listed, Closed md ops listed → ∀ {i}, i ∈ Region.ready md ops listed → L ∈ Region.ready md ops listed → i = L) (hiL : i ≠ L) (hi : ops[i]? = some oi) (hsel : Region.noSelect ops = true)
    (hQ : ∀ c a w, Q (.panic c) (a.put oi.dst v) w → Q (.panic c) a w) : ∀ (f : Nat) (listed : Array Bool) (a : Act) (w : World), Closed md ops listed →
      (∀ j oj, ops[j]? = some oj → j ≠ i → listed.getD j true = false → (∀ e ∈ oj.after, Region.binds md e = true → e.on ≠ i) → oi.apart ops oj = true) →
      i ∈ Region.ready md ops listed → YieldsIf P ops S oi v a → S w →
      Ahead P md ops Q S L f (listed.setIfInBounds i true) (a.put oi.dst v) w → Ahead P md ops Q S L (f + 1) listed a w
  | f, listed, a, w, hcl, hfree, hr, hy, hS, H => by
    refine ⟨fun h => absurd hr (by rw [h]; simp), fun j hj => ?_⟩
    by_cases hji : j = i
    · subst hji; exact hy.wpOp hi hS ⟨fun _ => hS, H⟩
    have hjL : j ≠ L := fun e => hiL (hlast _ hcl hr (e ▸ hj))
    cases f with
    | zero =>
      have := ready_mono hj hji
      rw [H.1] at this
      cases this
    | succ f =>
      obtain ⟨hjun, oj, hoj, hall⟩ := mem_ready.1 hj
      have hnot : ∀ e ∈ oj.after, Region.binds md e = true → e.on ≠ i := fun e he hb heq => by
        have h1 := hall e he hb
        have h0 := (mem_ready.1 hr).1
        rw [heq] at h1
        rcases Nat.lt_or_ge i listed.size with h' | h'
        · simp [h'] at h0 h1; rw [h0] at h1; cases h1
        · simp [Array.getElem?_eq_none h'] at h1
      have h2 := wpOp_putIf hoj (hfree j oj hoj hji hjun hnot) (fun cs b => Region.noSelect_spec hsel i oi cs b hi) (fun cs b => Region.noSelect_spec hsel j oj cs b hoj) hQ hy (H.2 j (ready_mono hj hji))
      refine wpOp_mono (fun a' w' h3 => ⟨h3.2.1, ahead_deep hlast hiL hi hsel hQ f (listed.setIfInBounds j true) a' w' (hcl.next hj) ?_ (ready_mono hr (Ne.symm hji)) h3.1 (h3.2.1 hjL) ?_⟩) h2
      · intro k ok hk hki hun hno
        refine hfree k ok hk hki ?_ hno
        by_cases hjk : j = k
        · subst hjk; exact hjun
        · rwa [getD_set_ne true hjk] at hun
      · rw [Array.setIfInBounds_comm _ _ hji]
        exact h3.2.2
theorem takeD (k : Nat) {i : Nat} (oi : Oper) (v : Value) {f : Nat} {listed : Array Bool} {a : Act} {w : World} (hi : ops[i]? = some oi) (hlast : lastD k md ops L = true) (hcl : closedB md ops listed = true) (hiL : i ≠ L)
    (hs : Region.noSelect ops = true) (hf : Region.free md ops listed i = true) (hr : (Region.ready md ops listed).contains i = true) (hS : S w) (hy : YieldsIf P ops S oi v a)
    (h : Ahead P md ops (Nrm Q) S L f (listed.setIfInBounds i true) (a.put oi.dst v) w) : Ahead P md ops (Nrm Q) S L (f + 1) listed a w :=
  ahead_deep (lastD_spec hlast) hiL hi hs (fun _ _ _ h => h.elim) f listed a w (closed_spec hcl) (Region.free_spec hi hf) (by simpa using hr) hy hS h
/-- .. where S holds behind every operation: no operation is the last one -/
theorem takeN {i : Nat} (oi : Oper) (v : Value) {f : Nat} {listed : Array Bool} {a : Act} {w : World} (hi : ops[i]? = some oi) (hL : ops.size ≤ L) (hcl : closedB md ops listed = true)
    (hs : Region.noSelect ops = true) (hf : Region.free md ops listed i = true) (hr : (Region.ready md ops listed).contains i = true) (hS : S w) (hy : YieldsIf P ops S oi v a)
    (h : Ahead P md ops (Nrm Q) S L f (listed.setIfInBounds i true) (a.put oi.dst v) w) : Ahead P md ops (Nrm Q) S L (f + 1) listed a w :=
  ahead_deep (fun listed _ {i} _ hL' => by
    obtain ⟨_, o, ho, _⟩ := mem_ready.1 hL'
    have := (Array.getElem?_eq_some_iff.1 ho).1
    omega) (fun e => by have := (Array.getElem?_eq_some_iff.1 hi).1; omega) hi hs (fun _ _ _ h => h.elim) f listed a w (closed_spec hcl) (Region.free_spec hi hf) (by simpa using hr) hy hS h
end Go.Proofs.YtcodjknhnhdkfaaGreatDoor.Ht
