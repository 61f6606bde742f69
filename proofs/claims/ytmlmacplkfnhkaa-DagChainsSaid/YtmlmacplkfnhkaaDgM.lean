
/- who stands on whom: what a walk finds (of no program) -/
import Derived.Test.YtmlmacplkfnhkaaMv
namespace Go.Proofs.Ytmlmacplkfnhkaa.Dg
set_option linter.unusedVariables false
section
variable {I : Type}
/-- in one step or more -/
inductive Re (R : I → I → Bool) (s : I) : I → Prop
  | one {x : I} : R s x = true → Re R s x
  | more {x y : I} : Re R s x → R x y = true → Re R s y
theorem Re.head {R : I → I → Bool} {s x y : I} (h : R s x = true) (k : Re R x y) : Re R s y := by
  induction k with
  | one e => exact .more (.one h) e
  | more _ e ih => exact .more ih e
theorem Re.flip {R : I → I → Bool} {s x : I} (h : Re R s x) : Re (fun a b => R b a) x s := by
  induction h with
  | one e => exact .one e
  | more _ e ih => exact .head e ih
theorem flip_iff {R : I → I → Bool} {s x : I} : Re (fun a b => R b a) x s ↔ Re R s x := ⟨fun h => Re.flip (R := fun a b => R b a) h, Re.flip⟩
theorem Re.last {R : I → I → Bool} {s x : I} (h : Re R s x) : ∃ y, R y x = true := by
  cases h with
  | one e => exact ⟨_, e⟩
  | more _ e => exact ⟨_, e⟩
/-- a walk between its steps -/
structure WI (R : I → I → Bool) (s : I) (F : I → Prop) (rest : List I) : Prop where
  found : ∀ x, F x → Re R s x
  row : ∀ x ∈ rest, x = s ∨ F x
  closed : ∀ x, (x = s ∨ F x) → x ∉ rest → ∀ y, R x y = true → F y
theorem WI.start (R : I → I → Bool) (s : I) : WI R s (fun _ => False) [s] :=
  ⟨fun _ h => h.elim, fun x h => .inl (by simpa using h), fun x h k => by
    rcases h with rfl | h
    · simp at k
    · exact h.elim⟩
theorem WI.done {R : I → I → Bool} {s : I} {F : I → Prop} (h : WI R s F []) (x : I) : F x ↔ Re R s x := by
  constructor
  · exact h.found x
  · intro k
    induction k with
    | one e => exact h.closed s (.inl rfl) (by simp) _ e
    | more _ e ih => exact h.closed _ (.inr ih) (by simp) _ e
/-- a walk within a step: of x these are told -/
structure WJ (R : I → I → Bool) (s x : I) (es : List I) (F : I → Prop) (rest : List I) : Prop where
  found : ∀ z, F z → Re R s z
  row : ∀ z ∈ rest, z = s ∨ F z
  self : x = s ∨ F x
  closed : ∀ z, (z = s ∨ F z) → z ∉ rest → z ≠ x → ∀ y, R z y = true → F y
  told : ∀ y ∈ es, F y
theorem WI.step {R : I → I → Bool} {s x : I} {F : I → Prop} {rest : List I} (h : WI R s F (rest ++ [x])) : WJ R s x [] F rest :=
  ⟨h.found, fun z hz => h.row z (by simp [hz]), h.row x (by simp), fun z hz hn hx => h.closed z hz (by simp [hn, hx]), by simp⟩
theorem WJ.old {R : I → I → Bool} {s x y : I} {es : List I} {F : I → Prop} {rest : List I} (h : WJ R s x es F rest) (hy : F y) : WJ R s x (es ++ [y]) F rest :=
  ⟨h.found, h.row, h.self, h.closed, fun z hz => by
    rw [List.mem_append, List.mem_singleton] at hz
    rcases hz with hz | rfl
    · exact h.told z hz
    · exact hy⟩
theorem WJ.new {R : I → I → Bool} {s x y : I} {es : List I} {F : I → Prop} {rest : List I} (h : WJ R s x es F rest) (hy : R x y = true) : WJ R s x (es ++ [y]) (fun z => z = y ∨ F z) (rest ++ [y]) where
  found z hz := by
    rcases hz with rfl | hz
    · rcases h.self with e | e
      · rw [e] at hy; exact .one hy
      · exact .more (h.found _ e) hy
    · exact h.found z hz
  row z hz := by
    rw [List.mem_append, List.mem_singleton] at hz
    rcases hz with hz | rfl
    · exact (h.row z hz).imp_right .inr
    · exact .inr (.inl rfl)
  self := h.self.imp_right .inr
  closed z hz hn hx u hu := by
    rw [List.mem_append, List.mem_singleton] at hn
    refine .inr (h.closed z ?_ (fun e => hn (.inl e)) hx u hu)
    rcases hz with hz | rfl | hz
    · exact .inl hz
    · exact absurd (.inr rfl) hn
    · exact .inr hz
  told z hz := by
    rw [List.mem_append, List.mem_singleton] at hz
    rcases hz with hz | rfl
    · exact .inr (h.told z hz)
    · exact .inl rfl
theorem WJ.done {R : I → I → Bool} {s x : I} {es : List I} {F : I → Prop} {rest : List I} (h : WJ R s x es F rest) (hes : ∀ y, R x y = true → y ∈ es) : WI R s F rest :=
  ⟨h.found, h.row, fun z hz hn y hy => by
    rcases Classical.em (z = x) with e | e
    · subst e; exact h.told y (hes y hy)
    · exact h.closed z hz hn e y hy⟩
end
end Go.Proofs.Ytmlmacplkfnhkaa.Dg
