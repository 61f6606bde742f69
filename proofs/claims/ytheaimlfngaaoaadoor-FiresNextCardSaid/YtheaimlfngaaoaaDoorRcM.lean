
/- plain mathematics: a part that is right, as the document's answer takes it apart -/
import Derived.Test.YtheaimlfngaaoaaDoorRc2
import Derived.Test.YtheaimlfngaaoaaDoorCnB
namespace Go.Proofs.YtheaimlfngaaoaaDoor.Cn
open Go.RowKit Go.Lib
set_option linter.unusedVariables false

/-- two ends: a star, or two numbers -/
def Ends (f : Fd) (A : L) (x y : Nat) : Prop := (A = [42] ∧ x = f.lo ∧ y = f.hi) ∨ (A ≠ [42] ∧ ∃ m, fi 45 A = some m ∧ numT f (A.take m) = (x, true) ∧ numT f (A.drop (m + 1)) = (y, true))
theorem ends_of {f : Fd} {A : L} {p : Pt} (h : spanT f A = (p, true)) : Ends f A p.1 p.2.1 ∧ p.2.2 = 1 := by
  unfold spanT at h
  by_cases hA : A = [42]
  · rw [if_pos hA] at h
    have := (Prod.mk.inj h).1
    subst this
    exact ⟨.inl ⟨hA, rfl, rfl⟩, rfl⟩
  · rw [if_neg hA] at h
    obtain ⟨h1, h2⟩ := Prod.mk.inj h
    rw [Bool.and_eq_true] at h2
    subst h1
    refine ⟨.inr ⟨hA, ?_⟩, rfl⟩
    unfold ct at h2 ⊢
    cases hf : fi 45 A with
    | none =>
      rw [hf] at h2
      have h3 := h2.2
      have e : numT f [] = (0, false) := by rw [numT_none (nmI_len (by decide))]; rfl
      rw [e] at h3; cases h3
    | some m =>
      rw [hf] at h2
      exact ⟨m, rfl, Prod.ext rfl h2.1, Prod.ext rfl h2.2⟩
theorem num_chars {f : Fd} {i : Nat} (hf : f = fds i) {s : L} {n : Nat} (h : numT f s = (n, true)) : ∀ b ∈ s, isD b = true ∨ (97 ≤ b.toNat ∧ b.toNat ≤ 122) := by
  unfold numT at h
  cases e : nmI s f.nm with
  | some k =>
    obtain ⟨h1, h2⟩ := nmI_at e
    intro b hb
    right
    have hb2 : b ∈ f.nm := by
      rw [h1] at hb
      exact List.mem_of_mem_drop (List.mem_of_mem_take hb)
    have key : ∀ i, ∀ b ∈ (fds i).nm, 97 ≤ b.toNat ∧ b.toNat ≤ 122 := by
      intro i
      match i with
      | 0 => decide
      | 1 => decide
      | 2 => decide
      | 3 => decide
      | n + 4 => show ∀ b ∈ (fds 4).nm, _; decide
    rw [hf] at hb2
    exact key i b hb2
  | none =>
    rw [e] at h
    match s, h with
    | [], h => cases h
    | [a], h =>
      intro b hb
      left
      rw [List.mem_singleton.1 hb]
      dsimp only [dgT] at h
      split at h
      · assumption
      · cases h
    | [a, c], h =>
      intro b hb
      left
      dsimp only [dgT] at h
      split at h
      · rename_i h2
        rw [Bool.and_eq_true] at h2
        rcases List.mem_cons.1 hb with rfl | hb
        · exact h2.1
        · rw [List.mem_singleton.1 hb]; exact h2.2
      · cases h
    | a :: c :: d :: r, h => cases h
theorem num_free {i : Nat} {s : L} {n : Nat} (h : numT (fds i) s = (n, true)) : fi 47 s = none ∧ fi 45 s = none ∧ s ≠ [42] := by
  have hc := num_chars rfl h
  refine ⟨fi_none.2 fun hm => ?_, fi_none.2 fun hm => ?_, fun e => ?_⟩
  · rcases hc _ hm with h1 | h1
    · revert h1; decide
    · revert h1; decide
  · rcases hc _ hm with h1 | h1
    · revert h1; decide
    · revert h1; decide
  · rcases hc 42 (by rw [e]; exact List.mem_cons_self) with h1 | h1
    · revert h1; decide
    · revert h1; decide
/-- a part that is right -/
inductive Form (f : Fd) (s : L) (p : Pt) : Prop
  | num (n : Nat) (h : numT f s = (n, true)) (h1 : fi 47 s = none) (h2 : fi 45 s = none) (h3 : s ≠ [42]) (hp : p = (n, n, 1))
  | span (h1 : fi 47 s = none) (h : Ends f s p.1 p.2.1) (hp : p.2.2 = 1)
  | step (k : Nat) (h1 : fi 47 s = some k) (h : Ends f (s.take k) p.1 p.2.1) (h2 : dgT (s.drop (k + 1)) = (p.2.2, true))
theorem form_of {i : Nat} {s : L} (h : errP (fds i) s = 0) : Form (fds i) s (readT (fds i) s).1 := by
  have hr : (readT (fds i) s).2 = true := by
    unfold errP at h
    split at h
    · assumption
    · cases h
  obtain ⟨p, hp⟩ : ∃ p, readT (fds i) s = (p, true) := ⟨_, Prod.ext rfl hr⟩
  rw [hp]
  unfold readT at hp
  by_cases hn : (numT (fds i) s).2 = true
  · rw [if_pos hn] at hp
    have hn2 : numT (fds i) s = ((numT (fds i) s).1, true) := Prod.ext rfl hn
    obtain ⟨h1, h2, h3⟩ := num_free hn2
    exact .num _ hn2 h1 h2 h3 (Prod.mk.inj hp).1.symm
  · rw [if_neg hn] at hp
    unfold ct at hp
    cases hf : fi 47 s with
    | none =>
      rw [hf] at hp
      simp only [Bool.and_false, Bool.false_eq_true, if_false] at hp
      obtain ⟨h1, h2⟩ := ends_of hp
      exact .span hf h1 h2
    | some k =>
      rw [hf] at hp
      simp only [Bool.and_true] at hp
      by_cases ho : (spanT (fds i) (s.take k)).2 = true
      · rw [if_pos ho] at hp
        obtain ⟨h1, h2⟩ := Prod.mk.inj hp
        obtain ⟨h3, h4⟩ := ends_of (Prod.ext rfl ho : spanT (fds i) (s.take k) = ((spanT (fds i) (s.take k)).1, true))
        subst h1
        exact .step k hf h3 (Prod.ext rfl h2)
      · rw [if_neg ho] at hp
        exact absurd (congrArg Prod.snd hp) (by simpa using ho)
theorem nI_of {f : Fd} {s : L} {n : Nat} (h : numT f s = (n, true)) : nI f s = (n : Nat) := by unfold nI; rw [h]; rfl
theorem nI_dg {s : L} {n : Nat} (h : dgT s = (n, true)) : nI (fds 0) s = (n : Nat) := nI_of ((numT_none (f := fds 0) (s := s) (by cases s <;> rfl)).trans h)
/-- each so-manieth number -/
def vals (x d k : Nat) : List Nat := (List.range k).map fun j => x + j * d
theorem vals_next (x d k : Nat) : vals x d (k + 1) = vals x d k ++ [x + k * d] := by unfold vals; rw [List.range_succ, List.map_append]; rfl
theorem vals_mem {x y d k : Nat} (hd : 1 ≤ d) (h1 : y < x + k * d) (h2 : ∀ j, j < k → x + j * d ≤ y) (z : Nat) : z ∈ vals x d k ↔ inP (x, y, d) z = true := by
  unfold vals inP
  simp only [List.mem_map, List.mem_range, Bool.and_eq_true, decide_eq_true_eq]
  constructor
  · rintro ⟨j, hj, rfl⟩
    refine ⟨⟨Nat.le_add_right _ _, h2 j hj⟩, ?_⟩
    rw [Nat.add_sub_cancel_left, Nat.mul_mod_left]
  · rintro ⟨⟨h3, h4⟩, h5⟩
    refine ⟨(z - x) / d, ?_, ?_⟩
    · rw [Nat.div_lt_iff_lt_mul (by omega)]; omega
    · have := Nat.div_add_mod (z - x) d
      rw [h5, Nat.add_zero, Nat.mul_comm] at this
      omega
end Go.Proofs.YtheaimlfngaaoaaDoor.Cn
