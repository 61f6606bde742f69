
/- the law's sorted: one laid into a row -/
import Derived.Test.YtcafiehlhdoibaaWh21
import Derived.Test.YtcafiehlhdoibaaWh22
namespace Go.Proofs.Ytcafiehlhdoibaa.Wh
open Go.RowKit Go.Lib Go.Sort Go.Maps Hp Ht
set_option linter.unusedVariables false
set_option maxRecDepth 20000
theorem slice_cap (W : World) (g n c i : Nat) (h : i ≤ n) (h2 : n ≤ c) : (Instr.slice 29 (.slice (some ⟨g, 0, none⟩) n c) none (some (.int .i64 ((i : Nat) : Int))) (some (.int .i64 ((i : Nat) : Int)))).run Try.prog W = .ok (.slice (some ⟨g, 0, none⟩) i i) W := by
  have h1 : ((i : Nat) : Int) ≤ ((c : Nat) : Int) := by omega
  clear h h2
  go_simp
theorem slice_low (W : World) (g n c k : Nat) (y : Addr) (h : k ≤ n) (h2 : n ≤ c) (hy : (if c = k then some (⟨g, 0, none⟩ : Addr) else (some (⟨g, 0, none⟩ : Addr)).map (·.add (k * 2))) = some y) : (Instr.slice 29 (.slice (some ⟨g, 0, none⟩) n c) (some (.int .i64 ((k : Nat) : Int))) none none).run Try.prog W = .ok (.slice (some y) (n - k) (c - k)) W := by
  have h1 : ((k : Nat) : Int) ≤ ((n : Nat) : Int) := by omega
  have h3 : ((n : Nat) : Int) ≤ ((c : Nat) : Int) := by omega
  rw [← hy]
  clear h h2 hy
  go_simp
theorem slice_none (W : World) : (Instr.slice 29 (.slice none 0 0) none (some (.int .i64 0)) (some (.int .i64 0))).run Try.prog W = .ok (.slice none 0 0) W ∧ (Instr.slice 29 (.slice none 0 0) (some (.int .i64 0)) none none).run Try.prog W = .ok (.slice none 0 0) W := by
  constructor <;> go_simp
/-- an append onto a row that has no room -/
theorem run_append_cap (X : World) {B : Nat} {v : Value} {l0 l : List (K × Int)} (g : Nat) (hold : ∀ j u, (cs l0)[j]? = some u → X.cell? ⟨g, j, none⟩ = some u) (ho : Own X B v l) (hl : 0 < l.length) (hb : l0.length + l.length ≤ 1000000) (ty : TypeId) :
    ∃ v2 X2, (Builtin.append_ #[29, 29] ty #[.slice (some ⟨g, 0, none⟩) l0.length l0.length, v]).run Try.prog X = .ok v2 X2 ∧ Own X2 X.heap.size v2 (l0 ++ l) ∧ X.grownBy X2 none := by
  obtain ⟨i0, hi, hz0, hz1, hz2⟩ := info_parts infoT
  rcases ho.2 with ⟨_, h0⟩ | ⟨g2, cap, cur, rfl, _⟩
  · omega
  · have hr := run_append_grow (P := Try.prog) X 29 ty 42 i0 _ Try.underlying29 hi hz0 ⟨g, 0, none⟩ l0.length l0.length (cs l0) (by rw [hz1, cs_len]) (fun j u hu => by rw [Addr.add_mid, Nat.zero_add]; exact hold j u hu) ⟨g2, 0, none⟩ l.length cap (cs l) (by rw [hz1, cs_len]) (fun j u hu => ho.cells rfl j u hu) (by omega) (by omega) (growslice_fits (by omega) (by rw [hz2]; omega))
    have hge := grownCap_ge X (l0.length + l.length) l0.length 42
    have hcm : grownCap X (l0.length + l.length) l0.length 42 ≤ maxLen := grownCap_le_maxLen X (l0.length + l.length) l0.length 42 (by unfold maxLen; omega)
    have hlen : (cs l0 ++ cs l).length = (l0.length + l.length) * 2 := by rw [List.length_append, cs_len, cs_len]; omega
    refine ⟨_, _, hr, ?_, ⟨rfl, rfl, rfl, by simp, fun k hk _ => (MapKept.heap_alloc X.drew _).2 k hk⟩⟩
    unfold Own
    rw [cs_app, List.length_append]
    refine ⟨hlen, .inr ⟨X.heap.size, _, _, rfl, Nat.le_refl _, (MapKept.heap_alloc X.drew _).1, hge, hcm, ?_, ?_⟩⟩
    · simp only [Array.size_append, List.size_toArray, size_zeroCells, cs_len]
      simp [Value.cells]
      omega
    · simp only [Array.toList_append, List.append_assoc]
      rw [← List.append_assoc, ← hlen]
      exact List.take_left
theorem ins_runs (W : World) {B : Nat} {v : Value} {o : List (K × Int)} (ho : Own W B v o) {i : Nat} (hi : i ≤ o.length) (hn : o.length ≤ 100000) (x : K × Int) (ty : TypeId) :
    ∃ va vb v1 W1 v2 W2, (∀ X, (Instr.slice 29 v none (some (.int .i64 ((i : Nat) : Int))) (some (.int .i64 ((i : Nat) : Int)))).run Try.prog X = .ok va X) ∧ (∀ X, (Instr.slice 29 v (some (.int .i64 ((i : Nat) : Int))) none none).run Try.prog X = .ok vb X) ∧
      (Builtin.append_ #[29, 29] ty #[.slice (some ⟨W.heap.size, 0, none⟩) 1 1, vb]).run Try.prog (W.alloc (.cells #[ek x.1, er x.2] 42)) = .ok v1 W1 ∧ (Builtin.append_ #[29, 29] ty #[va, v1]).run Try.prog W1 = .ok v2 W2 ∧
      Own W2 W.heap.size v2 (o.take i ++ x :: o.drop i) ∧ Below W.heap.size W W2 := by
  obtain ⟨i0, hi0, hz0, hz1, hz2⟩ := info_parts infoT
  have hbA : Below W.heap.size W (W.alloc (.cells #[ek x.1, er x.2] 42)) := (Below.refl _ _).alloc (Nat.le_refl _) _
  have hone : Own (W.alloc (.cells #[ek x.1, er x.2] 42)) W.heap.size (.slice (some ⟨W.heap.size, 0, none⟩) 1 1) [x] :=
    ⟨rfl, .inr ⟨W.heap.size, 1, #[ek x.1, er x.2], rfl, Nat.le_refl _, (MapKept.heap_alloc W _).1, Nat.le_refl _, by unfold maxLen; omega, rfl, rfl⟩⟩
  rcases ho.2 with ⟨rfl, h0⟩ | ⟨g, cap, cur, rfl, hBg, hg, hnc, hcm, hcs, htake⟩
  · have ho0 : o = [] := List.eq_nil_of_length_eq_zero h0
    subst ho0
    obtain rfl : i = 0 := by simpa using hi
    have r1 := run_append_owned_none (W.alloc (.cells #[ek x.1, er x.2] 42)) W.heap.size 29 ty 42 i0 2 Try.underlying29 hi0 _ _ _ hone
    obtain ⟨v2, X2, r2, o2, b2⟩ := run_push_all (W.alloc (.cells #[ek x.1, er x.2] 42)) (B := W.heap.size) (u := .slice none 0 0) (l0 := []) (l := [x]) ⟨rfl, .inl ⟨rfl, rfl⟩⟩ (src_own hone) hbA.size (by simp) (by simp) ty
    exact ⟨.slice none 0 0, .slice none 0 0, _, _, v2, X2, fun X => (slice_none X).1, fun X => (slice_none X).2, r1, r2, o2, hbA.trans b2⟩
  · obtain ⟨y, hy⟩ : ∃ y, (if cap = i then some (⟨g, 0, none⟩ : Addr) else (some (⟨g, 0, none⟩ : Addr)).map (·.add (i * 2))) = some y := by
      split
      · exact ⟨_, rfl⟩
      · exact ⟨_, rfl⟩
    have hcell : ∀ j u, (cs o)[j]? = some u → W.cell? ⟨g, j, none⟩ = some u := fun j u hu => by
      have := ho.cells rfl j u hu
      rw [Addr.add_mid, Nat.zero_add] at this; exact this
    have hgW : g < W.heap.size := (Array.getElem?_eq_some_iff.1 hg).1
    have hsplit : cs o = cs (o.take i) ++ cs (o.drop i) := by rw [← cs_app, List.take_append_drop]
    have hti : (o.take i).length = i := by simp; omega
    have hdrop : ∀ j u, (cs (o.drop i))[j]? = some u → (W.alloc (.cells #[ek x.1, er x.2] 42)).cell? (y.add j) = some u := fun j u hu => by
      have hjl : j < (o.drop i).length * 2 := by
        have := (List.getElem?_eq_some_iff.1 hu).1
        rwa [cs_len] at this
      rw [List.length_drop] at hjl
      have hne : ¬ cap = i := by omega
      rw [if_neg hne] at hy
      simp only [Option.map_some, Option.some.injEq] at hy
      rw [← hy, Addr.add_mid, Addr.add_mid, Nat.zero_add]
      refine (hbA.cell (p := ⟨g, i * 2 + j, none⟩) hgW).trans (hcell _ _ ?_)
      rw [hsplit, List.getElem?_append_right (by rw [cs_len, hti]; omega), cs_len, hti, show i * 2 + j - i * 2 = j by omega]
      exact hu
    obtain ⟨v1, W1, r1, o1, g1, _⟩ := run_append_own (P := Try.prog) (W.alloc (.cells #[ek x.1, er x.2] 42)) W.heap.size 29 ty 42 i0 _ 2 24 Try.underlying29 hi0 hz0 hz1 hz2 rfl (by decide) _ 1 (cs [x]) hone y (o.length - i) (cap - i) (cs (o.drop i)) (by rw [cs_len, List.length_drop]) hdrop (cs_one _) (by unfold maxLen; omega) (by omega) hbA.size
    have b1 : Below W.heap.size W W1 := hbA.trans ⟨g1.os, g1.tape, g1.output, g1.size, fun k hk => g1.block k (by have := hbA.size; omega) (fun e => by have := (hone.lt k e.symm).1; omega)⟩
    have o1' : Own W1 W.heap.size v1 (x :: o.drop i) := by
      have e : (x :: o.drop i).length = 1 + (o.length - i) := by simp; omega
      have e2 : cs (x :: o.drop i) = cs [x] ++ cs (o.drop i) := by rw [← cs_app]; rfl
      unfold Own
      rw [e, e2]; exact o1
    obtain ⟨v2, W2, r2, o2, g2⟩ := run_append_cap W1 (l0 := o.take i) (l := x :: o.drop i) g (fun j u hu => by
      have hjl : j < i * 2 := by
        have := (List.getElem?_eq_some_iff.1 hu).1
        rwa [cs_len, hti] at this
      refine (b1.cell (p := ⟨g, j, none⟩) hgW).trans (hcell _ _ ?_)
      rw [hsplit, List.getElem?_append_left (by rw [cs_len, hti]; exact hjl)]
      exact hu) o1' (by simp) (by simp; omega) ty
    rw [hti] at r2
    exact ⟨_, _, v1, W1, v2, W2, fun X => slice_cap X g o.length cap i hi hnc, fun X => slice_low X g o.length cap i y hi hnc hy, r1, r2, own_base o2 b1.size, b1.trans ⟨g2.os, g2.tape, g2.output, g2.size, fun k hk => g2.block k (by have := b1.size; omega) (by simp)⟩⟩
end Go.Proofs.Ytcafiehlhdoibaa.Wh
