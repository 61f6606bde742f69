
/- graphs: a node more -/
import Derived.Test.YtmlmacplkfnhkaaDgDA
import Derived.Test.YtmlmacplkfnhkaaHf
import Derived.Shelf.Abstract
namespace Go.Proofs.Ytmlmacplkfnhkaa.DgA
open Go.RowKit Go.Lib Hp Mv Dg Ht
set_option linter.unusedVariables false
set_option maxRecDepth 20000
def put {α : Type} (f : Id → α) (x : Id) (v : α) : Id → α := fun y => if y = x then v else f y
theorem put_same {α : Type} (f : Id → α) (x : Id) (v : α) : put f x v x = v := by unfold put; rw [if_pos rfl]
theorem put_ne {α : Type} (f : Id → α) {x y : Id} (v : α) (h : y ≠ x) : put f x v y = f y := by unfold put; rw [if_neg h]
theorem empty_map {V : World} {b c : Nat} (h : V.heap[b]? = some (.map #[] c)) : Mq V b 0 (fun _ => none) :=
  ⟨.map [], ⟨#[], c, h, ⟨Nat.zero_le _, MapKept.stamped_empty c, fun x hx => by simp at hx⟩, Nat.le_refl _, rfl⟩, rfl, fun _ _ _ => rfl⟩
section
variable {S : Nat → Prop} {w : World} {gb : Nat} {mv : Option Nat} {ns : List Id} {E : Id → Id → Bool} {nb ob ub : Id → Nat}
/-- the first map -/
theorem Gq.withMap {Y : World} {M : Nat} (q : Gq S w gb none ns E nb ob ub) (hg : Y.heap[gb]? = some (.cells #[.map (some M)] 42 (0, 0))) (hM : Y.heap[M]? = some (.map #[] 0)) (f : Fr S w Y) (hl : w.heap.size ≤ M) :
    Gq (fun k => S k ∨ k = M) Y gb (some M) ns E nb ob ub := by
  have hns : ns = [] := by
    rcases q.map with ⟨_, h⟩ | ⟨b, h, _⟩
    · exact h
    · cases h
  subst hns
  have hMs := (Array.getElem?_eq_some_iff.1 hM).1
  refine ⟨hg, .inr ⟨M, rfl, ?_⟩, by simp, by simp, by simp, q.edge, by simp, List.nodup_nil, by simp, by simp, by simp, by simp, .inl q.ownG, fun b e => .inr (Option.some.inj e).symm, by simp, fun k hk => ?_⟩
  · exact (empty_map hM).congr fun k _ => by unfold nf; simp
  · rcases hk with hk | rfl
    · exact Nat.lt_of_lt_of_le (q.size k hk) f.size
    · exact hMs
theorem Gq.mapMade (q : Gq S w gb none ns E nb ob ub) :
    Gq (fun k => S k ∨ k = w.heap.size) ((w.setCell ⟨gb, 0, none⟩ (.map (some w.heap.size))).alloc (.map #[] 0)) gb (some w.heap.size) ns E nb ob ub ∧ Fr S w ((w.setCell ⟨gb, 0, none⟩ (.map (some w.heap.size))).alloc (.map #[] 0)) := by
  have hg := q.size gb q.ownG
  have sz : (w.setCell ⟨gb, 0, none⟩ (.map (some w.heap.size))).heap.size = w.heap.size := by simp
  have h1 := MapKept.heap_alloc (w.setCell ⟨gb, 0, none⟩ (.map (some w.heap.size))) (.map #[] 0)
  rw [sz] at h1
  have f : Fr S w ((w.setCell ⟨gb, 0, none⟩ (.map (some w.heap.size))).alloc (.map #[] 0)) :=
    ⟨rfl, rfl, rfl, by simp, fun k hk hn => (h1.2 k hk).trans (heap_setCell_other _ _ _ _ (by show k ≠ gb; intro e; exact hn (e ▸ q.ownG)))⟩
  exact ⟨q.withMap ((h1.2 gb hg).trans (by rw [Lib.heap_setCell_same q.obj]; rfl)) h1.1 f (Nat.le_refl _), f⟩
/-- a node that is there alone -/
theorem Gq.added {x : Id} {V Y : World} {b n' o' u' : Nat} (q : Gq S w gb (some b) ns E nb ob ub) (hx : x ∉ ns) (hwk : wk x ∧ x.2 = false) (hb : Below w.heap.size w V)
    (hN : V.heap[n']? = some (.cells #[kv x.1, .map (some o'), .map (some u')] 51 (0, 0))) (hO : V.heap[o']? = some (.map #[] 0)) (hU : V.heap[u']? = some (.map #[] 0))
    (ln : w.heap.size ≤ n') (lo : w.heap.size ≤ o') (lu : w.heap.size ≤ u') (hd : o' ≠ u') (hg : V.grownBy Y (some b)) (hm : Mq Y b (ns.length + 1) (Mv.upd (nf ns nb) x (.pointer (some ⟨n', 0, none⟩)))) :
    Gq (fun k => S k ∨ w.heap.size ≤ k ∧ (k = n' ∨ k = o' ∨ k = u')) Y gb (some b) (ns ++ [x]) E (put nb x n') (put ob x o') (put ub x u') ∧ Fr S w Y := by
  have q2 := q.below hb (Nat.le_refl _)
  have hbS := q.ownM b rfl
  have hbl := q.size b hbS
  have ne : ∀ k ∈ ns, k ≠ x := fun k hk e => hx (e ▸ hk)
  have hbm : ∃ n f, Mq V b n f := by
    rcases q2.map with ⟨h, _⟩ | ⟨b', h, hm⟩
    · cases h
    · obtain rfl := Option.some.inj h; exact ⟨_, _, hm⟩
  obtain ⟨nM, fM, hbm⟩ := hbm
  have kp : ∀ k, k < V.heap.size → k ≠ b → Y.heap[k]? = V.heap[k]? := fun k hk e => hg.block k hk (fun e2 => e (Option.some.inj e2))
  have lt : ∀ {k : Nat} {o : Obj}, V.heap[k]? = some o → k < V.heap.size := fun h => (Array.getElem?_eq_some_iff.1 h).1
  have sz : ∀ k, S k → k < V.heap.size := fun k hk => q2.size k hk
  have mem : ∀ k, k ∈ ns ++ [x] → k ∈ ns ∨ k = x := fun k hk => by simpa using hk
  have old : ∀ k ∈ ns, S (nb k) ∧ S (ob k) ∧ S (ub k) := q.ownN
  have so : ∀ k, S k → k < w.heap.size := q.size
  refine ⟨⟨?_, .inr ⟨b, rfl, ?_⟩, ?_, ?_, ?_, ?_, ?_, ?_, ?_, ?_, ?_, ?_, .inl q.ownG, fun b' e => .inl (q.ownM b' e), ?_, ?_⟩, ?_⟩
  · exact (kp gb (sz gb q.ownG) (hbm.ne q2.obj).symm).trans q2.obj
  · rw [show (ns ++ [x]).length = ns.length + 1 by simp]
    refine hm.congr fun k _ => ?_
    unfold Mv.upd nf
    by_cases e : k = x
    · subst e; rw [if_pos rfl, if_pos (by simp), put_same]
    · rw [if_neg e, put_ne _ _ e]
      by_cases h : k ∈ ns
      · rw [if_pos h, if_pos (by simp [h])]
      · rw [if_neg h, if_neg (by simp [h, e])]
  · intro k hk
    rcases mem k hk with hk | rfl
    · rw [put_ne _ _ (ne k hk), put_ne _ _ (ne k hk), put_ne _ _ (ne k hk)]
      exact (kp _ (lt (q2.node k hk)) (hbm.ne (q2.node k hk)).symm).trans (q2.node k hk)
    · rw [put_same, put_same, put_same]
      exact (kp _ (lt hN) (hbm.ne hN).symm).trans hN
  · intro k hk
    rcases mem k hk with hk | rfl
    · rw [put_ne _ _ (ne k hk)]
      obtain ⟨n, h⟩ := q2.on k hk
      exact ⟨n, h.kept (kp _ h.lt (q.dM b rfl k hk).1)⟩
    · rw [put_same]
      refine ⟨0, ((empty_map hO).kept (kp _ (lt hO) (by omega))).congr fun y _ => ?_⟩
      unfold sf
      rw [if_neg (fun e => hx (q.edge _ _ e).1)]
  · intro k hk
    rcases mem k hk with hk | rfl
    · rw [put_ne _ _ (ne k hk)]
      obtain ⟨n, h⟩ := q2.users k hk
      exact ⟨n, h.kept (kp _ h.lt (q.dM b rfl k hk).2)⟩
    · rw [put_same]
      refine ⟨0, ((empty_map hU).kept (kp _ (lt hU) (by omega))).congr fun y _ => ?_⟩
      unfold sf
      rw [if_neg (fun e => hx (q.edge _ _ e).2)]
  · intro a c h
    have := q.edge a c h
    exact ⟨by simp [this.1], by simp [this.2]⟩
  · intro k hk
    rcases mem k hk with hk | rfl
    · exact q.ok k hk
    · exact hwk
  · rw [List.nodup_append]
    exact ⟨q.nd, by simp, by intro a ha c hc e; rw [List.mem_singleton] at hc; exact hx (by rw [← hc, ← e]; exact ha)⟩
  · intro k hk y hy e
    rcases mem k hk with h1 | h1 <;> rcases mem y hy with h2 | h2
    · rw [put_ne _ _ (ne k h1), put_ne _ _ (ne y h2)] at e; exact q.dOO k h1 y h2 e
    · rw [put_ne _ _ (ne k h1), h2, put_same] at e; have := so _ (old k h1).2.1; omega
    · rw [put_ne _ _ (ne y h2), h1, put_same] at e; have := so _ (old y h2).2.1; omega
    · rw [h1, h2]
  · intro k hk y hy e
    rcases mem k hk with h1 | h1 <;> rcases mem y hy with h2 | h2
    · rw [put_ne _ _ (ne k h1), put_ne _ _ (ne y h2)] at e; exact q.dUU k h1 y h2 e
    · rw [put_ne _ _ (ne k h1), h2, put_same] at e; have := so _ (old k h1).2.2; omega
    · rw [put_ne _ _ (ne y h2), h1, put_same] at e; have := so _ (old y h2).2.2; omega
    · rw [h1, h2]
  · intro k hk y hy e
    rcases mem k hk with h1 | h1 <;> rcases mem y hy with h2 | h2
    · rw [put_ne _ _ (ne k h1), put_ne _ _ (ne y h2)] at e; exact q.dOU k h1 y h2 e
    · rw [put_ne _ _ (ne k h1), h2, put_same] at e; have := so _ (old k h1).2.1; omega
    · rw [put_ne _ _ (ne y h2), h1, put_same] at e; have := so _ (old y h2).2.2; omega
    · rw [h1, h2, put_same, put_same] at e; exact hd e
  · intro b' e k hk
    obtain rfl := Option.some.inj e
    rcases mem k hk with hk | rfl
    · rw [put_ne _ _ (ne k hk), put_ne _ _ (ne k hk)]; exact q.dM _ rfl k hk
    · rw [put_same, put_same]; omega
  · intro k hk
    rcases mem k hk with hk | rfl
    · rw [put_ne _ _ (ne k hk), put_ne _ _ (ne k hk), put_ne _ _ (ne k hk)]
      exact ⟨.inl (old k hk).1, .inl (old k hk).2.1, .inl (old k hk).2.2⟩
    · rw [put_same, put_same, put_same]
      exact ⟨.inr ⟨ln, .inl rfl⟩, .inr ⟨lo, .inr (.inl rfl)⟩, .inr ⟨lu, .inr (.inr rfl)⟩⟩
  · intro k hk
    refine Nat.lt_of_lt_of_le ?_ hg.size
    rcases hk with hk | ⟨_, rfl | rfl | rfl⟩
    · exact sz k hk
    · exact lt hN
    · exact lt hO
    · exact lt hU
  · exact (Fr.of_below hb).trans (Fr.grown (S := S) hg (.inl hbS)) fun k hk => .inl hk
end
/-- a row of keys that came in -/
def Ks (S : Nat → Prop) (w : World) (v : Value) (ks : List Int) : Prop :=
  (ks = [] ∧ v = .slice none 0 0) ∨ ∃ g c, v = .slice (some ⟨g, 0, none⟩) ks.length c ∧ ¬ S g ∧ g < w.heap.size ∧ ∀ i k, ks[i]? = some k → w.cell? ⟨g, i, none⟩ = some (kv k)
theorem Ks.shape {S : Nat → Prop} {w : World} {v : Value} {ks : List Int} (h : Ks S w v ks) : ∃ a c, v = .slice a ks.length c ∧ (ks ≠ [] → ∃ g, a = some ⟨g, 0, none⟩ ∧ ¬ S g ∧ g < w.heap.size ∧ ∀ i k, ks[i]? = some k → w.cell? ⟨g, i, none⟩ = some (kv k)) := by
  rcases h with ⟨rfl, rfl⟩ | ⟨g, c, rfl, h1, h2, h3⟩
  · exact ⟨none, 0, rfl, fun h => absurd rfl h⟩
  · exact ⟨_, c, rfl, fun _ => ⟨g, rfl, h1, h2, h3⟩⟩
/-- many more -/
def addL (E : Id → Id → Bool) (x : Id) (ks : List Int) : Id → Id → Bool := fun a b => E a b || (decide (a = x) && decide (b ∈ ks.map fun k => (k, false)))
theorem addL_iff {E : Id → Id → Bool} {x a b : Id} {ks : List Int} : addL E x ks a b = true ↔ E a b = true ∨ (a = x ∧ ∃ k ∈ ks, b = (k, false)) := by
  unfold addL; simp only [Bool.or_eq_true, Bool.and_eq_true, decide_eq_true_eq, List.mem_map]
  constructor
  · rintro (h | ⟨h, k, h1, h2⟩)
    · exact .inl h
    · exact .inr ⟨h, k, h1, h2.symm⟩
  · rintro (h | ⟨h, k, h1, h2⟩)
    · exact .inl h
    · exact .inr ⟨h, k, h1, h2.symm⟩
theorem bool_ext {f g : Id → Id → Bool} (h : ∀ a b, f a b = true ↔ g a b = true) : f = g := by
  funext a b
  have := h a b
  cases h1 : f a b <;> cases h2 : g a b <;> simp_all
theorem addL_nil (E : Id → Id → Bool) (x : Id) : addL E x [] = E := bool_ext fun a b => by rw [addL_iff]; simp
theorem addL_snoc (E : Id → Id → Bool) (x : Id) (ks : List Int) (k : Int) : addE (addL E x ks) x (k, false) = addL E x (ks ++ [k]) := bool_ext fun a b => by
  rw [addE_iff, addL_iff, addL_iff]
  constructor
  · rintro ((h | ⟨h, k', h1, h2⟩) | ⟨h1, h2⟩)
    · exact .inl h
    · exact .inr ⟨h, k', by simp [h1], h2⟩
    · exact .inr ⟨h1, k, by simp, h2⟩
  · rintro (h | ⟨h, k', h1, h2⟩)
    · exact .inl (.inl h)
    · simp only [List.mem_append, List.mem_singleton] at h1
      rcases h1 with h1 | rfl
      · exact .inl (.inr ⟨h, k', h1, h2⟩)
      · exact .inr ⟨h, h2⟩
end Go.Proofs.Ytmlmacplkfnhkaa.DgA
