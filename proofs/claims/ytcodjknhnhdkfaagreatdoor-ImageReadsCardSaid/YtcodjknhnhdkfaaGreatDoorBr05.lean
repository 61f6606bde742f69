/- results that lie in a cell -/
import Derived.Test.YtcodjknhnhdkfaaGreatDoorBr00
import Derived.Laws.Rows
import Derived.Laws.NewBlocks
import Derived.OwnWalk
import Derived.Lib.OthersKept
import Derived.Deep.MidRow
namespace Go.Proofs.YtcodjknhnhdkfaaGreatDoor.By
open Go.RowKit Go.Lib

theorem results_cell1 {fn : Func} {p : Tmp} {ty : TypeId} (h : fn.results = #[.cell p ty]) (tmps : Array Value) (P : Program) (w : World) :
    (results fn tmps).run P w = ((asAddr (tmps.getD p undef)).run P w).andThen fun a w₁ => (loadVar ty a).run P w₁ := by
  simp only [results, h]
  simp [Sem.run_bind, Result.andThen]
theorem results_cell4 {fn : Func} {p a b c : Tmp} {ty : TypeId} (h : fn.results = #[.cell p ty, .tmp a, .tmp b, .tmp c]) (tmps : Array Value) (P : Program) (w : World) :
    (results fn tmps).run P w =
      ((asAddr (tmps.getD p undef)).run P w).andThen fun x w₁ => ((loadVar ty x).run P w₁).andThen fun v w₂ => .ok (.tuple #[v, tmps.getD a undef, tmps.getD b undef, tmps.getD c undef]) w₂ := by
  simp only [results, h]
  simp [Sem.run_bind, Result.andThen]

/-- what is owned stays owned where all below N stays as it was, and it lies there -/
theorem own_below {w w' : World} {B N : Nat} {e : TypeId} {k : Nat} {v : Value} {n : Nat} {xs : List Value} (h : w.ownsRow B e k v n xs) (hb : Below N w w') (hn : w.heap.size ≤ N) : w'.ownsRow B e k v n xs := by
  refine ⟨h.1, ?_⟩
  rcases h.2 with h1 | ⟨g, cap, cur, h1, h2, h3, h4⟩
  · exact .inl h1
  · exact .inr ⟨g, cap, cur, h1, h2, (hb.block g (by have := lt_of_block h3; omega)).trans h3, h4⟩
theorem heap_old {w w' : World} {b : Nat} {o : Obj} (hb : Below w.heap.size w w') (h : w.heap[b]? = some o) : w'.heap[b]? = some o := (hb.block b (by
  have := (Array.getElem?_eq_some_iff.1 h).1; exact this)).trans h
theorem two_cells {w : World} {b : Nat} {v u : Value} {t : TypeId} (h : w.heap[b]? = some (.cells #[v, u] t (0, 0))) : (w.cell? ⟨b, 0, none⟩ = some v ∧ w.cell? ⟨b, 1, none⟩ = some u) ∧ w.frozen? ⟨b, 0, none⟩ = false ∧ w.frozen? ⟨b, 1, none⟩ = false := by
  refine ⟨⟨?_, ?_⟩, ?_, ?_⟩ <;> simp [World.cell?, World.frozen?, h]
end Go.Proofs.YtcodjknhnhdkfaaGreatDoor.By
namespace Go.Proofs.YtcodjknhnhdkfaaGreatDoor.Cm
open Go.RowKit Go.Lib By
set_option linter.unusedVariables false
/-- the cells of a block, one behind the other, from the i-th on -/
def setAll (b : Nat) : Nat → World → List Value → World
  | _, W, [] => W
  | i, W, v :: vs => setAll b (i + 1) (W.setCell ⟨b, i, none⟩ v) vs
theorem setAll_other {b : Nat} : ∀ (vs : List Value) (i : Nat) (W : World), (∀ k, k ≠ b → (setAll b i W vs).heap[k]? = W.heap[k]?) ∧ (setAll b i W vs).heap.size = W.heap.size ∧ (setAll b i W vs).os = W.os ∧ (setAll b i W vs).tape = W.tape ∧ (setAll b i W vs).output = W.output
  | [], i, W => ⟨fun _ _ => rfl, rfl, rfl, rfl, rfl⟩
  | v :: vs, i, W => by
    obtain ⟨h1, h2, h3, h4, h5⟩ := setAll_other vs (i + 1) (W.setCell ⟨b, i, none⟩ v)
    exact ⟨fun k hk => (h1 k hk).trans (heap_setCell_other W ⟨b, i, none⟩ k v hk), h2.trans (by simp [World.setCell]), h3, h4, h5⟩
theorem take_set1 {α : Type} : ∀ {l : List α} {i : Nat} (h : i < l.length) (v : α), (l.set i v).take (i + 1) = l.take i ++ [v]
  | [], i, h, v => by simp at h
  | x :: l, 0, h, v => by simp
  | x :: l, i + 1, h, v => by
    have := take_set1 (l := l) (i := i) (by simpa using h) v
    simp only [List.set_cons_succ, List.take_succ_cons, this, List.cons_append]
theorem setAll_same {b : Nat} {t : TypeId} : ∀ (vs : List Value) (i : Nat) (W : World) (cs : Array Value), W.heap[b]? = some (.cells cs t (0, 0)) → i + vs.length = cs.size →
    (setAll b i W vs).heap[b]? = some (.cells (cs.toList.take i ++ vs).toArray t (0, 0))
  | [], i, W, cs, h, hl => by
    have e : cs.toList.take i = cs.toList := List.take_of_length_le (by simp at hl ⊢; omega)
    rw [e, List.append_nil]
    exact h
  | v :: vs, i, W, cs, h, hl => by
    have h1 := heap_setCell_same W b i cs t v h
    simp only [List.length_cons] at hl
    have hi : i < cs.size := by omega
    have h2 := setAll_same vs (i + 1) _ _ h1 (by simp; omega)
    show (setAll b (i + 1) (W.setCell ⟨b, i, none⟩ v) vs).heap[b]? = _
    rw [h2]
    congr 2
    rw [Array.toList_setIfInBounds, take_set1 (by simpa using hi), List.append_assoc]
    rfl
/-- all of a block -/
theorem setAll_all {b : Nat} {t : TypeId} {W : World} {cs : Array Value} {vs : List Value} (h : W.heap[b]? = some (.cells cs t (0, 0))) (hl : vs.length = cs.size) : (setAll b 0 W vs).heap[b]? = some (.cells vs.toArray t (0, 0)) := by
  have := setAll_same vs 0 W cs h (by omega)
  simpa using this
/-- a part of a block: from the i-th cell on -/
theorem setAll_part {b : Nat} {t : TypeId} : ∀ (vs : List Value) (i : Nat) (W : World) (cs : Array Value), W.heap[b]? = some (.cells cs t (0, 0)) → i + vs.length ≤ cs.size →
    (setAll b i W vs).heap[b]? = some (.cells (cs.toList.take i ++ vs ++ cs.toList.drop (i + vs.length)).toArray t (0, 0))
  | [], i, W, cs, h, hl => by
    simp only [List.append_nil, List.length_nil, Nat.add_zero, List.take_append_drop]
    exact h
  | v :: vs, i, W, cs, h, hl => by
    have h1 := heap_setCell_same W b i cs t v h
    simp only [List.length_cons] at hl
    have hi : i < cs.size := by omega
    have h2 := setAll_part (b := b) vs (i + 1) _ _ h1 (by simp; omega)
    show (setAll b (i + 1) (W.setCell ⟨b, i, none⟩ v) vs).heap[b]? = _
    rw [h2]
    congr 2
    rw [Array.toList_setIfInBounds, take_set1 (by simpa using hi), List.drop_set_of_lt (by omega), show i + 1 + vs.length = i + (v :: vs).length by simp; omega]
    simp
theorem setAll_below {b N : Nat} {vs : List Value} {i : Nat} {w W : World} (h : Below N w W) (hb : N ≤ b) : Below N w (setAll b i W vs) := by
  obtain ⟨h1, h2, h3, h4, h5⟩ := setAll_other (b := b) vs i W
  exact ⟨h3.trans h.os, h4.trans h.tape, h5.trans h.output, by rw [h2]; exact h.size, fun k hk => (h1 k (by omega)).trans (h.block k hk)⟩
theorem setCells_all (b : Nat) : ∀ (vs : List Value) (o : Nat) (w : World), w.setCells b o vs = setAll b o w vs
  | [], _, _ => rfl
  | v :: vs, o, w => by rw [World.setCells, setAll]; exact setCells_all b vs (o + 1) _
theorem range_of {w : World} {b : Nat} {cs : List Value} {t : TypeId} (h : w.heap[b]? = some (.cells cs.toArray t (0, 0))) : w.rangeAt b 0 cs := by
  intro j v hj
  simp only [World.cell?, h, Nat.zero_add]
  simpa using hj
theorem there_of {w : World} {b n : Nat} {cs : Array Value} {t : TypeId} (h : w.heap[b]? = some (.cells cs t (0, 0))) (hn : n ≤ cs.size) : w.there b 0 n := by
  intro j hj
  simp only [World.cell?, World.frozen?, h, Nat.zero_add]
  refine ⟨?_, by simp⟩
  rw [Array.getElem?_eq_getElem (by omega)]
  rfl
end Go.Proofs.YtcodjknhnhdkfaaGreatDoor.Cm
